/- Lists of points in memory, and the contracts of the functions that compare them, mark them, and look for the marks. -/
import Derived.Test.YtgcnkecfdmafdaaPtMulLaw
import Derived.Test.YtgcnkecfdmafdaaPtPolyC
namespace Go.Proofs.Ytgcnkecfdmafdaa
open Go.RowKit

/-- block b holds n points and may be written -/
structure PS (w : World) (b n : Nat) (X Y : Nat → Nat) : Prop where
  lt : b < w.heap.size
  c0 : ∀ i, i < n → w.cell? ⟨b, i * 2, none⟩ = some (.float .f64 (X i))
  c1 : ∀ i, i < n → w.cell? ⟨b, i * 2 + 1, none⟩ = some (.float .f64 (Y i))
  fz : ∀ j, w.frozen? ⟨b, j, none⟩ = false
theorem PS.below {w w' : World} {B b n : Nat} {X Y : Nat → Nat} (h : PS w b n X Y) (k : Below B w w') (hB : b < B) : PS w' b n X Y :=
  ⟨Nat.lt_of_lt_of_le h.lt k.size, fun i hi => (k.cell (p := ⟨b, _, none⟩) hB).trans (h.c0 i hi), fun i hi => (k.cell (p := ⟨b, _, none⟩) hB).trans (h.c1 i hi), fun j => (k.frozen (p := ⟨b, j, none⟩) hB).trans (h.fz j)⟩
theorem PS.congr {w : World} {b n : Nat} {X Y X' Y' : Nat → Nat} (h : PS w b n X Y) (e : ∀ i, i < n → X i = X' i ∧ Y i = Y' i) : PS w b n X' Y' :=
  ⟨h.lt, fun i hi => by rw [← (e i hi).1]; exact h.c0 i hi, fun i hi => by rw [← (e i hi).2]; exact h.c1 i hi, h.fz⟩
/-- the points of a slice; of none where it has none -/
def PL (w : World) (a : Option Addr) (n : Nat) (X Y : Nat → Nat) : Prop := 0 < n → ∃ b, a = some ⟨b, 0, none⟩ ∧ PS w b n X Y
theorem PL.below {w w' : World} {a : Option Addr} {n : Nat} {X Y : Nat → Nat} (h : PL w a n X Y) (k : Below w.heap.size w w') : PL w' a n X Y := fun h0 => by
  obtain ⟨b, ha, hb⟩ := h h0
  exact ⟨b, ha, hb.below k hb.lt⟩

/-- block b alone has turned -/
structure Only (b : Nat) (w w' : World) : Prop where
  os : w'.os = w.os
  tape : w'.tape = w.tape
  output : w'.output = w.output
  size : w'.heap.size = w.heap.size
  block : ∀ k, k ≠ b → w'.heap[k]? = w.heap[k]?
theorem Only.refl (b : Nat) (w : World) : Only b w w := ⟨rfl, rfl, rfl, rfl, fun _ _ => rfl⟩
theorem Only.set {b : Nat} {w w' : World} (h : Only b w w') (j : Nat) (u : Value) : Only b w (w'.setCell ⟨b, j, none⟩ u) :=
  ⟨h.os, h.tape, h.output, by simpa using h.size, fun k hk => (Below.heap_setCell w' ⟨b, j, none⟩ u k hk).trans (h.block k hk)⟩
theorem Only.drewN {b : Nat} {w w' : World} (h : Only b w w') (n : Nat) : Only b w (w'.drewN n) := ⟨h.os, h.tape, h.output, h.size, h.block⟩
theorem Only.below {b : Nat} {w w' : World} (h : Only b w w') : Below b w w' := ⟨h.os, h.tape, h.output, Nat.le_of_eq h.size.symm, fun k hk => h.block k (Nat.ne_of_lt hk)⟩
theorem cell_same {w w' : World} {b : Nat} (e : w'.heap[b]? = w.heap[b]?) (j : Nat) : w'.cell? ⟨b, j, none⟩ = w.cell? ⟨b, j, none⟩ := World.cell?_of_block (w := w) e
theorem frozen_same {w w' : World} {b : Nat} (e : w'.heap[b]? = w.heap[b]?) (j : Nat) : w'.frozen? ⟨b, j, none⟩ = w.frozen? ⟨b, j, none⟩ := World.frozen?_of_block (w := w) e
theorem PS.only {w w' : World} {b b' n : Nat} {X Y : Nat → Nat} (h : PS w b n X Y) (k : Only b' w w') (hn : b ≠ b') : PS w' b n X Y :=
  ⟨by rw [k.size]; exact h.lt, fun i hi => (cell_same (k.block b hn) _).trans (h.c0 i hi), fun i hi => (cell_same (k.block b hn) _).trans (h.c1 i hi), fun j => (frozen_same (k.block b hn) j).trans (h.fz j)⟩

def put (f : Nat → Nat) (k v : Nat) (i : Nat) : Nat := if i = k then v else f i
theorem PS.set0 {w : World} {b n : Nat} {X Y : Nat → Nat} (h : PS w b n X Y) {k : Nat} (hk : k < n) (u : Nat) : PS (w.setCell ⟨b, k * 2, none⟩ (.float .f64 u)) b n (put X k u) Y := by
  refine ⟨by simpa using h.lt, fun i hi => ?_, fun i hi => ?_, fun j => by simpa using h.fz j⟩
  · unfold put
    by_cases e : i = k
    · subst e; rw [if_pos rfl]; exact World.cell?_setCell_same _ _ _ (h.c0 i hi)
    · rw [if_neg e]; exact (World.cell?_setCell_other _ _ _ _ (by simp <;> omega)).trans (h.c0 i hi)
  · exact (World.cell?_setCell_other _ _ _ _ (by simp <;> omega)).trans (h.c1 i hi)
theorem PS.set1 {w : World} {b n : Nat} {X Y : Nat → Nat} (h : PS w b n X Y) {k : Nat} (hk : k < n) (u : Nat) : PS (w.setCell ⟨b, k * 2 + 1, none⟩ (.float .f64 u)) b n X (put Y k u) := by
  refine ⟨by simpa using h.lt, fun i hi => ?_, fun i hi => ?_, fun j => by simpa using h.fz j⟩
  · exact (World.cell?_setCell_other _ _ _ _ (by simp <;> omega)).trans (h.c0 i hi)
  · unfold put
    by_cases e : i = k
    · subst e; rw [if_pos rfl]; exact World.cell?_setCell_same _ _ _ (h.c1 i hi)
    · rw [if_neg e]; exact (World.cell?_setCell_other _ _ _ _ (by simp <;> omega)).trans (h.c1 i hi)

theorem keep4 {w w' : World} {b1 b2 o1 o2 o3 o4 : Nat} {v1 v2 v3 v4 : Value} (x0 : w.cell? ⟨b1, o1, none⟩ = some v1) (x1 : w.cell? ⟨b1, o2, none⟩ = some v2) (y0 : w.cell? ⟨b2, o3, none⟩ = some v3) (y1 : w.cell? ⟨b2, o4, none⟩ = some v4) (l1 : b1 < w.heap.size) (l2 : b2 < w.heap.size) (k : Below w.heap.size w w') :
    w'.cell? ⟨b1, o1, none⟩ = some v1 ∧ w'.cell? ⟨b1, o2, none⟩ = some v2 ∧ w'.cell? ⟨b2, o3, none⟩ = some v3 ∧ w'.cell? ⟨b2, o4, none⟩ = some v4 :=
  ⟨(k.cell (p := ⟨b1, _, none⟩) l1).trans x0, (k.cell (p := ⟨b1, _, none⟩) l1).trans x1, (k.cell (p := ⟨b2, _, none⟩) l2).trans y0, (k.cell (p := ⟨b2, _, none⟩) l2).trans y1⟩

set_option maxHeartbeats 1000000 in
theorem eqPoints_any (a1 a2 : Option Addr) (n c1 c2 : Nat) (X Y : Nat → Nat) (w : World) (hn : n ≤ 1048576) (h1 : PL w a1 n X Y) (h2 : PL w a2 n X Y) (hb : ∀ i, i < n → X i < 18446744073709551616 ∧ Y i < 18446744073709551616) :
    Calls Try.prog 21 #[.slice a1 n c1, .slice a2 n c2] w fun e w' => e = .returned (.bool true) ∧ Below w.heap.size w w' := by
  go_enter Try.func21, Try.ntmps21
  go_wp2
  go_loopw [5] (fun i wr => ∃ k : Nat, k ≤ n ∧ i = .int .i64 k ∧ Below w.heap.size w wr) (fun i _ => n - (intOf i).toNat)
  case atStart => exact ⟨0, Nat.zero_le _, rfl, Below.refl _ _⟩
  case round =>
    obtain ⟨k, hk, rfl, hB⟩ := hrel
    by_cases hlt : k < n
    · obtain ⟨b1, rfl, s1⟩ := h1 (by omega)
      obtain ⟨b2, rfl, s2⟩ := h2 (by omega)
      have t1 := s1.below hB s1.lt
      have t2 := s2.below hB s2.lt
      have x0 := t1.c0 k hlt
      have x1 := t1.c1 k hlt
      have y0 := t2.c0 k hlt
      have y1 := t2.c1 k hlt
      obtain ⟨hbx, hby⟩ := hb k hlt
      have hlt' : (k : Int) < (n : Int) := by omega
      have l1 := t1.lt
      have l2 := t2.lt
      have hw0 := Below.refl wr.heap.size wr
      clear t1 t2 s1 s2 h1 h2 hb
      go_wp2_with fail
      go_region_held3 (fun w' => w'.cell? ⟨b1, k * 2, none⟩ = some (.float .f64 (X k)) ∧ w'.cell? ⟨b1, k * 2 + 1, none⟩ = some (.float .f64 (Y k)) ∧ w'.cell? ⟨b2, k * 2, none⟩ = some (.float .f64 (X k)) ∧ w'.cell? ⟨b2, k * 2 + 1, none⟩ = some (.float .f64 (Y k)))
        (first | (exact keep4 x0 x1 y0 y1 l1 l2 hw0.drew) | (exact keep4 x0 x1 y0 y1 l1 l2 hw1) | (fail))
        ((go_at_call 12; refine (eqPoint_any _ _ _ hbx hby).mono ?_; rintro e w1 ⟨rfl, hbn⟩; have hw1 := stepA hw0.drew hbn; clear hbn))
      go_wp2
      go_roundw
      case rel => exact ⟨k + 1, by omega, by go_num, hB.trans (hw1.mono hB.size)⟩
      case measure => simp [intOf]; omega
    · clear h1 h2 hb
      go_wp2
      go_ret
      exact ⟨rfl, hB⟩

/-- a mark -/
def cv (n : Int) : Nat := floatOfInt .f64 n
theorem word_rung (s : Bool) {r : Nat} (h : r < 9223372036854775808) : rung (D.word s r) = r := by
  have hr : ∀ m, rung m = m % 9223372036854775808 := fun _ => rfl
  rw [hr]
  unfold Ieee.Format.word
  have e : D.signWeight = 9223372036854775808 := rfl
  rw [e]
  cases s
  · simp only [Bool.false_eq_true, if_false]; omega
  · simp only [if_true]; omega
theorem near_rung (s : Bool) (m : Nat) (p : Int) : rung (D.nearest s m p) ≤ INF := by
  have hi : D.infRung = INF := rfl
  have hl : INF < 9223372036854775808 := by decide
  unfold Ieee.Format.nearest
  split
  · rw [word_rung _ (by decide)]; exact Nat.zero_le _
  · simp only []
    rw [hi, word_rung _ (Nat.lt_of_le_of_lt (Nat.min_le_right _ _) hl)]
    exact Nat.min_le_right _ _
theorem cv_rung (n : Int) : rung (cv n) ≤ INF := near_rung _ _ _
theorem cv_ne (n : Int) : (FloatKind.f64.format.order (cv n) (cv n) != some .eq) = false := by
  rw [nan_ord]
  unfold nanB
  have := cv_rung n
  simp; omega

set_option maxHeartbeats 1000000 in
theorem markPoints_any (b n cap m : Nat) (X Y : Nat → Nat) (w : World) (hn : n ≤ 1048576) (hm : m ≤ 1048576 * 4) (h : PS w b n X Y) :
    Calls Try.prog 22 #[.slice (some ⟨b, 0, none⟩) n cap, .int .i64 (m : Int)] w fun e w' => e = .returned (.int .i64 ((m : Int) + 2 * (n : Int))) ∧ PS w' b n (fun i => cv ((m : Int) + 2 * (i : Int))) (fun i => cv ((m : Int) + 2 * (i : Int) + 1)) ∧ Only b w w' := by
  go_enter Try.func22, Try.ntmps22
  go_wp2
  go_loopw [1, 5] (fun q i wr => ∃ (k : Nat) (X' Y' : Nat → Nat), k ≤ n ∧ i = .int .i64 k ∧ q = .int .i64 ((m : Int) + 2 * (k : Int)) ∧ PS wr b n X' Y' ∧ (∀ j, j < k → X' j = cv ((m : Int) + 2 * (j : Int)) ∧ Y' j = cv ((m : Int) + 2 * (j : Int) + 1)) ∧ Only b w wr) (fun _ i _ => n - (intOf i).toNat)
  case atStart => exact ⟨0, X, Y, Nat.zero_le _, rfl, by simp, h, fun j hj => absurd hj (Nat.not_lt_zero _), Only.refl _ _⟩
  case round =>
    obtain ⟨k, X', Y', hk, rfl, rfl, hP, hm', hO⟩ := hrel
    by_cases hlt : k < n
    · have x0 := hP.c0 k hlt
      have x1 := hP.c1 k hlt
      have f0 := hP.fz (k * 2)
      have f1 := hP.fz (k * 2 + 1)
      have i0 : (0 : Int) ≤ (k : Int) := by omega
      have i1 : (k : Int) < (n : Int) := by omega
      go_wp2
      refine ⟨⟨k + 1, _, _, by omega, by go_num, by congr 1 <;> omega, (hP.set0 hlt _).set1 hlt _, fun j hj => ?_, (hO.set _ _).set _ _⟩, by simp [intOf]; omega⟩
      unfold put
      by_cases e : j = k
      · subst e; simp only [if_true]; exact ⟨rfl, rfl⟩
      · rw [if_neg e, if_neg e]; exact hm' j (by omega)
    · have hke : k = n := by omega
      subst hke
      go_wp2
      go_ret
      exact ⟨rfl, hP.congr hm', hO⟩

set_option maxHeartbeats 1000000 in
theorem heldPoints_any (b n cap m : Nat) (w : World) (hn : n ≤ 1048576) (hm : m ≤ 1048576 * 4) (h : PS w b n (fun i => cv ((m : Int) + 2 * (i : Int))) (fun i => cv ((m : Int) + 2 * (i : Int) + 1))) :
    Calls Try.prog 23 #[.slice (some ⟨b, 0, none⟩) n cap, .int .i64 (m : Int)] w fun e w' => e = .returned (.int .i64 ((m : Int) + 2 * (n : Int))) ∧ w' = w := by
  go_enter Try.func23, Try.ntmps23
  go_wp2
  go_loopw [1, 5] (fun q i wr => ∃ k : Nat, k ≤ n ∧ i = .int .i64 k ∧ q = .int .i64 ((m : Int) + 2 * (k : Int)) ∧ wr = w) (fun _ i _ => n - (intOf i).toNat)
  case atStart => exact ⟨0, Nat.zero_le _, rfl, by simp, rfl⟩
  case round =>
    obtain ⟨k, hk, rfl, rfl, hw⟩ := hrel
    subst hw
    by_cases hlt : k < n
    · have x0 := h.c0 k hlt
      have x1 := h.c1 k hlt
      have i0 : (0 : Int) ≤ (k : Int) := by omega
      have i1 : (k : Int) < (n : Int) := by omega
      have e0 := cv_ne ((m : Int) + 2 * (k : Int))
      have e1 := cv_ne ((m : Int) + 2 * (k : Int) + 1)
      unfold cv at x0 x1 e0 e1
      clear h
      go_wp2
      exact ⟨⟨k + 1, by omega, by go_num, by congr 1 <;> omega, trivial⟩, by simp [intOf]; omega⟩
    · have hke : k = n := by omega
      subst hke
      clear h
      go_wp2
      go_ret
      exact ⟨rfl, rfl⟩
end Go.Proofs.Ytgcnkecfdmafdaa
