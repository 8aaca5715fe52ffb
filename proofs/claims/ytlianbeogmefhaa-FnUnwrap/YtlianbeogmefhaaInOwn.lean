/- A list of ints in a block of the call's own: its cells, the marks in it. -/
import Derived.Test.YtlianbeogmefhaaInList
import Derived.Laws.OwnMore
import Derived.Laws.AppendOwn
import Derived.OwnWalk
import Derived.Maps.AppendAt
namespace Go.Proofs.Ytlianbeogmefhaa
open Go.RowKit

/-- block b holds n ints and may be written -/
structure IP (w : World) (b n : Nat) (F : Nat → Int) : Prop where
  lt : b < w.heap.size
  c : ∀ i, i < n → w.cell? ⟨b, i, none⟩ = some (.int .i64 (F i))
  fz : ∀ j, w.frozen? ⟨b, j, none⟩ = false
theorem IP.below {w w' : World} {B b n : Nat} {F : Nat → Int} (h : IP w b n F) (k : Below B w w') (hB : b < B) : IP w' b n F :=
  ⟨Nat.lt_of_lt_of_le h.lt k.size, fun i hi => (k.cell (p := ⟨b, _, none⟩) hB).trans (h.c i hi), fun j => (k.frozen (p := ⟨b, j, none⟩) hB).trans (h.fz j)⟩
theorem IP.congr {w : World} {b n : Nat} {F G : Nat → Int} (h : IP w b n F) (e : ∀ i, i < n → F i = G i) : IP w b n G :=
  ⟨h.lt, fun i hi => by rw [← e i hi]; exact h.c i hi, h.fz⟩
theorem IP.il {w : World} {b n : Nat} {F : Nat → Int} (h : IP w b n F) : IL w (some ⟨b, 0, none⟩) n F :=
  fun _ => ⟨b, 0, rfl, h.lt, fun i hi => by rw [Nat.zero_add]; exact h.c i hi⟩
theorem cell_same {w w' : World} {b : Nat} (e : w'.heap[b]? = w.heap[b]?) (j : Nat) : w'.cell? ⟨b, j, none⟩ = w.cell? ⟨b, j, none⟩ := World.cell?_of_block (w := w) e
theorem frozen_same {w w' : World} {b : Nat} (e : w'.heap[b]? = w.heap[b]?) (j : Nat) : w'.frozen? ⟨b, j, none⟩ = w.frozen? ⟨b, j, none⟩ := World.frozen?_of_block (w := w) e
theorem IP.only {w w' : World} {b b' n : Nat} {F : Nat → Int} (h : IP w b n F) (k : Only b' w w') (hn : b ≠ b') : IP w' b n F :=
  ⟨by rw [k.size]; exact h.lt, fun i hi => (cell_same (k.block b hn) _).trans (h.c i hi), fun j => (frozen_same (k.block b hn) j).trans (h.fz j)⟩
theorem row_ip {w : World} {b n : Nat} {F : Nat → Int} (h : w.rowIs b 3 n (iRow F)) : IP w b n F := ⟨h.lt, fun _ hi => h.cell hi, fun j => h.frozen j⟩
def put (f : Nat → Int) (k : Nat) (v : Int) (i : Nat) : Int := if i = k then v else f i
theorem IP.set {w : World} {b n : Nat} {F : Nat → Int} (h : IP w b n F) {k : Nat} (hk : k < n) (u : Int) : IP (w.setCell ⟨b, k, none⟩ (.int .i64 u)) b n (put F k u) := by
  refine ⟨by simpa using h.lt, fun i hi => ?_, fun j => by simpa using h.fz j⟩
  unfold put
  by_cases e : i = k
  · subst e; rw [if_pos rfl]; exact World.cell?_setCell_same _ _ _ (h.c i hi)
  · rw [if_neg e]; exact (World.cell?_setCell_other _ _ _ _ (by simp <;> omega)).trans (h.c i hi)

set_option maxHeartbeats 1000000 in
theorem markP_any (b n cap m : Nat) (F : Nat → Int) (w : World) (hn : n ≤ 1048576) (hm : m ≤ 1048576 * 4) (h : IP w b n F) :
    Calls Try.prog 13 #[.slice (some ⟨b, 0, none⟩) n cap, .int .i64 (m : Int)] w fun e w' => e = .returned (.int .i64 ((m : Int) + (n : Int))) ∧ IP w' b n (fun i => (m : Int) + (i : Int)) ∧ Only b w w' := by
  go_enter Try.func13, Try.ntmps13
  go_wp2
  go_loopw [1, 5] (fun q i wr => ∃ (k : Nat) (F' : Nat → Int), k ≤ n ∧ i = .int .i64 k ∧ q = .int .i64 ((m : Int) + (k : Int)) ∧ IP wr b n F' ∧ (∀ j, j < k → F' j = (m : Int) + (j : Int)) ∧ Only b w wr) (fun _ i _ => n - (intOf i).toNat)
  case atStart => exact ⟨0, F, Nat.zero_le _, rfl, by simp, h, fun j hj => absurd hj (Nat.not_lt_zero _), Only.refl _ _⟩
  case round =>
    obtain ⟨k, F', hk, rfl, rfl, hP, hF, hO⟩ := hrel
    clear h
    by_cases hlt : k < n
    · have x0 := hP.c k hlt
      have f0 := hP.fz k
      have i0 : (0 : Int) ≤ (k : Int) := by omega
      have i1 : (k : Int) < (n : Int) := by omega
      go_wp2
      refine ⟨⟨k + 1, _, by omega, by go_num, by congr 1 <;> omega, hP.set hlt _, fun j hj => ?_, hO.set _ _⟩, by simp [intOf]; omega⟩
      unfold put
      by_cases e : j = k
      · subst e; simp
      · rw [if_neg e]; exact hF j (by omega)
    · have hke : k = n := by omega
      subst hke
      go_wp2
      go_ret
      exact ⟨rfl, hP.congr hF, hO⟩

set_option maxHeartbeats 1000000 in
theorem heldP_any (b n cap m : Nat) (w : World) (hn : n ≤ 1048576) (hm : m ≤ 1048576 * 4) (h : IP w b n (fun i => (m : Int) + (i : Int))) :
    Calls Try.prog 14 #[.slice (some ⟨b, 0, none⟩) n cap, .int .i64 (m : Int)] w fun e w' => e = .returned (.int .i64 ((m : Int) + (n : Int))) ∧ w' = w := by
  go_enter Try.func14, Try.ntmps14
  go_wp2
  go_loopw [1, 5] (fun q i wr => ∃ k : Nat, k ≤ n ∧ i = .int .i64 k ∧ q = .int .i64 ((m : Int) + (k : Int)) ∧ wr = w) (fun _ i _ => n - (intOf i).toNat)
  case atStart => exact ⟨0, Nat.zero_le _, rfl, by simp, rfl⟩
  case round =>
    obtain ⟨k, hk, rfl, rfl, hw⟩ := hrel
    subst hw
    by_cases hlt : k < n
    · have x0 := h.c k hlt
      have i0 : (0 : Int) ≤ (k : Int) := by omega
      have i1 : (k : Int) < (n : Int) := by omega
      clear h
      go_wp2
      exact ⟨⟨k + 1, by omega, by go_num, by congr 1 <;> omega, trivial⟩, by simp [intOf]; omega⟩
    · have hke : k = n := by omega
      subst hke
      clear h
      go_wp2
      go_ret
      exact ⟨rfl, rfl⟩

/-- the first k ints as cells -/
def vL (F : Nat → Int) (k : Nat) : List Value := (List.range k).map fun i => .int .i64 (F i)
theorem vL_len (F : Nat → Int) (k : Nat) : (vL F k).length = k := by simp [vL]
theorem vL_get {F : Nat → Int} {k i : Nat} (h : i < k) : (vL F k)[i]? = some (.int .i64 (F i)) := by simp [vL, h]
theorem vL_succ (F : Nat → Int) (k : Nat) : vL F (k + 1) = vL F k ++ [.int .i64 (F k)] := by simp [vL, List.range_succ]

/-- the slice v is the call's own, with F's first k ints -/
def Own (w : World) (base : Nat) (v : Value) (k : Nat) (F : Nat → Int) : Prop := w.ownsRow base 3 1 v k (vL F k)
theorem Own.some {w : World} {base : Nat} {v : Value} {k : Nat} {F : Nat → Int} (h : Own w base v k F) (hk : 0 < k) : ∃ g cap, v = .slice (some ⟨g, 0, none⟩) k cap ∧ base ≤ g ∧ IP w g k F := by
  have h' := h
  obtain ⟨_, h0 | ⟨g, cap, cur, rfl, h2, h3, _⟩⟩ := h
  · omega
  · have hlt : g < w.heap.size := (Array.getElem?_eq_some_iff.1 h3).1
    refine ⟨g, cap, rfl, h2, hlt, fun i hi => ?_, fun j => World.ownsRow.frozenAt h' j⟩
    rw [World.ownsRow.cellAt h' i (by omega)]; exact vL_get hi
theorem Own.below {w w' : World} {base : Nat} {v : Value} {k : Nat} {F : Nat → Int} (h : Own w base v k F) (b : Below w.heap.size w w') : Own w' base v k F := by
  obtain ⟨hl, h⟩ := h
  refine ⟨hl, ?_⟩
  rcases h with h | ⟨g, cap, cur, h1, h2, h3, h4⟩
  · exact .inl h
  · have hg : g < w.heap.size := (Array.getElem?_eq_some_iff.1 h3).1
    exact .inr ⟨g, cap, cur, h1, h2, (b.block g hg).trans h3, h4⟩
end Go.Proofs.Ytlianbeogmefhaa
