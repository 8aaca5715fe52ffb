/- Copies of lists of points: the builtin copy, and the law's own; are all points good. -/
import Derived.Test.YtgcnkecfdmafdaaPtGuessB
import Derived.Laws.CopyOwn
namespace Go.Proofs.Ytgcnkecfdmafdaa
open Go.RowKit

/-- the cells of n points -/
def pL (X Y : Nat → Nat) : Nat → List Value
  | 0 => []
  | k + 1 => pL X Y k ++ [.float .f64 (X k), .float .f64 (Y k)]
theorem pL_len (X Y : Nat → Nat) (k : Nat) : (pL X Y k).length = k * 2 := by
  induction k with
  | zero => rfl
  | succ k ih => simp only [pL, List.length_append, ih, List.length_cons, List.length_nil]; omega
theorem pL_get {X Y : Nat → Nat} {k i : Nat} (hi : i < k) : (pL X Y k)[i * 2]? = some (.float .f64 (X i)) ∧ (pL X Y k)[i * 2 + 1]? = some (.float .f64 (Y i)) := by
  induction k with
  | zero => omega
  | succ k ih =>
    simp only [pL]
    by_cases e : i = k
    · subst e
      rw [List.getElem?_append_right (by rw [pL_len]; omega), List.getElem?_append_right (by rw [pL_len]; omega), pL_len]
      refine ⟨by simp, ?_⟩
      have : i * 2 + 1 - i * 2 = 1 := by omega
      rw [this]; rfl
    · rw [List.getElem?_append_left (by rw [pL_len]; omega), List.getElem?_append_left (by rw [pL_len]; omega)]
      exact ih (by omega)
theorem pL_one (X Y : Nat → Nat) (k : Nat) : ∀ v ∈ pL X Y k, v.oneCell' = true := by
  induction k with
  | zero => intro v hv; cases hv
  | succ k ih =>
    intro v hv
    simp only [pL, List.mem_append, List.mem_cons, List.not_mem_nil, or_false] at hv
    rcases hv with hv | rfl | rfl
    · exact ih v hv
    · rfl
    · rfl
theorem pL_src {w : World} {b n : Nat} {X Y : Nat → Nat} (h : PS w b n X Y) : ∀ j v, (pL X Y n)[j]? = some v → w.cell? ((⟨b, 0, none⟩ : Addr).add j) = some v := by
  intro j v hv
  have hj : j < n * 2 := by
    have := (List.getElem?_eq_some_iff.1 hv).1
    rwa [pL_len] at this
  have hadd : (⟨b, 0, none⟩ : Addr).add j = ⟨b, j, none⟩ := by unfold Addr.add; split <;> simp_all
  rw [hadd]
  rcases Nat.mod_two_eq_zero_or_one j with e | e
  · have hq : j = j / 2 * 2 := by omega
    rw [hq] at hv ⊢
    rw [(pL_get (by omega)).1] at hv
    rw [← hv]; exact h.c0 _ (by omega)
  · have hq : j = j / 2 * 2 + 1 := by omega
    rw [hq] at hv ⊢
    rw [(pL_get (by omega)).2] at hv
    rw [← hv]; exact h.c1 _ (by omega)

theorem sizeP : (Try.prog.info? 25).map (·.size) = some 2 := by kernel_rfl
theorem run_copy_pts (w : World) (ty : TypeId) (g n sb c1 c2 : Nat) (cur : Array Value) (t : TypeId) (X Y : Nat → Nat) (hg : w.heap[g]? = some (.cells cur t (0, 0))) (hc : cur.size = n * 2) (h : PS w sb n X Y) :
    (Builtin.copy_ #[36, 36] ty #[.slice (some ⟨g, 0, none⟩) n c1, .slice (some ⟨sb, 0, none⟩) n c2]).run Try.prog w = .ok (goInt n) (w.setRow g (pL X Y n).toArray) := by
  have hl := run_loadCells_list (P := Try.prog) w ⟨sb, 0, none⟩ (pL X Y n) (pL_src h)
  have hst := run_storeCells_at Try.prog g 0 t (pL X Y n) 0 cur w hg (by rw [pL_len, hc]; omega) (pL_one X Y n)
  have hdrop : cur.toList.drop (0 + 0 + (pL X Y n).length) = [] := List.drop_eq_nil_of_le (by rw [pL_len]; simp [hc])
  rw [hdrop] at hst
  simp only [Nat.add_zero, List.take_zero, List.nil_append, List.append_nil] at hst
  rw [pL_len] at hl
  cases hq : Try.prog.info? 25 with
  | none => have := sizeP; rw [hq] at this; cases this
  | some i =>
    have hi : i.size = 2 := by have := sizeP; rw [hq] at this; simpa using this
    simp [Builtin.copy_, run_underlying Try.underlying36, Builtin.lenOf, Builtin.firstCells, sizeOf, typeInfo, hq, hi, hl, hst]
theorem copied_pts {w : World} {g n : Nat} {cur : Array Value} {t : TypeId} {X Y : Nat → Nat} (hg : w.heap[g]? = some (.cells cur t (0, 0))) : PS (w.setRow g (pL X Y n).toArray) g n X Y ∧ Only g w (w.setRow g (pL X Y n).toArray) := by
  have hh := setRow_heap w g cur (pL X Y n).toArray t (0, 0) hg
  have hlt : g < (w.setRow g (pL X Y n).toArray).heap.size := by
    obtain ⟨hlt, _⟩ := Array.getElem?_eq_some_iff.1 hh
    exact hlt
  refine ⟨⟨hlt, fun i hi => ?_, fun i hi => ?_, fun j => ?_⟩, ⟨rfl, rfl, rfl, by simp [World.setRow], fun k hk => setRow_other w g k _ hk⟩⟩
  · unfold World.cell?; simp only [hh]; simpa using (pL_get hi).1
  · unfold World.cell?; simp only [hh]; simpa using (pL_get hi).2
  · unfold World.frozen?; simp only [hh]; simp
theorem wpList_copy_pts {w : World} {ops : Array Oper} {rest : List Oper} {o : Oper} {a : Act} {Q : Exit → Act → World → Prop} (hgd : o.guard = none) (d s : Operand)
    (ho : o.op = .call { callee := .builtin .copy, args := #[d, s], argTypes := #[36, 36] }) (g n sb c1 c2 : Nat) (hd : a.eval d = .slice (some ⟨g, 0, none⟩) n c1) (hs : a.eval s = .slice (some ⟨sb, 0, none⟩) n c2)
    (cur : Array Value) (t : TypeId) (X Y : Nat → Nat) (hg : w.heap[g]? = some (.cells cur t (0, 0))) (hc : cur.size = n * 2) (h : PS w sb n X Y)
    (hk : ∀ w', PS w' g n X Y → Only g w w' → wpList Try.prog ops Q rest (a.put o.dst (goInt n)) w') : wpList Try.prog ops Q (o :: rest) a w := by
  refine wpList_plain hgd fun K hK => ?_
  have hrun := run_copy_pts w o.type g n sb c1 c2 cur t X Y hg hc h
  unfold Oper.wp
  simp [execOp, ho, resolve, invoke, builtin, hd, hs, hrun, Result.andThen]
  exact hK _ _ (hk _ (copied_pts hg).1 (copied_pts hg).2)

/-- the points of a slice that came in -/
def PA (w : World) (a : Option Addr) (n : Nat) (X Y : Nat → Nat) : Prop := (∀ i, i < n → X i < 18446744073709551616 ∧ Y i < 18446744073709551616) ∧ (0 < n → ∃ b off, a = some ⟨b, off, none⟩ ∧ b < w.heap.size ∧ ∀ i, i < n → w.cell? ⟨b, off + i * 2, none⟩ = some (.float .f64 (X i)) ∧ w.cell? ⟨b, off + i * 2 + 1, none⟩ = some (.float .f64 (Y i)))
theorem PA.below {w w' : World} {a : Option Addr} {n : Nat} {X Y : Nat → Nat} (h : PA w a n X Y) (k : Below w.heap.size w w') : PA w' a n X Y :=
  ⟨h.1, fun h0 => by
    obtain ⟨b, off, ha, hb, hc⟩ := h.2 h0
    exact ⟨b, off, ha, Nat.lt_of_lt_of_le hb k.size, fun i hi => ⟨(k.cell (p := ⟨b, _, none⟩) hb).trans (hc i hi).1, (k.cell (p := ⟨b, _, none⟩) hb).trans (hc i hi).2⟩⟩⟩

set_option maxHeartbeats 1000000 in
theorem toPoints_any (a : Option Addr) (n cap : Nat) (X Y : Nat → Nat) (w : World) (hn : n ≤ 1048576) (h : PA w a n X Y) :
    Calls Try.prog 26 #[.slice a n cap] w fun e w' => e = .returned (.slice (some ⟨w.heap.size, 0, none⟩) n n) ∧ PS w' w.heap.size n X Y ∧ Below w.heap.size w w' := by
  have hmk := run_make_pts n hn
  have hP0 := made_pts w n
  have hb0 : Below w.heap.size w (w.alloc (.cells (madeCells #[.float .f64 0, .float .f64 0] (n * 2)) 25)) := (Below.refl _ _).alloc (Nat.le_refl _) _
  go_enter Try.func26, Try.ntmps26
  go_wp2
  clear hmk
  go_loopw [4] (fun i wr => ∃ (k : Nat) (X' Y' : Nat → Nat), k ≤ n ∧ i = .int .i64 k ∧ PS wr w.heap.size n X' Y' ∧ (∀ j, j < k → X' j = X j ∧ Y' j = Y j) ∧ Below w.heap.size w wr) (fun i _ => n - (intOf i).toNat)
  case atStart => exact ⟨0, _, _, Nat.zero_le _, rfl, hP0, fun j hj => absurd hj (Nat.not_lt_zero _), hb0⟩
  case round =>
    obtain ⟨k, X', Y', hk, rfl, hP, hd, hB⟩ := hrel
    clear hP0 hb0
    by_cases hlt : k < n
    · obtain ⟨b, off, rfl, hbw, hcell⟩ := (h.below hB).2 (by omega)
      obtain ⟨y0, y1⟩ := hcell k hlt
      have i0 : (0 : Int) ≤ (k : Int) := by omega
      have i1 : (k : Int) < (n : Int) := by omega
      clear hcell
      go_wp2_with fail
      refine (toPoint_any (X k) (Y k) _).mono ?_
      rintro e w1 ⟨rfl, hb1⟩
      have hP1 := hP.below hb1 hP.lt
      have hB1 := hB.trans (hb1.mono hB.size)
      have x0 := hP1.c0 k hlt
      have x1 := hP1.c1 k hlt
      have f0 := hP1.fz (k * 2)
      have f1 := hP1.fz (k * 2 + 1)
      clear hP hB hb1 y0 y1 hbw
      go_wp2
      refine ⟨⟨k + 1, _, _, by omega, by go_num, (hP1.set0 hlt _).set1 hlt _, fun j hj => ?_, (hB1.setCell (p := ⟨_, _, none⟩) (Nat.le_refl _) _).setCell (p := ⟨_, _, none⟩) (Nat.le_refl _) _⟩, by simp [intOf]; omega⟩
      unfold put
      by_cases e : j = k
      · subst e; simp
      · rw [if_neg e, if_neg e]; exact hd j (by omega)
    · have hke : k = n := by omega
      subst hke
      go_wp2
      go_ret
      exact ⟨rfl, hP.congr hd, hB⟩

/-- are the first n points good -/
def allP (X Y : Nat → Nat) : Nat → Bool
  | 0 => true
  | k + 1 => allP X Y k && (goodB (X k) && goodB (Y k))
theorem allP_false {X Y : Nat → Nat} {k n : Nat} (hk : k < n) (h : (goodB (X k) && goodB (Y k)) = false) : allP X Y n = false := by
  induction n with
  | zero => omega
  | succ n ih =>
    by_cases e : k = n
    · subst e; simp [allP, h]
    · simp [allP, ih (by omega)]
theorem allP_good {X Y : Nat → Nat} {n : Nat} (h : allP X Y n = true) : ∀ i, i < n → goodB (X i) = true ∧ goodB (Y i) = true := by
  induction n with
  | zero => intro i hi; omega
  | succ n ih =>
    simp only [allP, Bool.and_eq_true] at h
    intro i hi
    by_cases e : i = n
    · subst e; exact h.2
    · exact ih h.1 i (by omega)
theorem good_plain {x : Nat} (h : goodB x = true) (hx : x < 18446744073709551616) : plain x = x := by
  unfold goodB at h
  unfold plain
  by_cases hz : zeroB x = true
  · rw [if_pos hz]
    simp only [hz, Bool.true_and, Bool.and_eq_true, Bool.not_eq_true'] at h
    have h1 := h.2
    unfold sgnB at h1
    have h2 : rung x = 0 := by simpa [zeroB] using hz
    have h3 : rung x = x % 9223372036854775808 := rfl
    simp at h1
    omega
  · rw [if_neg hz]

set_option maxHeartbeats 1000000 in
theorem goodPoints_any (a : Option Addr) (n cap : Nat) (X Y : Nat → Nat) (w : World) (hn : n ≤ 1048576) (hb : ∀ i, i < n → X i < 18446744073709551616 ∧ Y i < 18446744073709551616) (h : PL w a n X Y) :
    Calls Try.prog 49 #[.slice a n cap] w fun e w' => e = .returned (.bool (allP X Y n)) ∧ Below w.heap.size w w' := by
  go_enter Try.func49, Try.ntmps49
  go_wp2
  go_loopw [7] (fun i wr => ∃ k : Nat, k ≤ n ∧ i = .int .i64 k ∧ allP X Y k = true ∧ Below w.heap.size w wr) (fun i _ => n - (intOf i).toNat)
  case atStart => exact ⟨0, Nat.zero_le _, rfl, rfl, Below.refl _ _⟩
  case round =>
    obtain ⟨k, hk, rfl, hall, hB⟩ := hrel
    by_cases hlt : k < n
    · obtain ⟨b, rfl, hs⟩ := (h.below hB) (by omega)
      have x0 := hs.c0 k hlt
      have x1 := hs.c1 k hlt
      obtain ⟨hbx, hby⟩ := hb k hlt
      have i0 : (0 : Int) ≤ (k : Int) := by omega
      have i1 : (k : Int) < (n : Int) := by omega
      have l1 := hs.lt
      clear hs
      go_wp2_with fail
      refine (specGoodPt_any (X k) (Y k) _ hbx hby).mono ?_
      rintro e w1 ⟨rfl, hb1⟩
      have hB1 := (hB.alloc hB.size (.cells #[.float .f64 (X k), .float .f64 (Y k)] 25)).trans (hb1.mono (by simp; have := hB.size; omega))
      clear hb1 hB x0 x1
      cases hg : (goodB (X k) && goodB (Y k)) with
      | true =>
        go_wp2
        exact ⟨⟨k + 1, by omega, by go_num, by simp only [allP, hall, hg, Bool.and_self], hB1⟩, by simp [intOf]; omega⟩
      | false =>
        go_wp2
        go_ret
        rw [allP_false hlt hg]
        exact ⟨rfl, hB1⟩
    · have hke : k = n := by omega
      subst hke
      go_wp2
      go_ret
      rw [hall]
      exact ⟨rfl, hB⟩
end Go.Proofs.Ytgcnkecfdmafdaa
