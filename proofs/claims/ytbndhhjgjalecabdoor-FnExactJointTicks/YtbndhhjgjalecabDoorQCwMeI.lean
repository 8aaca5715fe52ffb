/- Whether two meet, as the program tells it. -/
import Derived.Test.YtbndhhjgjalecabDoorQCwMtM
import Derived.Test.YtbndhhjgjalecabDoorQLqBase
import Derived.ChangeKeysEq
namespace Go.Proofs.YtbndhhjgjalecabDoor
open Go.RowKit

abbrev cpv (a b : Int) : Value := .agg #[.int .i64 a, .int .i64 b]
def mtB (x y a b : Int) : Bool := (x == y) || ((decide (x = b)) && (decide (y = a)))
theorem eq_couple (a b c d : Int) (w : World) : (Op.equalIn 10000 48 (cpv a b) (cpv c d)).run Tryd.prog w = .ok (decide (a = c) && decide (b = d)) w := by
  rw [run_equalIn_array (i := (Tryd.prog.info? 3).getD default) w 9999 (t := 48) (e := 3) (n := 2) _ _ Tryd.underlying48 (by kernel_rfl)]
  have hc : Tryd.prog.cellsOf 3 = 1 := by kernel_rfl
  rw [hc]
  have hr : List.range 2 = [0, 1] := by decide
  rw [hr]
  have hp : ∀ (xs : Array Value) (k : Nat) (v : Int), xs[k]? = some (.int .i64 v) → ∀ w, (part 3 xs (k * 1)).run Tryd.prog w = .ok (.int .i64 v) w := by
    intro xs k v h w
    simp [part, go_sem, h]
  have he : ∀ (x y : Int) (w : World), (Op.equalIn 9999 3 (.int .i64 x) (.int .i64 y)).run Tryd.prog w = .ok (x == y) w := fun x y w => run_equalIn_int w 9998 3 .i64 .i64 x y Tryd.underlying3
  have q0 := hp #[.int .i64 a, .int .i64 b] 0 a rfl
  have q1 := hp #[.int .i64 a, .int .i64 b] 1 b rfl
  have z0 := hp #[.int .i64 c, .int .i64 d] 0 c rfl
  have z1 := hp #[.int .i64 c, .int .i64 d] 1 d rfl
  simp only [Op.eqItems, Sem.run_bind, q0, q1, z0, z1, Result.andThen_ok, he, Sem.run_ite, Sem.run_pure]
  by_cases ha : a = c
  · by_cases hb : b = d <;> simp [ha, hb]
  · simp [ha]
set_option maxHeartbeats 1000000 in
theorem meet_any (x y a b : Int) (w : World) :
    Calls Tryd.prog 26 #[cpv x y, cpv a b] w fun e w' => e = .returned (.bool (mtB x y a b)) ∧ Below w.heap.size w w' := by
  have hq := eq_couple x y b a
  have hB : Below w.heap.size w ((w.alloc (.cells #[.int .i64 x, .int .i64 y] 48)).alloc (.cells #[.int .i64 a, .int .i64 b] 48)) := ((Below.refl _ _).alloc (Nat.le_refl _) _).alloc (by simp) _
  cases r : (x == y) with
  | true =>
    have hr : mtB x y a b = true := by simp [mtB, r]
    rw [hr]
    clear hr hq
    go_enter Tryd.func26, Tryd.ntmps26
    go_wp2
    go_ret
    exact ⟨rfl, hB⟩
  | false =>
    have hr : mtB x y a b = (decide (x = b) && decide (y = a)) := by simp [mtB, r]
    rw [hr]
    clear hr
    generalize (decide (x = b) && decide (y = a)) = R at hq ⊢
    go_enter Tryd.func26, Tryd.ntmps26
    go_wp2
    go_ret
    exact ⟨rfl, hB⟩
/-- the two ways to say it -/
theorem mt_hit (F : Nat → Nat → Int) (k i j : Nat) : mtB (F i k) (F j k) (F i (k - 1)) (F j (k - 1)) = hitB (F j) k (prv (F i) k) (F i k) := by
  have h1 : mtB (F i k) (F j k) (F i (k - 1)) (F j (k - 1)) = true ↔ Meet F k i j := by
    unfold mtB Meet
    by_cases h : 0 < k
    · simp only [Bool.or_eq_true, beq_iff_eq, Bool.and_eq_true, decide_eq_true_eq, h, true_and]
      constructor
      · rintro (e | ⟨e1, e2⟩)
        · exact .inl e.symm
        · exact .inr ⟨e1.symm, e2⟩
      · rintro (e | ⟨e1, e2⟩)
        · exact .inl e.symm
        · exact .inr ⟨e1.symm, e2⟩
    · have h0 : k = 0 := by omega
      subst h0
      simp only [Bool.or_eq_true, beq_iff_eq, Bool.and_eq_true, decide_eq_true_eq, Nat.lt_irrefl, false_and, or_false, Nat.zero_sub]
      constructor
      · rintro (e | ⟨e1, e2⟩)
        · exact e.symm
        · exact e1.symm
      · intro e
        exact .inl e.symm
  have h2 := hit_meet (F := F) (k := k) (i := i) (j := j)
  exact Bool.eq_iff_iff.2 (h1.trans h2.symm)
end Go.Proofs.YtbndhhjgjalecabDoor
