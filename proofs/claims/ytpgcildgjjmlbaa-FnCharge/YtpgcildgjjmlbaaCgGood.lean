/- Whether a robot's numbers are good, as the program says it; the law's own copy of one. -/
import Derived.Test.YtpgcildgjjmlbaaCgM
import Derived.BigQuiet
namespace Go.Proofs.Ytpgcildgjjmlbaa
open Go.RowKit
set_option maxHeartbeats 1000000 in
theorem toCharge_any (c : Cg) (w : World) :
    Calls Try.prog 9 #[cgv c] w fun e w' => e = .returned (cgv c) ∧ Below w.heap.size w w' := by
  go_enter Try.func9, Try.ntmps9
  go_wp2
  go_returns
  refine ⟨rfl, ?_⟩
  repeat' (first | exact Below.refl _ _ | refine below_dr ?_ _ | refine Below.alloc ?_ (by simp <;> omega) _ | refine Below.setCell ?_ (by simp <;> omega) _)
set_option maxHeartbeats 1000000 in
theorem iGoodC (c : Cg) (w : World) :
    Calls Try.prog 16 #[cgv c] w fun e w' => e = .returned (.bool (goodC c)) ∧ Below w.heap.size w w' := by
  by_cases aF : 1 ≤ c.F
  rotate_left
  · go_enter Try.func16, Try.ntmps16
    go_wp2
    go_ret
    refine ⟨ret_bool ?_, (Below.refl _ _).alloc (Nat.le_refl _) _⟩
    simp [goodC] <;> omega
  by_cases bF : c.F ≤ 10000
  rotate_left
  · go_enter Try.func16, Try.ntmps16
    go_wp2
    go_ret
    refine ⟨ret_bool ?_, (Below.refl _ _).alloc (Nat.le_refl _) _⟩
    simp [goodC] <;> omega
  by_cases aL : 0 ≤ c.L
  rotate_left
  · go_enter Try.func16, Try.ntmps16
    go_wp2
    go_ret
    refine ⟨ret_bool ?_, (Below.refl _ _).alloc (Nat.le_refl _) _⟩
    simp [goodC] <;> omega
  by_cases bL : c.L ≤ c.F
  rotate_left
  · go_enter Try.func16, Try.ntmps16
    go_wp2
    go_ret
    refine ⟨ret_bool ?_, (Below.refl _ _).alloc (Nat.le_refl _) _⟩
    simp [goodC] <;> omega
  by_cases aU : 1 ≤ c.U
  rotate_left
  · go_enter Try.func16, Try.ntmps16
    go_wp2
    go_ret
    refine ⟨ret_bool ?_, (Below.refl _ _).alloc (Nat.le_refl _) _⟩
    simp [goodC] <;> omega
  by_cases bU : c.U ≤ c.F
  rotate_left
  · go_enter Try.func16, Try.ntmps16
    go_wp2
    go_ret
    refine ⟨ret_bool ?_, (Below.refl _ _).alloc (Nat.le_refl _) _⟩
    simp [goodC] <;> omega
  by_cases aG : 1 ≤ c.G
  rotate_left
  · go_enter Try.func16, Try.ntmps16
    go_wp2
    go_ret
    refine ⟨ret_bool ?_, (Below.refl _ _).alloc (Nat.le_refl _) _⟩
    simp [goodC] <;> omega
  by_cases bG : c.G ≤ c.F
  rotate_left
  · go_enter Try.func16, Try.ntmps16
    go_wp2
    go_ret
    refine ⟨ret_bool ?_, (Below.refl _ _).alloc (Nat.le_refl _) _⟩
    simp [goodC] <;> omega
  go_enter Try.func16, Try.ntmps16
  go_wp2
  go_ret
  refine ⟨ret_bool ?_, (Below.refl _ _).alloc (Nat.le_refl _) _⟩
  simp [goodC] <;> omega
set_option maxHeartbeats 1000000 in
theorem l13Cut_pos (n hi : Int) (w : World) (h : 0 ≤ n) :
    Calls Try.prog 17 #[.int .i64 n, .int .i64 0, .int .i64 hi] w fun e w' => e = .returned (.int .i64 (min hi n)) ∧ w' = w := by
  by_cases h1 : hi < n
  · rw [Int.min_eq_left (by omega)]
    go_enter Try.func17, Try.ntmps17
    go_wp2
    go_ret
    exact ⟨rfl, rfl⟩
  · rw [Int.min_eq_right (by omega)]
    go_enter Try.func17, Try.ntmps17
    go_wp2
    go_ret
    exact ⟨rfl, rfl⟩
theorem run_least (x y : Int) (ts : Array TypeId) (t : TypeId) (w : World) : (Builtin.min_ ts t #[.int .i64 x, .int .i64 y]).run Try.prog w = .ok (.int .i64 (min x y)) w := by
  by_cases h : x ≤ y
  · rw [Int.min_eq_left h]
    simp [Builtin.min_, Builtin.min2]
    intro h2; omega
  · rw [Int.min_eq_right (by omega)]
    simp [Builtin.min_, Builtin.min2]
    intro h2; omega
theorem infoBo : (Try.prog.info? 4).map (fun i => (i.zero, i.size, i.bytes)) = some (some (.bool false), 1, 1) := by kernel_rfl
end Go.Proofs.Ytpgcildgjjmlbaa
