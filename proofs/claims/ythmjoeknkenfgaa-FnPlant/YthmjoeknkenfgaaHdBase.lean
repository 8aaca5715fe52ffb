/- The small functions of both sides on numbers; the law's own copies of loops and holds, and how it compares them. -/
import Derived.Test.YthmjoeknkenfgaaHdMath
import Derived.Test.YthmjoeknkenfgaaLqBase
namespace Go.Proofs.Ythmjoeknkenfgaa
open Go.RowKit

set_option maxHeartbeats 1000000 in
theorem within_any (n m : Int) (w : World) (hm : 0 ≤ m ∧ m ≤ 2000000) :
    Calls Try.prog 66 #[.int .i64 n, .int .i64 m] w fun e w' => e = .returned (.bool (inB n m)) ∧ w' = w := by
  by_cases h0 : -m ≤ n
  rotate_left
  · go_enter Try.func66, Try.ntmps66
    go_wp2
    go_ret
    exact ⟨ret_bool (by simp [inB] <;> omega), rfl⟩
  by_cases h1 : n ≤ m
  rotate_left
  · go_enter Try.func66, Try.ntmps66
    go_wp2
    go_ret
    exact ⟨ret_bool (by simp [inB] <;> omega), rfl⟩
  go_enter Try.func66, Try.ntmps66
  go_wp2
  go_ret
  exact ⟨ret_bool (by simp [inB] <;> omega), rfl⟩

set_option maxHeartbeats 1000000 in
theorem l13In_any (n m : Int) (w : World) (hm : 0 ≤ m ∧ m ≤ 2000000) :
    Calls Try.prog 54 #[.int .i64 n, .int .i64 m] w fun e w' => e = .returned (.bool (inB n m)) ∧ w' = w := by
  by_cases h0 : -m ≤ n
  rotate_left
  · go_enter Try.func54, Try.ntmps54
    go_wp2
    go_ret
    exact ⟨ret_bool (by simp [inB] <;> omega), rfl⟩
  by_cases h1 : n ≤ m
  rotate_left
  · go_enter Try.func54, Try.ntmps54
    go_wp2
    go_ret
    exact ⟨ret_bool (by simp [inB] <;> omega), rfl⟩
  go_enter Try.func54, Try.ntmps54
  go_wp2
  go_ret
  exact ⟨ret_bool (by simp [inB] <;> omega), rfl⟩

set_option maxHeartbeats 1000000 in
theorem times_any (n : Int) (w : World) :
    Calls Try.prog 64 #[.int .i64 n] w fun e w' => e = .returned (.bool (upB n 1000)) ∧ w' = w := by
  by_cases h0 : 0 ≤ n
  rotate_left
  · go_enter Try.func64, Try.ntmps64
    go_wp2
    go_ret
    exact ⟨ret_bool (by simp [upB] <;> omega), rfl⟩
  by_cases h1 : n ≤ 1000
  rotate_left
  · go_enter Try.func64, Try.ntmps64
    go_wp2
    go_ret
    exact ⟨ret_bool (by simp [upB] <;> omega), rfl⟩
  go_enter Try.func64, Try.ntmps64
  go_wp2
  go_ret
  exact ⟨ret_bool (by simp [upB] <;> omega), rfl⟩

set_option maxHeartbeats 1000000 in
theorem limit_any (n : Int) (w : World) :
    Calls Try.prog 65 #[.int .i64 n] w fun e w' => e = .returned (.bool (upB n 1000000)) ∧ w' = w := by
  by_cases h0 : 0 ≤ n
  rotate_left
  · go_enter Try.func65, Try.ntmps65
    go_wp2
    go_ret
    exact ⟨ret_bool (by simp [upB] <;> omega), rfl⟩
  by_cases h1 : n ≤ 1000000
  rotate_left
  · go_enter Try.func65, Try.ntmps65
    go_wp2
    go_ret
    exact ⟨ret_bool (by simp [upB] <;> omega), rfl⟩
  go_enter Try.func65, Try.ntmps65
  go_wp2
  go_ret
  exact ⟨ret_bool (by simp [upB] <;> omega), rfl⟩

set_option maxHeartbeats 1000000 in
theorem reach_any (n : Int) (w : World) :
    Calls Try.prog 50 #[.int .i64 n] w fun e w' => e = .returned (.bool (inB n 1000000)) ∧ w' = w := by
  go_enter Try.func50, Try.ntmps50
  go_wp2_with fail
  refine (within_any n 1000000 _ ⟨by omega, by omega⟩).mono ?_
  rintro e w' ⟨rfl, rfl⟩
  go_wp2
  go_ret
  exact ⟨rfl, rfl⟩

set_option maxHeartbeats 1000000 in
theorem value_any (n : Int) (w : World) :
    Calls Try.prog 76 #[.int .i64 n] w fun e w' => e = .returned (.bool (inB n 1000000)) ∧ w' = w := by
  go_enter Try.func76, Try.ntmps76
  go_wp2_with fail
  refine (l13In_any n 1000000 _ ⟨by omega, by omega⟩).mono ?_
  rintro e w' ⟨rfl, rfl⟩
  go_wp2
  go_ret
  exact ⟨rfl, rfl⟩

set_option maxHeartbeats 1000000 in
theorem l13Cut_any (n lo hi : Int) (w : World) :
    Calls Try.prog 57 #[.int .i64 n, .int .i64 lo, .int .i64 hi] w fun e w' => e = .returned (.int .i64 (cutI n lo hi)) ∧ w' = w := by
  by_cases h0 : n < lo
  · go_enter Try.func57, Try.ntmps57
    go_wp2
    go_ret
    exact ⟨ret_int (by unfold cutI; rw [if_pos h0]), rfl⟩
  by_cases h1 : hi < n
  · go_enter Try.func57, Try.ntmps57
    go_wp2
    go_ret
    exact ⟨ret_int (by unfold cutI; rw [if_neg (by omega), if_pos h1]), rfl⟩
  · go_enter Try.func57, Try.ntmps57
    go_wp2
    go_ret
    exact ⟨ret_int (by unfold cutI; rw [if_neg (by omega), if_neg (by omega)]), rfl⟩

set_option maxHeartbeats 1000000 in
theorem between_any (n lo hi : Int) (w : World) (h : lo ≤ hi) :
    Calls Try.prog 53 #[.int .i64 n, .int .i64 lo, .int .i64 hi] w fun e w' => e = .returned (.int .i64 (cutI n lo hi)) ∧ w' = w := by
  go_enter Try.func53, Try.ntmps53
  go_wp2
  all_goals
    go_ret
    exact ⟨ret_int (by unfold cutI; split at * <;> (try split) <;> omega), rfl⟩

set_option maxHeartbeats 1000000 in
theorem down_any (a b : Int) (w : World) (hb : 0 < b) :
    Calls Try.prog 52 #[.int .i64 a, .int .i64 b] w fun e w' => e = .returned (.int .i64 (dnI a b)) ∧ w' = w := by
  have hz : ¬ b = 0 := by omega
  by_cases h0 : Int.tmod a b < 0
  · go_enter Try.func52, Try.ntmps52
    go_wp2
    go_ret
    exact ⟨ret_int (by unfold dnI; rw [if_pos h0]), rfl⟩
  · go_enter Try.func52, Try.ntmps52
    go_wp2
    go_ret
    exact ⟨ret_int (by unfold dnI; rw [if_neg (by omega)]), rfl⟩

set_option maxHeartbeats 1000000 in
theorem l13Down_any (a b : Int) (w : World) (hb : 0 < b) :
    Calls Try.prog 56 #[.int .i64 a, .int .i64 b] w fun e w' => e = .returned (.int .i64 (dnI a b)) ∧ w' = w := by
  have hz : ¬ b = 0 := by omega
  by_cases h0 : Int.tmod a b < 0
  · go_enter Try.func56, Try.ntmps56
    go_wp2
    go_ret
    exact ⟨ret_int (by unfold dnI; rw [if_pos h0]), rfl⟩
  · go_enter Try.func56, Try.ntmps56
    go_wp2
    go_ret
    exact ⟨ret_int (by unfold dnI; rw [if_neg (by omega)]), rfl⟩

set_option maxHeartbeats 1000000 in
theorem toLoop_any (l : Lp) (w : World) :
    Calls Try.prog 30 #[lv l] w fun e w' => e = .returned (lv l) ∧ Below w.heap.size w w' := by
  go_enter Try.func30, Try.ntmps30
  go_wp2
  go_returns
  refine ⟨rfl, ?_⟩
  repeat' (first | exact Below.refl _ _ | refine below_dr ?_ _ | refine Below.alloc ?_ (by simp <;> omega) _ | refine Below.setCell ?_ (by simp <;> omega) _)

set_option maxHeartbeats 1000000 in
theorem toHold_any (h : Hd) (w : World) :
    Calls Try.prog 32 #[hv h] w fun e w' => e = .returned (hv h) ∧ Below w.heap.size w w' := by
  go_enter Try.func32, Try.ntmps32
  go_wp2
  go_returns
  refine ⟨rfl, ?_⟩
  repeat' (first | exact Below.refl _ _ | refine below_dr ?_ _ | refine Below.alloc ?_ (by simp <;> omega) _ | refine Below.setCell ?_ (by simp <;> omega) _)

end Go.Proofs.Ythmjoeknkenfgaa
