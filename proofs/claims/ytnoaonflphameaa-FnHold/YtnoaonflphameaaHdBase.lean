/- The small functions of both sides on numbers; the law's own copies of loops and holds, and how it compares them. -/
import Derived.Test.YtnoaonflphameaaHdMath
import Derived.Test.YtnoaonflphameaaLqBase
namespace Go.Proofs.Ytnoaonflphameaa
open Go.RowKit

set_option maxHeartbeats 1000000 in
theorem within_any (n m : Int) (w : World) (hm : 0 ≤ m ∧ m ≤ 2000000) :
    Calls Try.prog 65 #[.int .i64 n, .int .i64 m] w fun e w' => e = .returned (.bool (inB n m)) ∧ w' = w := by
  by_cases h0 : -m ≤ n
  rotate_left
  · go_enter Try.func65, Try.ntmps65
    go_wp2
    go_ret
    exact ⟨ret_bool (by simp [inB] <;> omega), rfl⟩
  by_cases h1 : n ≤ m
  rotate_left
  · go_enter Try.func65, Try.ntmps65
    go_wp2
    go_ret
    exact ⟨ret_bool (by simp [inB] <;> omega), rfl⟩
  go_enter Try.func65, Try.ntmps65
  go_wp2
  go_ret
  exact ⟨ret_bool (by simp [inB] <;> omega), rfl⟩

set_option maxHeartbeats 1000000 in
theorem l13In_any (n m : Int) (w : World) (hm : 0 ≤ m ∧ m ≤ 2000000) :
    Calls Try.prog 50 #[.int .i64 n, .int .i64 m] w fun e w' => e = .returned (.bool (inB n m)) ∧ w' = w := by
  by_cases h0 : -m ≤ n
  rotate_left
  · go_enter Try.func50, Try.ntmps50
    go_wp2
    go_ret
    exact ⟨ret_bool (by simp [inB] <;> omega), rfl⟩
  by_cases h1 : n ≤ m
  rotate_left
  · go_enter Try.func50, Try.ntmps50
    go_wp2
    go_ret
    exact ⟨ret_bool (by simp [inB] <;> omega), rfl⟩
  go_enter Try.func50, Try.ntmps50
  go_wp2
  go_ret
  exact ⟨ret_bool (by simp [inB] <;> omega), rfl⟩

set_option maxHeartbeats 1000000 in
theorem times_any (n : Int) (w : World) :
    Calls Try.prog 74 #[.int .i64 n] w fun e w' => e = .returned (.bool (upB n 1000)) ∧ w' = w := by
  by_cases h0 : 0 ≤ n
  rotate_left
  · go_enter Try.func74, Try.ntmps74
    go_wp2
    go_ret
    exact ⟨ret_bool (by simp [upB] <;> omega), rfl⟩
  by_cases h1 : n ≤ 1000
  rotate_left
  · go_enter Try.func74, Try.ntmps74
    go_wp2
    go_ret
    exact ⟨ret_bool (by simp [upB] <;> omega), rfl⟩
  go_enter Try.func74, Try.ntmps74
  go_wp2
  go_ret
  exact ⟨ret_bool (by simp [upB] <;> omega), rfl⟩

set_option maxHeartbeats 1000000 in
theorem limit_any (n : Int) (w : World) :
    Calls Try.prog 75 #[.int .i64 n] w fun e w' => e = .returned (.bool (upB n 1000000)) ∧ w' = w := by
  by_cases h0 : 0 ≤ n
  rotate_left
  · go_enter Try.func75, Try.ntmps75
    go_wp2
    go_ret
    exact ⟨ret_bool (by simp [upB] <;> omega), rfl⟩
  by_cases h1 : n ≤ 1000000
  rotate_left
  · go_enter Try.func75, Try.ntmps75
    go_wp2
    go_ret
    exact ⟨ret_bool (by simp [upB] <;> omega), rfl⟩
  go_enter Try.func75, Try.ntmps75
  go_wp2
  go_ret
  exact ⟨ret_bool (by simp [upB] <;> omega), rfl⟩

set_option maxHeartbeats 1000000 in
theorem reach_any (n : Int) (w : World) :
    Calls Try.prog 45 #[.int .i64 n] w fun e w' => e = .returned (.bool (inB n 1000000)) ∧ w' = w := by
  go_enter Try.func45, Try.ntmps45
  go_wp2_with fail
  refine (within_any n 1000000 _ ⟨by omega, by omega⟩).mono ?_
  rintro e w' ⟨rfl, rfl⟩
  go_wp2
  go_ret
  exact ⟨rfl, rfl⟩

set_option maxHeartbeats 1000000 in
theorem value_any (n : Int) (w : World) :
    Calls Try.prog 71 #[.int .i64 n] w fun e w' => e = .returned (.bool (inB n 1000000)) ∧ w' = w := by
  go_enter Try.func71, Try.ntmps71
  go_wp2_with fail
  refine (l13In_any n 1000000 _ ⟨by omega, by omega⟩).mono ?_
  rintro e w' ⟨rfl, rfl⟩
  go_wp2
  go_ret
  exact ⟨rfl, rfl⟩

set_option maxHeartbeats 1000000 in
theorem l13Cut_any (n lo hi : Int) (w : World) :
    Calls Try.prog 53 #[.int .i64 n, .int .i64 lo, .int .i64 hi] w fun e w' => e = .returned (.int .i64 (cutI n lo hi)) ∧ w' = w := by
  by_cases h0 : n < lo
  · go_enter Try.func53, Try.ntmps53
    go_wp2
    go_ret
    exact ⟨ret_int (by unfold cutI; rw [if_pos h0]), rfl⟩
  by_cases h1 : hi < n
  · go_enter Try.func53, Try.ntmps53
    go_wp2
    go_ret
    exact ⟨ret_int (by unfold cutI; rw [if_neg (by omega), if_pos h1]), rfl⟩
  · go_enter Try.func53, Try.ntmps53
    go_wp2
    go_ret
    exact ⟨ret_int (by unfold cutI; rw [if_neg (by omega), if_neg (by omega)]), rfl⟩

set_option maxHeartbeats 1000000 in
theorem between_any (n lo hi : Int) (w : World) (h : lo ≤ hi) :
    Calls Try.prog 48 #[.int .i64 n, .int .i64 lo, .int .i64 hi] w fun e w' => e = .returned (.int .i64 (cutI n lo hi)) ∧ w' = w := by
  go_enter Try.func48, Try.ntmps48
  go_wp2
  all_goals
    go_ret
    exact ⟨ret_int (by unfold cutI; split at * <;> (try split) <;> omega), rfl⟩

set_option maxHeartbeats 1000000 in
theorem down_any (a b : Int) (w : World) (hb : 0 < b) :
    Calls Try.prog 47 #[.int .i64 a, .int .i64 b] w fun e w' => e = .returned (.int .i64 (dnI a b)) ∧ w' = w := by
  have hz : ¬ b = 0 := by omega
  by_cases h0 : Int.tmod a b < 0
  · go_enter Try.func47, Try.ntmps47
    go_wp2
    go_ret
    exact ⟨ret_int (by unfold dnI; rw [if_pos h0]), rfl⟩
  · go_enter Try.func47, Try.ntmps47
    go_wp2
    go_ret
    exact ⟨ret_int (by unfold dnI; rw [if_neg (by omega)]), rfl⟩

set_option maxHeartbeats 1000000 in
theorem l13Down_any (a b : Int) (w : World) (hb : 0 < b) :
    Calls Try.prog 52 #[.int .i64 a, .int .i64 b] w fun e w' => e = .returned (.int .i64 (dnI a b)) ∧ w' = w := by
  have hz : ¬ b = 0 := by omega
  by_cases h0 : Int.tmod a b < 0
  · go_enter Try.func52, Try.ntmps52
    go_wp2
    go_ret
    exact ⟨ret_int (by unfold dnI; rw [if_pos h0]), rfl⟩
  · go_enter Try.func52, Try.ntmps52
    go_wp2
    go_ret
    exact ⟨ret_int (by unfold dnI; rw [if_neg (by omega)]), rfl⟩

set_option maxHeartbeats 1000000 in
theorem toLoop_any (l : Lp) (w : World) :
    Calls Try.prog 24 #[lv l] w fun e w' => e = .returned (lv l) ∧ Below w.heap.size w w' := by
  go_enter Try.func24, Try.ntmps24
  go_wp2
  go_returns
  refine ⟨rfl, ?_⟩
  repeat' (first | exact Below.refl _ _ | refine below_dr ?_ _ | refine Below.alloc ?_ (by simp <;> omega) _ | refine Below.setCell ?_ (by simp <;> omega) _)

set_option maxHeartbeats 1000000 in
theorem toHold_any (h : Hd) (w : World) :
    Calls Try.prog 25 #[hv h] w fun e w' => e = .returned (hv h) ∧ Below w.heap.size w w' := by
  go_enter Try.func25, Try.ntmps25
  go_wp2
  go_returns
  refine ⟨rfl, ?_⟩
  repeat' (first | exact Below.refl _ _ | refine below_dr ?_ _ | refine Below.alloc ?_ (by simp <;> omega) _ | refine Below.setCell ?_ (by simp <;> omega) _)

end Go.Proofs.Ytnoaonflphameaa
