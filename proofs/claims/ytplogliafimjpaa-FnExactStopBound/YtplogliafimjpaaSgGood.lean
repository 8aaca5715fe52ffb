/- Both sides say of a gear whether it is good, and tell its bound. -/
import Derived.Test.YtplogliafimjpaaSgM
import Derived.BigQuiet
namespace Go.Proofs.Ytplogliafimjpaa
open Go.RowKit

set_option maxHeartbeats 1000000 in
theorem toGear_any (g : Gr) (w : World) :
    Calls Try.prog 7 #[grv g] w fun e w' => e = .returned (grv g) ∧ Below w.heap.size w w' := by
  go_enter Try.func7, Try.ntmps7
  go_wp2
  go_returns
  refine ⟨rfl, ?_⟩
  repeat' (first | exact Below.refl _ _ | refine below_dr ?_ _ | refine Below.alloc ?_ (by simp <;> omega) _ | refine Below.setCell ?_ (by simp <;> omega) _)

set_option maxHeartbeats 1000000 in
theorem torque_any (n : Int) (w : World) :
    Calls Try.prog 13 #[.int .i64 n] w fun e w' => e = .returned (.bool (tqB n)) ∧ w' = w := by
  by_cases h0 : 1 ≤ n
  rotate_left
  · go_enter Try.func13, Try.ntmps13
    go_wp2
    go_ret
    exact ⟨ret_bool (by simp [tqB] <;> omega), rfl⟩
  by_cases h1 : n ≤ 1000
  rotate_left
  · go_enter Try.func13, Try.ntmps13
    go_wp2
    go_ret
    exact ⟨ret_bool (by simp [tqB] <;> omega), rfl⟩
  go_enter Try.func13, Try.ntmps13
  go_wp2
  go_ret
  exact ⟨ret_bool (by simp [tqB] <;> omega), rfl⟩

set_option maxHeartbeats 1000000 in
theorem sGoodG (g : Gr) (w : World) :
    Calls Try.prog 6 #[grv g] w fun e w' => e = .returned (.bool (goodG g)) ∧ Below w.heap.size w w' := by
  by_cases aD : 0 ≤ g.D
  rotate_left
  · go_enter Try.func6, Try.ntmps6
    go_wp2
    go_ret
    refine ⟨ret_bool ?_, (Below.refl _ _).alloc (Nat.le_refl _) _⟩
    simp [goodG] <;> omega
  by_cases bD : g.D ≤ 10
  rotate_left
  · go_enter Try.func6, Try.ntmps6
    go_wp2
    go_ret
    refine ⟨ret_bool ?_, (Below.refl _ _).alloc (Nat.le_refl _) _⟩
    simp [goodG] <;> omega
  by_cases aB : 1 ≤ g.B
  rotate_left
  · go_enter Try.func6, Try.ntmps6
    go_wp2
    go_ret
    refine ⟨ret_bool ?_, (Below.refl _ _).alloc (Nat.le_refl _) _⟩
    simp [goodG] <;> omega
  by_cases bB : g.B ≤ 10
  rotate_left
  · go_enter Try.func6, Try.ntmps6
    go_wp2
    go_ret
    refine ⟨ret_bool ?_, (Below.refl _ _).alloc (Nat.le_refl _) _⟩
    simp [goodG] <;> omega
  by_cases aW : g.B ≤ g.W
  rotate_left
  · go_enter Try.func6, Try.ntmps6
    go_wp2
    go_ret
    refine ⟨ret_bool ?_, (Below.refl _ _).alloc (Nat.le_refl _) _⟩
    simp [goodG] <;> omega
  by_cases bW : g.W ≤ 30
  rotate_left
  · go_enter Try.func6, Try.ntmps6
    go_wp2
    go_ret
    refine ⟨ret_bool ?_, (Below.refl _ _).alloc (Nat.le_refl _) _⟩
    simp [goodG] <;> omega
  by_cases aR : 1 ≤ g.R
  rotate_left
  · go_enter Try.func6, Try.ntmps6
    go_wp2
    go_ret
    refine ⟨ret_bool ?_, (Below.refl _ _).alloc (Nat.le_refl _) _⟩
    simp [goodG] <;> omega
  by_cases bR : g.R ≤ 1000
  rotate_left
  · go_enter Try.func6, Try.ntmps6
    go_wp2
    go_ret
    refine ⟨ret_bool ?_, (Below.refl _ _).alloc (Nat.le_refl _) _⟩
    simp [goodG] <;> omega
  by_cases aM : 1 ≤ g.M
  rotate_left
  · go_enter Try.func6, Try.ntmps6
    go_wp2
    go_ret
    refine ⟨ret_bool ?_, (Below.refl _ _).alloc (Nat.le_refl _) _⟩
    simp [goodG] <;> omega
  by_cases bM : g.M ≤ 1000
  rotate_left
  · go_enter Try.func6, Try.ntmps6
    go_wp2
    go_ret
    refine ⟨ret_bool ?_, (Below.refl _ _).alloc (Nat.le_refl _) _⟩
    simp [goodG] <;> omega
  go_enter Try.func6, Try.ntmps6
  go_wp2
  go_ret
  refine ⟨ret_bool ?_, (Below.refl _ _).alloc (Nat.le_refl _) _⟩
  simp [goodG] <;> omega

set_option maxHeartbeats 1000000 in
theorem iGoodG (g : Gr) (w : World) :
    Calls Try.prog 8 #[grv g] w fun e w' => e = .returned (.bool (goodG g)) ∧ Below w.heap.size w w' := by
  by_cases aD : 0 ≤ g.D
  rotate_left
  · go_enter Try.func8, Try.ntmps8
    go_wp2_with (first | (go_at_call 13; refine (torque_any _ _).mono ?_; rintro e w' ⟨rfl, hw'⟩; subst hw') | fail)
    go_ret
    refine ⟨ret_bool ?_, (Below.refl _ _).alloc (Nat.le_refl _) _⟩
    simp [goodG] <;> omega
  by_cases bD : g.D ≤ 10
  rotate_left
  · go_enter Try.func8, Try.ntmps8
    go_wp2_with (first | (go_at_call 13; refine (torque_any _ _).mono ?_; rintro e w' ⟨rfl, hw'⟩; subst hw') | fail)
    go_ret
    refine ⟨ret_bool ?_, (Below.refl _ _).alloc (Nat.le_refl _) _⟩
    simp [goodG] <;> omega
  by_cases aB : 1 ≤ g.B
  rotate_left
  · go_enter Try.func8, Try.ntmps8
    go_wp2_with (first | (go_at_call 13; refine (torque_any _ _).mono ?_; rintro e w' ⟨rfl, hw'⟩; subst hw') | fail)
    go_ret
    refine ⟨ret_bool ?_, (Below.refl _ _).alloc (Nat.le_refl _) _⟩
    simp [goodG] <;> omega
  by_cases bB : g.B ≤ 10
  rotate_left
  · go_enter Try.func8, Try.ntmps8
    go_wp2_with (first | (go_at_call 13; refine (torque_any _ _).mono ?_; rintro e w' ⟨rfl, hw'⟩; subst hw') | fail)
    go_ret
    refine ⟨ret_bool ?_, (Below.refl _ _).alloc (Nat.le_refl _) _⟩
    simp [goodG] <;> omega
  by_cases aW : g.B ≤ g.W
  rotate_left
  · go_enter Try.func8, Try.ntmps8
    go_wp2_with (first | (go_at_call 13; refine (torque_any _ _).mono ?_; rintro e w' ⟨rfl, hw'⟩; subst hw') | fail)
    go_ret
    refine ⟨ret_bool ?_, (Below.refl _ _).alloc (Nat.le_refl _) _⟩
    simp [goodG] <;> omega
  by_cases bW : g.W ≤ 30
  rotate_left
  · go_enter Try.func8, Try.ntmps8
    go_wp2_with (first | (go_at_call 13; refine (torque_any _ _).mono ?_; rintro e w' ⟨rfl, hw'⟩; subst hw') | fail)
    go_ret
    refine ⟨ret_bool ?_, (Below.refl _ _).alloc (Nat.le_refl _) _⟩
    simp [goodG] <;> omega
  by_cases bR : tqB g.R = true
  rotate_left
  · have q : tqB g.R = false := by simpa using bR
    clear bR
    go_enter Try.func8, Try.ntmps8
    go_wp2_with (first | (go_at_call 13; refine (torque_any _ _).mono ?_; rintro e w' ⟨rfl, hw'⟩; subst hw') | fail)
    go_ret
    refine ⟨ret_bool ?_, (Below.refl _ _).alloc (Nat.le_refl _) _⟩
    have kq := tqB_f q
    simp [goodG] <;> omega
  by_cases bM : tqB g.M = true
  rotate_left
  · have q : tqB g.M = false := by simpa using bM
    clear bM
    go_enter Try.func8, Try.ntmps8
    go_wp2_with (first | (go_at_call 13; refine (torque_any _ _).mono ?_; rintro e w' ⟨rfl, hw'⟩; subst hw') | fail)
    go_ret
    refine ⟨ret_bool ?_, (Below.refl _ _).alloc (Nat.le_refl _) _⟩
    have kbR := tqB_t bR
    have kq := tqB_f q
    simp [goodG] <;> omega
  go_enter Try.func8, Try.ntmps8
  go_wp2_with (first | (go_at_call 13; refine (torque_any _ _).mono ?_; rintro e w' ⟨rfl, hw'⟩; subst hw') | fail)
  go_ret
  refine ⟨ret_bool ?_, (Below.refl _ _).alloc (Nat.le_refl _) _⟩
  have kbR := tqB_t bR
  have kbM := tqB_t bM
  simp [goodG] <;> omega

end Go.Proofs.Ytplogliafimjpaa
