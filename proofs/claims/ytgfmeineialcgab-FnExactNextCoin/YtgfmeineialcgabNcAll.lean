/- The next coin, both sides; the law. -/
import Derived.Test.YtgfmeineialcgabRows
import Derived.WalkKit
import Derived.BigQuiet
import Derived.Below
import Derived.Handy
namespace Go.Proofs.Ytgfmeineialcgab
open Go.RowKit
def sdB (n : Int) : Bool := decide (0 ≤ n ∧ n ≤ 2147483647)
def nxS (d : Int) : Int := if sdB d = true then (d * 1103515245 + 12345) % 2147483648 else 0
def nxC (d : Int) : Int := if sdB d = true then (d * 1103515245 + 12345) % 2147483648 / 65536 % 10 else 0
set_option maxHeartbeats 400000 in
theorem sSeed (d : Int) (w : World) : Calls Try.prog 6 #[.int .i64 d] w fun e w' => e = .returned (.bool (sdB d)) ∧ w' = w := by
  by_cases h0 : 0 ≤ d
  · by_cases h1 : d ≤ 2147483647
    · rw [show sdB d = true by simp [sdB, h0, h1]]
      go_enter Try.func6, Try.ntmps6
      go_wp2
      go_ret
      exact ⟨rfl, rfl⟩
    · rw [show sdB d = false by simp [sdB]; omega]
      go_enter Try.func6, Try.ntmps6
      go_wp2
      go_ret
      exact ⟨rfl, rfl⟩
  · rw [show sdB d = false by simp [sdB]; omega]
    go_enter Try.func6, Try.ntmps6
    go_wp2
    go_ret
    exact ⟨rfl, rfl⟩
set_option maxHeartbeats 1000000 in
theorem sCoin (d : Int) (w : World) : Calls Try.prog 4 #[.int .i64 d] w fun e w' => e = .returned (.tuple #[.int .i64 (nxS d), .int .i64 (nxC d)]) ∧ w' = w := by
  have kD := fun w => sSeed d w
  cases e : sdB d with
  | false =>
    have HS : Hid (nxS d = 0) := by show nxS d = 0; unfold nxS; rw [if_neg (by rw [e]; decide)]
    have HC : Hid (nxC d = 0) := by show nxC d = 0; unfold nxC; rw [if_neg (by rw [e]; decide)]
    rw [e] at kD
    clear e
    go_enter Try.func4, Try.ntmps4
    go_wp2_with (first | (go_at_call 6; refine (kD _).mono ?_; rintro e w1 ⟨rfl, hw1⟩; have hs := hw1.symm; clear hw1 kD; subst hs) | fail)
    go_ret2
    refine ⟨?_, rfl⟩
    rw [HS.out, HC.out]
    rfl
  | true =>
    have hd : 0 ≤ d ∧ d ≤ 2147483647 := of_decide_eq_true e
    have HS : Hid (nxS d = (d * 1103515245 + 12345) % 2147483648) := by show nxS d = _; unfold nxS; rw [if_pos e]
    have HC : Hid (nxC d = (d * 1103515245 + 12345) % 2147483648 / 65536 % 10) := by show nxC d = _; unfold nxC; rw [if_pos e]
    rw [e] at kD
    clear e
    obtain ⟨h0, h1⟩ := hd
    have hp0 : 0 ≤ d * 1103515245 := by omega
    have hp1 : d * 1103515245 ≤ 2369780942852710035 := by omega
    go_enter Try.func4, Try.ntmps4
    go_wp2_with (first | (go_at_call 6; refine (kD _).mono ?_; rintro e w1 ⟨rfl, hw1⟩; have hs := hw1.symm; clear hw1 kD; subst hs) | fail)
    go_ret2
    refine ⟨?_, rfl⟩
    rw [HS.out, HC.out]
    rfl
set_option maxHeartbeats 400000 in
theorem iSeed (d : Int) (w : World) : Calls Try.prog 7 #[.int .i64 d] w fun e w' => e = .returned (.bool (sdB d)) ∧ w' = w := by
  by_cases h0 : 0 ≤ d
  · by_cases h1 : d ≤ 2147483647
    · rw [show sdB d = true by simp [sdB, h0, h1]]
      go_enter Try.func7, Try.ntmps7
      go_wp2
      go_ret
      exact ⟨rfl, rfl⟩
    · rw [show sdB d = false by simp [sdB]; omega]
      go_enter Try.func7, Try.ntmps7
      go_wp2
      go_ret
      exact ⟨rfl, rfl⟩
  · rw [show sdB d = false by simp [sdB]; omega]
    go_enter Try.func7, Try.ntmps7
    go_wp2
    go_ret
    exact ⟨rfl, rfl⟩
set_option maxHeartbeats 1000000 in
theorem iCoin (d : Int) (w : World) : Calls Try.prog 5 #[.int .i64 d] w fun e w' => e = .returned (.tuple #[.int .i64 (nxS d), .int .i64 (nxC d)]) ∧ w' = w := by
  have kD := fun w => iSeed d w
  cases e : sdB d with
  | false =>
    have HS : Hid (nxS d = 0) := by show nxS d = 0; unfold nxS; rw [if_neg (by rw [e]; decide)]
    have HC : Hid (nxC d = 0) := by show nxC d = 0; unfold nxC; rw [if_neg (by rw [e]; decide)]
    rw [e] at kD
    clear e
    go_enter Try.func5, Try.ntmps5
    go_wp2_with (first | (go_at_call 7; refine (kD _).mono ?_; rintro e w1 ⟨rfl, hw1⟩; have hs := hw1.symm; clear hw1 kD; subst hs) | fail)
    go_ret2
    refine ⟨?_, rfl⟩
    rw [HS.out, HC.out]
    rfl
  | true =>
    have hd : 0 ≤ d ∧ d ≤ 2147483647 := of_decide_eq_true e
    have HS : Hid (nxS d = (d * 1103515245 + 12345) % 2147483648) := by show nxS d = _; unfold nxS; rw [if_pos e]
    have HC : Hid (nxC d = (d * 1103515245 + 12345) % 2147483648 / 65536 % 10) := by show nxC d = _; unfold nxC; rw [if_pos e]
    rw [e] at kD
    clear e
    obtain ⟨h0, h1⟩ := hd
    have hp0 : 0 ≤ d * 1103515245 := by omega
    have hp1 : d * 1103515245 ≤ 2369780942852710035 := by omega
    go_enter Try.func5, Try.ntmps5
    go_wp2_with (first | (go_at_call 7; refine (kD _).mono ?_; rintro e w1 ⟨rfl, hw1⟩; have hs := hw1.symm; clear hw1 kD; subst hs) | fail)
    go_ret2
    refine ⟨?_, rfl⟩
    rw [HS.out, HC.out]
    rfl
set_option maxHeartbeats 1000000 in
theorem coinLaw (d : Int) (w : World) : Calls Try.prog 3 #[.int .i64 d] w fun e w' => e = .returned (.bool true) ∧ w' = w := by
  have k1 := fun w => sCoin d w
  have k2 := fun w => iCoin d w
  generalize nxS d = X at k1 k2
  generalize nxC d = Y at k1 k2
  have j1 : (X != X) = false := by simp
  have j2 : (Y != Y) = false := by simp
  go_enter Try.func3, Try.ntmps3
  go_wp2_with fail
  refine (k1 _).mono ?_
  rintro e w1 ⟨rfl, hw1⟩
  have hs1 := hw1.symm
  clear hw1 k1
  subst hs1
  go_wp2_with fail
  refine (k2 _).mono ?_
  rintro e w3 ⟨rfl, hw3⟩
  have hs3 := hw3.symm
  clear hw3 k2
  subst hs3
  go_wp2
  go_ret
  exact ⟨rfl, rfl⟩
end Go.Proofs.Ytgfmeineialcgab
