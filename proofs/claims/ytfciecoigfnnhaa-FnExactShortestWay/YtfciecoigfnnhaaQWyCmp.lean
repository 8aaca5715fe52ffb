/- CmpCost, as the specification says it. -/
import Derived.Test.YtfciecoigfnnhaaQWyKey
namespace Go.Proofs.Ytfciecoigfnnhaa
open Go.RowKit

set_option maxHeartbeats 400000 in
theorem sSign (n : Int) (w : World) : Calls Try.prog 85 #[.int .i64 n] w fun e w' => e = .returned (.int .i64 (sgI n)) ∧ w' = w := by
  by_cases h0 : n < 0
  · skip
    have e0 : sgI n = -1 := by simp [sgI, *]
    rw [e0]
    go_enter Try.func85, Try.ntmps85
    go_wp2
    go_ret
    exact ⟨rfl, rfl⟩
  · by_cases h1 : 0 < n
    · skip
      have e0 : sgI n = 1 := by simp [sgI, *]
      rw [e0]
      go_enter Try.func85, Try.ntmps85
      go_wp2
      go_ret
      exact ⟨rfl, rfl⟩
    · skip
      have e0 : sgI n = 0 := by simp [sgI, *]
      rw [e0]
      go_enter Try.func85, Try.ntmps85
      go_wp2
      go_ret
      exact ⟨rfl, rfl⟩

set_option maxHeartbeats 1000000 in
theorem sCmp (a b : Int) (w : World) (ha0 : -1000000 ≤ a) (ha1 : a ≤ 1000000) (hb0 : -1000000 ≤ b) (hb1 : b ≤ 1000000) :
    Calls Try.prog 49 #[.int .i64 a, .int .i64 b] w fun e w' => e = .returned (.int .i64 (cmpV a b)) ∧ w' = w := by
  have ka := sSign a
  have kb := sSign b
  have q0 := sq_le ha0 ha1
  have q1 : 0 ≤ 2 * b * b ∧ 2 * b * b ≤ 2000000000000 := by rw [Int.mul_assoc]; have := sq_le hb0 hb1; omega
  have ecv : cmpV a b = if sgI a = sgI b ∨ b = 0 then sgI a else if a = 0 then sgI b else if 2 * b * b < a * a then sgI a else sgI b := rfl
  rw [ecv]
  clear ecv
  obtain ⟨q00, q01⟩ := q0
  obtain ⟨q10, q11⟩ := q1
  generalize sgI a = A at ka ⊢
  generalize sgI b = B at kb ⊢
  cases e1 : (A == B) with
  | true =>
    have h : A = B := by simpa using e1
    rw [if_pos (Or.inl h)]
    clear h
    go_enter Try.func49, Try.ntmps49
    go_wp2_with (first | (go_at_call_of 85 (Value.int .i64 a); refine (ka _).mono ?_; rintro e w' ⟨rfl, hw'⟩; have hs := hw'.symm; clear hw'; subst hs) | (go_at_call_of 85 (Value.int .i64 b); refine (kb _).mono ?_; rintro e w' ⟨rfl, hw'⟩; have hs := hw'.symm; clear hw'; subst hs))
    go_ret
    exact ⟨rfl, rfl⟩
  | false =>
    have h : ¬ A = B := by simpa using e1
    cases e2 : (b == 0) with
    | true =>
      have h2 : b = 0 := by simpa using e2
      rw [if_pos (Or.inr h2)]
      clear h h2
      go_enter Try.func49, Try.ntmps49
      go_wp2_with (first | (go_at_call_of 85 (Value.int .i64 a); refine (ka _).mono ?_; rintro e w' ⟨rfl, hw'⟩; have hs := hw'.symm; clear hw'; subst hs) | (go_at_call_of 85 (Value.int .i64 b); refine (kb _).mono ?_; rintro e w' ⟨rfl, hw'⟩; have hs := hw'.symm; clear hw'; subst hs))
      go_ret
      exact ⟨rfl, rfl⟩
    | false =>
      have h2 : ¬ b = 0 := by simpa using e2
      rw [if_neg (by rintro (x | x); exact h x; exact h2 x)]
      clear h h2
      cases e3 : (a == 0) with
      | true =>
        have h3 : a = 0 := by simpa using e3
        rw [if_pos h3]
        clear h3
        go_enter Try.func49, Try.ntmps49
        go_wp2_with (first | (go_at_call_of 85 (Value.int .i64 a); refine (ka _).mono ?_; rintro e w' ⟨rfl, hw'⟩; have hs := hw'.symm; clear hw'; subst hs) | (go_at_call_of 85 (Value.int .i64 b); refine (kb _).mono ?_; rintro e w' ⟨rfl, hw'⟩; have hs := hw'.symm; clear hw'; subst hs))
        go_ret
        exact ⟨rfl, rfl⟩
      | false =>
        have h3 : ¬ a = 0 := by simpa using e3
        rw [if_neg h3]
        clear h3
        by_cases e4 : 2 * b * b < a * a
        · rw [if_pos e4]
          go_enter Try.func49, Try.ntmps49
          go_wp2_with (first | (go_at_call_of 85 (Value.int .i64 a); refine (ka _).mono ?_; rintro e w' ⟨rfl, hw'⟩; have hs := hw'.symm; clear hw'; subst hs) | (go_at_call_of 85 (Value.int .i64 b); refine (kb _).mono ?_; rintro e w' ⟨rfl, hw'⟩; have hs := hw'.symm; clear hw'; subst hs))
          go_ret
          exact ⟨rfl, rfl⟩
        · rw [if_neg e4]
          go_enter Try.func49, Try.ntmps49
          go_wp2_with (first | (go_at_call_of 85 (Value.int .i64 a); refine (ka _).mono ?_; rintro e w' ⟨rfl, hw'⟩; have hs := hw'.symm; clear hw'; subst hs) | (go_at_call_of 85 (Value.int .i64 b); refine (kb _).mono ?_; rintro e w' ⟨rfl, hw'⟩; have hs := hw'.symm; clear hw'; subst hs))
          go_ret
          exact ⟨rfl, rfl⟩

set_option maxHeartbeats 400000 in
theorem sSteps (n : Int) (w : World) : Calls Try.prog 69 #[.int .i64 n] w fun e w' => e = .returned (.bool (stB n)) ∧ w' = w := by
  by_cases h0 : 0 ≤ n
  · by_cases h1 : n ≤ 1000000
    · skip
      have e0 : stB n = true := by simp [stB]; omega
      rw [e0]
      go_enter Try.func69, Try.ntmps69
      go_wp2
      go_ret
      exact ⟨rfl, rfl⟩
    · skip
      have e0 : stB n = false := by simp [stB]; omega
      rw [e0]
      go_enter Try.func69, Try.ntmps69
      go_wp2
      go_ret
      exact ⟨rfl, rfl⟩
  · skip
    have e0 : stB n = false := by simp [stB]; omega
    rw [e0]
    go_enter Try.func69, Try.ntmps69
    go_wp2
    go_ret
    exact ⟨rfl, rfl⟩

set_option maxHeartbeats 1000000 in
theorem sCmpCost (a b c d : Int) (w : World) :
    Calls Try.prog 27 #[.int .i64 a, .int .i64 b, .int .i64 c, .int .i64 d] w fun e w' => e = .returned (.tuple #[.int .i64 (cstV a b c d), .bool (cstB a b c d)]) ∧ w' = w := by
  have ka := sSteps a
  have kb := sSteps b
  have kc := sSteps c
  have kd := sSteps d
  cases e0 : stB a with
  | false =>
    have e : cstB a b c d = false := by simp [cstB, e0]
    have e' : cstV a b c d = 0 := by simp [cstV, e]
    rw [e, e']
    rw [e0] at ka
    go_enter Try.func27, Try.ntmps27
    go_wp2_with (first | (go_at_call_of 69 (Value.int .i64 a); refine (ka _).mono ?_; rintro e w' ⟨rfl, hw'⟩; have hs := hw'.symm; clear hw'; subst hs))
    go_ret2
    exact ⟨rfl, rfl⟩
  | true =>
    cases e1 : stB b with
    | false =>
      have e : cstB a b c d = false := by simp [cstB, e1]
      have e' : cstV a b c d = 0 := by simp [cstV, e]
      rw [e, e']
      rw [e0] at ka
      rw [e1] at kb
      go_enter Try.func27, Try.ntmps27
      go_wp2_with (first | (go_at_call_of 69 (Value.int .i64 a); refine (ka _).mono ?_; rintro e w' ⟨rfl, hw'⟩; have hs := hw'.symm; clear hw'; subst hs) | (go_at_call_of 69 (Value.int .i64 b); refine (kb _).mono ?_; rintro e w' ⟨rfl, hw'⟩; have hs := hw'.symm; clear hw'; subst hs))
      go_ret2
      exact ⟨rfl, rfl⟩
    | true =>
      cases e2 : stB c with
      | false =>
        have e : cstB a b c d = false := by simp [cstB, e2]
        have e' : cstV a b c d = 0 := by simp [cstV, e]
        rw [e, e']
        rw [e0] at ka
        rw [e1] at kb
        rw [e2] at kc
        go_enter Try.func27, Try.ntmps27
        go_wp2_with (first | (go_at_call_of 69 (Value.int .i64 a); refine (ka _).mono ?_; rintro e w' ⟨rfl, hw'⟩; have hs := hw'.symm; clear hw'; subst hs) | (go_at_call_of 69 (Value.int .i64 b); refine (kb _).mono ?_; rintro e w' ⟨rfl, hw'⟩; have hs := hw'.symm; clear hw'; subst hs) | (go_at_call_of 69 (Value.int .i64 c); refine (kc _).mono ?_; rintro e w' ⟨rfl, hw'⟩; have hs := hw'.symm; clear hw'; subst hs))
        go_ret2
        exact ⟨rfl, rfl⟩
      | true =>
        cases e3 : stB d with
        | false =>
          have e : cstB a b c d = false := by simp [cstB, e3]
          have e' : cstV a b c d = 0 := by simp [cstV, e]
          rw [e, e']
          rw [e0] at ka
          rw [e1] at kb
          rw [e2] at kc
          rw [e3] at kd
          go_enter Try.func27, Try.ntmps27
          go_wp2_with (first | (go_at_call_of 69 (Value.int .i64 a); refine (ka _).mono ?_; rintro e w' ⟨rfl, hw'⟩; have hs := hw'.symm; clear hw'; subst hs) | (go_at_call_of 69 (Value.int .i64 b); refine (kb _).mono ?_; rintro e w' ⟨rfl, hw'⟩; have hs := hw'.symm; clear hw'; subst hs) | (go_at_call_of 69 (Value.int .i64 c); refine (kc _).mono ?_; rintro e w' ⟨rfl, hw'⟩; have hs := hw'.symm; clear hw'; subst hs) | (go_at_call_of 69 (Value.int .i64 d); refine (kd _).mono ?_; rintro e w' ⟨rfl, hw'⟩; have hs := hw'.symm; clear hw'; subst hs))
          go_ret2
          exact ⟨rfl, rfl⟩
        | true =>
          have e : cstB a b c d = true := by simp [cstB, e0, e1, e2, e3]
          have e' : cstV a b c d = cmpV (a - c) (b - d) := by simp [cstV, e]
          rw [e, e']
          rw [e0] at ka
          rw [e1] at kb
          rw [e2] at kc
          rw [e3] at kd
          have g0 := stB_t e0
          have g1 := stB_t e1
          have g2 := stB_t e2
          have g3 := stB_t e3
          clear e e' e0 e1 e2 e3
          have kc0 := sCmp (a - c) (b - d)
          generalize cmpV (a - c) (b - d) = v at kc0 ⊢
          go_enter Try.func27, Try.ntmps27
          go_wp2_with (first | (go_at_call_of 69 (Value.int .i64 a); refine (ka _).mono ?_; rintro e w' ⟨rfl, hw'⟩; have hs := hw'.symm; clear hw'; subst hs) | (go_at_call_of 69 (Value.int .i64 b); refine (kb _).mono ?_; rintro e w' ⟨rfl, hw'⟩; have hs := hw'.symm; clear hw'; subst hs) | (go_at_call_of 69 (Value.int .i64 c); refine (kc _).mono ?_; rintro e w' ⟨rfl, hw'⟩; have hs := hw'.symm; clear hw'; subst hs) | (go_at_call_of 69 (Value.int .i64 d); refine (kd _).mono ?_; rintro e w' ⟨rfl, hw'⟩; have hs := hw'.symm; clear hw'; subst hs) | (go_at_call 49; refine (kc0 _ (by omega) (by omega) (by omega) (by omega)).mono ?_; rintro e w' ⟨rfl, hw'⟩; have hs := hw'.symm; clear hw'; subst hs))
          go_ret2
          exact ⟨rfl, rfl⟩
end Go.Proofs.Ytfciecoigfnnhaa
