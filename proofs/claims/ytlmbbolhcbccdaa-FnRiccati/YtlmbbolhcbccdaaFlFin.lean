/- The contracts of the functions that tell a finite float. -/
import Derived.Test.YtlmbbolhcbccdaaFlPlain
import Derived.Test.YtlmbbolhcbccdaaFlOps
namespace Go.Proofs.Ytlmbbolhcbccdaa
open Go.RowKit

theorem l2Finite_any (v : Nat) (w : World) (hv : v < 18446744073709551616) :
    Calls Try.prog 33 #[.float .f64 v] w fun e w' => e = .returned (.bool (!nanB v && !infB v)) ∧ w' = w := by
  by_cases hn : nanB v = true
  · rw [hn]
    go_enter Try.func33, Try.ntmps33
    go_wp2_with (first | (go_at_call 43; refine (isNaN_any _ _).mono ?_; rintro e w' ⟨rfl, rfl⟩) | (go_at_call 44; refine (isInf_any _ _ hv).mono ?_; rintro e w' ⟨rfl, rfl⟩))
    go_ret
    exact ⟨rfl, rfl⟩
  · have hn' : nanB v = false := by simpa using hn
    clear hn
    rw [hn']
    go_enter Try.func33, Try.ntmps33
    go_wp2_with (first | (go_at_call 43; refine (isNaN_any _ _).mono ?_; rintro e w' ⟨rfl, rfl⟩) | (go_at_call 44; refine (isInf_any _ _ hv).mono ?_; rintro e w' ⟨rfl, rfl⟩))
    go_ret
    exact ⟨rfl, rfl⟩
theorem finite_any (v : Nat) (w : World) (hv : v < 18446744073709551616) :
    Calls Try.prog 28 #[.float .f64 v] w fun e w' => e = .returned (.tuple #[.float .f64 (toldV v), .bool (toldT v)]) ∧ w' = w := by
  by_cases hn : nanB v = true
  · have e1 : toldV v = 0 := by unfold toldV; rw [hn]; rfl
    have e2 : toldT v = false := by unfold toldT; rw [hn]; rfl
    rw [e1, e2]; clear e1 e2
    go_enter Try.func28, Try.ntmps28
    go_wp2_with (first | (go_at_call 43; refine (isNaN_any _ _).mono ?_; rintro e w' ⟨rfl, rfl⟩) | (go_at_call 44; refine (isInf_any _ _ hv).mono ?_; rintro e w' ⟨rfl, rfl⟩) | (go_at_call 46; refine (unsigned_any _ _).mono ?_; rintro e w' ⟨rfl, rfl⟩))
    go_ret2
    exact ⟨rfl, rfl⟩
  · have hn' : nanB v = false := by simpa using hn
    clear hn
    by_cases hi : infB v = true
    · have e1 : toldV v = 0 := by unfold toldV; rw [hi]; simp
      have e2 : toldT v = false := by unfold toldT; rw [hi]; simp
      rw [e1, e2]; clear e1 e2
      go_enter Try.func28, Try.ntmps28
      go_wp2_with (first | (go_at_call 43; refine (isNaN_any _ _).mono ?_; rintro e w' ⟨rfl, rfl⟩) | (go_at_call 44; refine (isInf_any _ _ hv).mono ?_; rintro e w' ⟨rfl, rfl⟩) | (go_at_call 46; refine (unsigned_any _ _).mono ?_; rintro e w' ⟨rfl, rfl⟩))
      go_ret2
      exact ⟨rfl, rfl⟩
    · have hi' : infB v = false := by simpa using hi
      clear hi
      have e1 : toldV v = plain v := by unfold toldV; rw [hn', hi']; rfl
      have e2 : toldT v = true := by unfold toldT; rw [hn', hi']; rfl
      rw [e1, e2]; clear e1 e2
      go_enter Try.func28, Try.ntmps28
      go_wp2_with (first | (go_at_call 43; refine (isNaN_any _ _).mono ?_; rintro e w' ⟨rfl, rfl⟩) | (go_at_call 44; refine (isInf_any _ _ hv).mono ?_; rintro e w' ⟨rfl, rfl⟩) | (go_at_call 46; refine (unsigned_any _ _).mono ?_; rintro e w' ⟨rfl, rfl⟩))
      go_ret2
      exact ⟨rfl, rfl⟩
theorem l2Told_any (v : Nat) (w : World) (hv : v < 18446744073709551616) :
    Calls Try.prog 34 #[.float .f64 v] w fun e w' => e = .returned (.tuple #[.float .f64 (toldV v), .bool (toldT v)]) ∧ w' = w := by
  by_cases hb : (nanB v || infB v) = true
  · have hb' : (!nanB v && !infB v) = false := by rw [← Bool.not_or, hb]; rfl
    have e1 : toldV v = 0 := by unfold toldV; rw [if_pos hb]
    have e2 : toldT v = false := by unfold toldT; rw [hb]; rfl
    rw [e1, e2]
    have hc := fun w => l2Finite_any v w hv
    rw [hb'] at hc
    clear hb hb' e1 e2
    go_enter Try.func34, Try.ntmps34
    go_wp2_with (first | (go_at_call 33; refine (hc _).mono ?_; rintro e w' ⟨rfl, rfl⟩) | (go_at_call 31; refine (l2Plain_any _ _).mono ?_; rintro e w' ⟨rfl, rfl⟩))
    go_ret2
    exact ⟨rfl, rfl⟩
  · have hb2 : (nanB v || infB v) = false := by simpa using hb
    have hb' : (!nanB v && !infB v) = true := by rw [← Bool.not_or, hb2]; rfl
    have e1 : toldV v = plain v := by unfold toldV; rw [if_neg hb]
    have e2 : toldT v = true := by unfold toldT; rw [hb2]; rfl
    rw [e1, e2]
    have hc := fun w => l2Finite_any v w hv
    rw [hb'] at hc
    clear hb hb2 hb' e1 e2
    go_enter Try.func34, Try.ntmps34
    go_wp2_with (first | (go_at_call 33; refine (hc _).mono ?_; rintro e w' ⟨rfl, rfl⟩) | (go_at_call 31; refine (l2Plain_any _ _).mono ?_; rintro e w' ⟨rfl, rfl⟩))
    go_ret2
    exact ⟨rfl, rfl⟩
end Go.Proofs.Ytlmbbolhcbccdaa
