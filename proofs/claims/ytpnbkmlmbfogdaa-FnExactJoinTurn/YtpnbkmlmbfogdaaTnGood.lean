/- Good turns, as both say it; the plain turn of the program. -/
import Derived.Test.YtpnbkmlmbfogdaaTnBase
namespace Go.Proofs.Ytpnbkmlmbfogdaa
open Go.RowKit

theorem gcd_half {x y : Int} (hx : Half x) (hy : Half y) : Half (Int.gcd x y : Int) := by
  unfold Half at *
  by_cases h : x = 0
  · subst h
    rw [Int.gcd_zero_left]
    omega
  · have := Nat.gcd_le_left y.natAbs (show 0 < x.natAbs by omega)
    have e : Int.gcd x y = Nat.gcd x.natAbs y.natAbs := rfl
    rw [e]
    omega
theorem gcdW_half {x y : Int} (hx : Half x) (hy : Half y) : gcdW x y = (Int.gcd x y : Int) := by
  have := gcd_half hx hy
  unfold Half at *
  unfold gcdW
  rw [if_neg (by omega)]

set_option maxHeartbeats 1000000 in
theorem specGood_any (a b : Int) (w : World) (ha : I64 a) (hb : I64 b) :
    Calls Try.prog 5 #[tn a b] w fun e w' => e = .returned (.bool (goodT a b)) ∧ Below w.heap.size w w' := by
  have la := fun w => l4Abs_any a w ha
  have lb := fun w => l4Abs_any b w hb
  obtain ⟨x, hx⟩ : ∃ x, absW a = x := ⟨_, rfl⟩
  obtain ⟨y, hy⟩ : ∃ y, absW b = y := ⟨_, rfl⟩
  have HX : Hid (absW a = x) := hx
  have HY : Hid (absW b = y) := hy
  rw [hx] at la
  rw [hy] at lb
  clear hx hy
  have no : ¬ (x ≤ 1000000 ∧ y ≤ 1000000 ∧ -1000000 ≤ a ∧ 0 ≤ b) → goodT a b = false := by
    intro k
    have hx := HX.out
    have hy := HY.out
    unfold absW at hx hy
    have : fitT a b = false := by
      cases hf : fitT a b
      · rfl
      · have := fit_iff.mp hf
        split at hx <;> split at hy <;> omega
    unfold goodT
    rw [this]
    rfl
  have yes : x ≤ 1000000 → y ≤ 1000000 → -1000000 ≤ a → 0 ≤ b → goodT a b = plainB a b ∧ a ≤ 1000000 ∧ b ≤ 1000000 := by
    intro k1 k2 k3 k4
    have hx := HX.out
    have hy := HY.out
    unfold absW at hx hy
    have h1 : a ≤ 1000000 := by split at hx <;> omega
    have h2 : b ≤ 1000000 := by split at hy <;> omega
    have : fitT a b = true := fit_iff.mpr (by omega)
    unfold goodT
    rw [this]
    exact ⟨rfl, h1, h2⟩
  by_cases h1 : x > 1000000
  · rw [no (by omega)]
    clear no yes
    go_enter Try.func5, Try.ntmps5
    go_wp2_with (first | (go_at_call_of 11 a; refine (la _).mono ?_; rintro e w' ⟨rfl, hw'⟩; have hs := hw'.symm; clear hw'; subst hs) | (go_at_call_of 11 b; refine (lb _).mono ?_; rintro e w' ⟨rfl, hw'⟩; have hs := hw'.symm; clear hw'; subst hs))
    go_ret
    refine ⟨rfl, ?_⟩
    repeat' (first | exact Below.refl _ _ | refine below_dr ?_ _ | refine Below.alloc ?_ (by simp <;> omega) _ | refine Below.setCell ?_ (by simp <;> omega) _)
  by_cases h2 : y > 1000000
  · rw [no (by omega)]
    clear no yes
    go_enter Try.func5, Try.ntmps5
    go_wp2_with (first | (go_at_call_of 11 a; refine (la _).mono ?_; rintro e w' ⟨rfl, hw'⟩; have hs := hw'.symm; clear hw'; subst hs) | (go_at_call_of 11 b; refine (lb _).mono ?_; rintro e w' ⟨rfl, hw'⟩; have hs := hw'.symm; clear hw'; subst hs))
    go_ret
    refine ⟨rfl, ?_⟩
    repeat' (first | exact Below.refl _ _ | refine below_dr ?_ _ | refine Below.alloc ?_ (by simp <;> omega) _ | refine Below.setCell ?_ (by simp <;> omega) _)
  by_cases h3 : a < -1000000
  · rw [no (by omega)]
    clear no yes
    go_enter Try.func5, Try.ntmps5
    go_wp2_with (first | (go_at_call_of 11 a; refine (la _).mono ?_; rintro e w' ⟨rfl, hw'⟩; have hs := hw'.symm; clear hw'; subst hs) | (go_at_call_of 11 b; refine (lb _).mono ?_; rintro e w' ⟨rfl, hw'⟩; have hs := hw'.symm; clear hw'; subst hs))
    go_ret
    refine ⟨rfl, ?_⟩
    repeat' (first | exact Below.refl _ _ | refine below_dr ?_ _ | refine Below.alloc ?_ (by simp <;> omega) _ | refine Below.setCell ?_ (by simp <;> omega) _)
  by_cases h4 : b < 0
  · rw [no (by omega)]
    clear no yes
    go_enter Try.func5, Try.ntmps5
    go_wp2_with (first | (go_at_call_of 11 a; refine (la _).mono ?_; rintro e w' ⟨rfl, hw'⟩; have hs := hw'.symm; clear hw'; subst hs) | (go_at_call_of 11 b; refine (lb _).mono ?_; rintro e w' ⟨rfl, hw'⟩; have hs := hw'.symm; clear hw'; subst hs))
    go_ret
    refine ⟨rfl, ?_⟩
    repeat' (first | exact Below.refl _ _ | refine below_dr ?_ _ | refine Below.alloc ?_ (by simp <;> omega) _ | refine Below.setCell ?_ (by simp <;> omega) _)
  obtain ⟨e, ha', hb'⟩ := yes (by omega) (by omega) (by omega) (by omega)
  rw [e]
  clear no yes e
  cases h5 : (b == 0)
  · have hz : ¬ b = 0 := by simpa using h5
    have lg := fun w => l4Gcd_any a b w ⟨by omega, by omega⟩ ⟨by omega, by omega⟩
    have ep : plainB a b = ((Int.gcd a b : Int) == 1) := by
      unfold plainB
      rw [if_neg hz]
      by_cases k : Int.gcd a b = 1
      · rw [k]; rfl
      · rw [decide_eq_false k]
        symm
        rw [beq_eq_false_iff_ne]
        omega
    rw [ep]
    clear ep
    generalize (Int.gcd a b : Int) = g at lg ⊢
    go_enter Try.func5, Try.ntmps5
    go_wp2_with (first | (go_at_call_of 11 a; refine (la _).mono ?_; rintro e w' ⟨rfl, hw'⟩; have hs := hw'.symm; clear hw'; subst hs) | (go_at_call_of 11 b; refine (lb _).mono ?_; rintro e w' ⟨rfl, hw'⟩; have hs := hw'.symm; clear hw'; subst hs) | (go_at_call 12; refine (lg _).mono ?_; rintro e w' ⟨rfl, hw'⟩; have hs := hw'.symm; clear hw'; subst hs))
    go_ret
    refine ⟨rfl, ?_⟩
    repeat' (first | exact Below.refl _ _ | refine below_dr ?_ _ | refine Below.alloc ?_ (by simp <;> omega) _ | refine Below.setCell ?_ (by simp <;> omega) _)
  · have hz : b = 0 := by simpa using h5
    have ep : plainB a b = (a == 1) := by
      unfold plainB
      rw [if_pos hz]
      rfl
    rw [ep]
    clear ep hz
    go_enter Try.func5, Try.ntmps5
    go_wp2_with (first | (go_at_call_of 11 a; refine (la _).mono ?_; rintro e w' ⟨rfl, hw'⟩; have hs := hw'.symm; clear hw'; subst hs) | (go_at_call_of 11 b; refine (lb _).mono ?_; rintro e w' ⟨rfl, hw'⟩; have hs := hw'.symm; clear hw'; subst hs))
    go_ret
    refine ⟨rfl, ?_⟩
    repeat' (first | exact Below.refl _ _ | refine below_dr ?_ _ | refine Below.alloc ?_ (by simp <;> omega) _ | refine Below.setCell ?_ (by simp <;> omega) _)
end Go.Proofs.Ytpnbkmlmbfogdaa
