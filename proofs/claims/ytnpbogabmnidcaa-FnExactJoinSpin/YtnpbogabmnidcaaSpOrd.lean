/- The order of lists of four numbers: which sign the first number that is not 0 has. -/
import Derived.Test.YtnpbogabmnidcaaSpBox
import Derived.Test.YtnpbogabmnidcaaSpGcd
namespace Go.Proofs.Ytnpbogabmnidcaa
open Go.RowKit

set_option maxHeartbeats 400000 in
theorem isNaN_any (x : Int) (w : World) :
    Calls Try.prog 32 #[.int .i64 x] w fun e w' => e = .returned (.bool false) ∧ w' = w := by
  go_enter Try.func32, Try.ntmps32
  go_wp2
  go_ret
  exact ⟨ret_bool (by simp), rfl⟩

def sgn (x : Int) : Int := if x < 0 then -1 else if 0 < x then 1 else 0
set_option maxHeartbeats 400000 in
theorem cmp_any (x : Int) (w : World) :
    Calls Try.prog 31 #[.int .i64 x, .int .i64 0] w fun e w' => e = .returned (.int .i64 (sgn x)) ∧ w' = w := by
  by_cases h0 : x < 0
  · go_enter Try.func31, Try.ntmps31
    go_wp2_with (go_at_call 32; refine (isNaN_any _ _).mono ?_; rintro e w' ⟨rfl, hw'⟩; have hs := hw'.symm; clear hw'; subst hs)
    go_ret
    exact ⟨ret_int (by simp [sgn, h0]), rfl⟩
  · by_cases h1 : 0 < x
    · go_enter Try.func31, Try.ntmps31
      go_wp2_with (go_at_call 32; refine (isNaN_any _ _).mono ?_; rintro e w' ⟨rfl, hw'⟩; have hs := hw'.symm; clear hw'; subst hs)
      go_ret
      exact ⟨ret_int (by simp [sgn, h1]; omega), rfl⟩
    · go_enter Try.func31, Try.ntmps31
      go_wp2_with (go_at_call 32; refine (isNaN_any _ _).mono ?_; rintro e w' ⟨rfl, hw'⟩; have hs := hw'.symm; clear hw'; subst hs)
      go_ret
      exact ⟨ret_int (by unfold sgn; rw [if_neg (by omega), if_neg (by omega)]), rfl⟩

/-- the first number that is not 0, or 0 -/
def lead (a b c d : Int) : Int := if a = 0 then (if b = 0 then (if c = 0 then d else c) else b) else a
def zerosB (a b c d : Int) (k : Nat) : Bool := ([a, b, c, d].take k).all (fun x => decide (x = 0))
theorem sgn_zero {x : Int} (h : x = 0) : sgn x = 0 := by subst h; rfl
theorem sgn_ne {x : Int} (h : ¬ x = 0) : (sgn x != 0) = true := by
  unfold sgn
  by_cases h0 : x < 0
  · simp [h0]
  · have h1 : 0 < x := by omega
    simp [h0, h1]

set_option maxHeartbeats 2000000 in
theorem slCmp_any (a b c d : Int) (g h : Nat) (w : World) (hg : Box w g a b c d) (hh : Box w h 0 0 0 0) :
    Calls Try.prog 30 #[.slice (some ⟨g, 0, none⟩) 4 4, .slice (some ⟨h, 0, none⟩) 4 4] w fun e w' => e = .returned (.int .i64 (sgn (lead a b c d))) ∧ w' = w := by
  obtain ⟨g0, g1, g2, g3, g4, -, -, -, -⟩ := hg
  obtain ⟨h0, h1, h2, h3, h4, -, -, -, -⟩ := hh
  go_enter Try.func30, Try.ntmps30
  go_wp2
  go_loop [11] (fun i => ∃ k : Nat, k ≤ 4 ∧ i = .int .i64 k ∧ zerosB a b c d k = true) (fun i => 4 - (intOf i).toNat)
  case atStart => exact ⟨0, Nat.zero_le _, rfl, rfl⟩
  case round =>
    obtain ⟨k, hk, rfl, hz⟩ := hrel
    have hk5 : k = 0 ∨ k = 1 ∨ k = 2 ∨ k = 3 ∨ k = 4 := by omega
    rcases hk5 with rfl | rfl | rfl | rfl | rfl
    · have HZ : Hid (zerosB a b c d 0 = true) := hz
      clear hz
      by_cases hv : a = 0
      · have hs0 := sgn_zero hv
        have HV : Hid (a = 0) := hv
        clear hv
        go_wp2_with (go_at_call 31; refine (cmp_any a _).mono ?_; rw [hs0]; rintro e w' ⟨rfl, hw'⟩; have hs := hw'.symm; clear hw'; subst hs)
        go_round
        case rel => exact ⟨1, by omega, by go_num, by have := HZ.out; have := HV.out; simp_all [zerosB]⟩
        case measure => simp [intOf]
      · have hs1 := sgn_ne hv
        have HV : Hid (¬ a = 0) := hv
        clear hv
        obtain ⟨x, hx⟩ : ∃ x, sgn a = x := ⟨_, rfl⟩
        rw [hx] at hs1
        have HX : Hid (sgn a = x) := hx
        have hx := HX.out
        go_wp2_with (go_at_call 31; refine (cmp_any a _).mono ?_; rw [HX.out]; rintro e w' ⟨rfl, hw'⟩; have hs := hw'.symm; clear hw'; subst hs)
        go_ret
        refine ⟨ret_int ?_, rfl⟩
        have e : lead a b c d = a := by have := HZ.out; have := HV.out; simp_all [zerosB, lead]
        rw [e, HX.out]
    · have HZ : Hid (zerosB a b c d 1 = true) := hz
      clear hz
      by_cases hv : b = 0
      · have hs0 := sgn_zero hv
        have HV : Hid (b = 0) := hv
        clear hv
        go_wp2_with (go_at_call 31; refine (cmp_any b _).mono ?_; rw [hs0]; rintro e w' ⟨rfl, hw'⟩; have hs := hw'.symm; clear hw'; subst hs)
        go_round
        case rel => exact ⟨2, by omega, by go_num, by have := HZ.out; have := HV.out; simp_all [zerosB]⟩
        case measure => simp [intOf]
      · have hs1 := sgn_ne hv
        have HV : Hid (¬ b = 0) := hv
        clear hv
        obtain ⟨x, hx⟩ : ∃ x, sgn b = x := ⟨_, rfl⟩
        rw [hx] at hs1
        have HX : Hid (sgn b = x) := hx
        have hx := HX.out
        go_wp2_with (go_at_call 31; refine (cmp_any b _).mono ?_; rw [HX.out]; rintro e w' ⟨rfl, hw'⟩; have hs := hw'.symm; clear hw'; subst hs)
        go_ret
        refine ⟨ret_int ?_, rfl⟩
        have e : lead a b c d = b := by have := HZ.out; have := HV.out; simp_all [zerosB, lead]
        rw [e, HX.out]
    · have HZ : Hid (zerosB a b c d 2 = true) := hz
      clear hz
      by_cases hv : c = 0
      · have hs0 := sgn_zero hv
        have HV : Hid (c = 0) := hv
        clear hv
        go_wp2_with (go_at_call 31; refine (cmp_any c _).mono ?_; rw [hs0]; rintro e w' ⟨rfl, hw'⟩; have hs := hw'.symm; clear hw'; subst hs)
        go_round
        case rel => exact ⟨3, by omega, by go_num, by have := HZ.out; have := HV.out; simp_all [zerosB]⟩
        case measure => simp [intOf]
      · have hs1 := sgn_ne hv
        have HV : Hid (¬ c = 0) := hv
        clear hv
        obtain ⟨x, hx⟩ : ∃ x, sgn c = x := ⟨_, rfl⟩
        rw [hx] at hs1
        have HX : Hid (sgn c = x) := hx
        have hx := HX.out
        go_wp2_with (go_at_call 31; refine (cmp_any c _).mono ?_; rw [HX.out]; rintro e w' ⟨rfl, hw'⟩; have hs := hw'.symm; clear hw'; subst hs)
        go_ret
        refine ⟨ret_int ?_, rfl⟩
        have e : lead a b c d = c := by have := HZ.out; have := HV.out; simp_all [zerosB, lead]
        rw [e, HX.out]
    · have HZ : Hid (zerosB a b c d 3 = true) := hz
      clear hz
      by_cases hv : d = 0
      · have hs0 := sgn_zero hv
        have HV : Hid (d = 0) := hv
        clear hv
        go_wp2_with (go_at_call 31; refine (cmp_any d _).mono ?_; rw [hs0]; rintro e w' ⟨rfl, hw'⟩; have hs := hw'.symm; clear hw'; subst hs)
        go_round
        case rel => exact ⟨4, by omega, by go_num, by have := HZ.out; have := HV.out; simp_all [zerosB]⟩
        case measure => simp [intOf]
      · have hs1 := sgn_ne hv
        have HV : Hid (¬ d = 0) := hv
        clear hv
        obtain ⟨x, hx⟩ : ∃ x, sgn d = x := ⟨_, rfl⟩
        rw [hx] at hs1
        have HX : Hid (sgn d = x) := hx
        have hx := HX.out
        go_wp2_with (go_at_call 31; refine (cmp_any d _).mono ?_; rw [HX.out]; rintro e w' ⟨rfl, hw'⟩; have hs := hw'.symm; clear hw'; subst hs)
        go_ret
        refine ⟨ret_int ?_, rfl⟩
        have e : lead a b c d = d := by have := HZ.out; have := HV.out; simp_all [zerosB, lead]
        rw [e, HX.out]
    · have E : Hid (lead a b c d = 0) := by
        have : lead a b c d = 0 := by simp_all [zerosB, lead]
        exact this
      clear hz
      go_wp2
      go_ret
      exact ⟨ret_int (by rw [E.out]; rfl), rfl⟩
end Go.Proofs.Ytnpbogabmnidcaa
