/- Floats above 0 mostly, and what FnRiccati draws. -/
import Derived.Test.YtlmbbolhcbccdaaRfReal
import Derived.Test.YtlmbbolhcbccdaaCurNew
import Derived.Test.YtlmbbolhcbccdaaFlNeg
namespace Go.Proofs.Ytlmbbolhcbccdaa
open Go.RowKit

set_option maxHeartbeats 4000000 in
theorem above_any (C : Nat) (a : Option Addr) (len cap n : Nat) (w : World) (hc0 : Cur w C a len cap n) (hn : n ≤ 600000) :
    Calls Try.prog 22 #[.pointer (some ⟨C, 0, none⟩)] w fun e w' => AnsF w w' e C a len cap n 90 := by
  have hT0 : Turns C (C + 1) w w := turns_of (Below.refl _ _)
  go_enter Try.func22, Try.ntmps22
  go_wp2_with fail
  refine (sound_any C a len cap _ _ hc0 (by omega)).mono ?_
  rintro e w1 ⟨v, n1, rfl, hn1, hv, hc1, hO1⟩
  have hT1 := hT0.trans hO1
  clear hc0 hT0 hO1
  have hv2 := negF_lt hv
  have hun : ∀ w, (Op.unary .neg (.float .f64 v)).run Try.prog w = .ok (.float .f64 (negF v)) w := fun w => by rw [run_neg, negF_xor hv]
  generalize negF v = u at *
  cases z1 : (FloatKind.f64.format.order v 0 == some .lt)
  · cases z2 : (FloatKind.f64.format.order v 0 == some .eq)
    · go_wp2_with fail
      refine (one_any C a len cap _ 16 _ hc1 (by omega)).mono ?_
      rintro e w2 ⟨q2, n2, rfl, hn2, hc2, hO2⟩
      have hT2 := hT1.trans (on_turns hO2)
      clear hc1 hT1 hO2
      cases q2
      · go_wp2
        go_ret
        exact ⟨_, _, rfl, by omega, by first | assumption | decide, hc2, hT2⟩
      · go_wp2_with fail
        refine (real_any C a len cap _ _ hc2 (by omega)).mono ?_
        rintro e w3 ⟨y, n3, rfl, hn3, hy, hc3, hO3⟩
        have hT3 := hT2.trans hO3
        clear hc2 hT2 hO3
        go_wp2
        go_ret
        exact ⟨_, _, rfl, by omega, hy, hc3, hT3⟩
    · go_wp2_with fail
      refine (one_any C a len cap _ 16 _ hc1 (by omega)).mono ?_
      rintro e w2 ⟨q2, n2, rfl, hn2, hc2, hO2⟩
      have hT2 := hT1.trans (on_turns hO2)
      clear hc1 hT1 hO2
      cases q2
      · go_wp2
        go_ret
        exact ⟨_, _, rfl, by omega, by first | assumption | decide, hc2, hT2⟩
      · go_wp2_with fail
        refine (real_any C a len cap _ _ hc2 (by omega)).mono ?_
        rintro e w3 ⟨y, n3, rfl, hn3, hy, hc3, hO3⟩
        have hT3 := hT2.trans hO3
        clear hc2 hT2 hO3
        go_wp2
        go_ret
        exact ⟨_, _, rfl, by omega, hy, hc3, hT3⟩
  · cases z2 : (FloatKind.f64.format.order u 0 == some .eq)
    · go_wp2_with fail
      refine (one_any C a len cap _ 16 _ hc1 (by omega)).mono ?_
      rintro e w2 ⟨q2, n2, rfl, hn2, hc2, hO2⟩
      have hT2 := hT1.trans (on_turns hO2)
      clear hc1 hT1 hO2
      cases q2
      · go_wp2
        go_ret
        exact ⟨_, _, rfl, by omega, by first | assumption | decide, hc2, hT2⟩
      · go_wp2_with fail
        refine (real_any C a len cap _ _ hc2 (by omega)).mono ?_
        rintro e w3 ⟨y, n3, rfl, hn3, hy, hc3, hO3⟩
        have hT3 := hT2.trans hO3
        clear hc2 hT2 hO3
        go_wp2
        go_ret
        exact ⟨_, _, rfl, by omega, hy, hc3, hT3⟩
    · go_wp2_with fail
      refine (one_any C a len cap _ 16 _ hc1 (by omega)).mono ?_
      rintro e w2 ⟨q2, n2, rfl, hn2, hc2, hO2⟩
      have hT2 := hT1.trans (on_turns hO2)
      clear hc1 hT1 hO2
      cases q2
      · go_wp2
        go_ret
        exact ⟨_, _, rfl, by omega, by first | assumption | decide, hc2, hT2⟩
      · go_wp2_with fail
        refine (real_any C a len cap _ _ hc2 (by omega)).mono ?_
        rintro e w3 ⟨y, n3, rfl, hn3, hy, hc3, hO3⟩
        have hT3 := hT2.trans hO3
        clear hc2 hT2 hO3
        go_wp2
        go_ret
        exact ⟨_, _, rfl, by omega, hy, hc3, hT3⟩
end Go.Proofs.Ytlmbbolhcbccdaa
