/- A number of any size. -/
import Derived.Test.YtlmbbolhcbccdaaRfWide
namespace Go.Proofs.Ytlmbbolhcbccdaa
open Go.RowKit

set_option maxHeartbeats 4000000 in
theorem sized_any (C : Nat) (a : Option Addr) (len cap n : Nat) (w : World) (hc0 : Cur w C a len cap n) (hn : n ≤ 800000) :
    Calls Try.prog 42 #[.pointer (some ⟨C, 0, none⟩)] w fun e w' => AnsI w w' e C a len cap n 30 := by
  have hT0 : Turns C (C + 1) w w := turns_of (Below.refl _ _)
  go_enter Try.func42, Try.ntmps42
  go_wp2_with fail
  refine (pick_any C a len cap _ 5 _ hc0 (by omega)).mono ?_
  rintro e w1 ⟨p1, n1, rfl, g1, h1, -, hn1, hc1, hO1⟩
  have l1 := h1 (by omega)
  have hT1 := hT0.trans (on_turns hO1)
  clear hc0 hT0 hO1 h1
  go_wp2_with fail
  refine (pick_any C a len cap _ 8 _ hc1 (by omega)).mono ?_
  rintro e w2 ⟨p2, n2, rfl, g2, h2, -, hn2, hc2, hO2⟩
  have l2 := h2 (by omega)
  have hT2 := hT1.trans (on_turns hO2)
  clear hc1 hT1 hO2 h2
  by_cases e0 : p2 = 0
  · subst e0
    go_wp2_with fail
    refine (pick_any C a len cap _ 300 _ hc2 (by omega)).mono ?_
    rintro e w3 ⟨p3, n3, rfl, g3, h3, -, hn3, hc3, hO3⟩
    have l3 := h3 (by omega)
    have hT3 := hT2.trans (on_turns hO3)
    clear hc2 hT2 hO3 h3
    go_wp2_with fail
    refine (one_any C a len cap _ 3 _ hc3 (by omega)).mono ?_
    rintro e w4 ⟨q4, n4, rfl, hn4, hc4, hO4⟩
    have hT4 := hT3.trans (on_turns hO4)
    clear hc3 hT3 hO4
    cases q4
    · go_wp2
      go_ret
      exact ⟨_, _, rfl, by omega, hc4, hT4⟩
    · go_wp2
      go_ret
      exact ⟨_, _, rfl, by omega, hc4, hT4⟩
  by_cases e1 : p2 = 1
  · subst e1
    go_wp2_with fail
    refine (wide_any C a len cap _ _ hc2 (by omega)).mono ?_
    rintro e w3 ⟨p3, n3, rfl, hn3, hc3, hO3⟩
    have hT3 := hT2.trans hO3
    clear hc2 hT2 hO3
    go_wp2_with fail
    refine (pick_any C a len cap _ 64 _ hc3 (by omega)).mono ?_
    rintro e w4 ⟨p4, n4, rfl, g4, h4, -, hn4, hc4, hO4⟩
    have l4 := h4 (by omega)
    have hT4 := hT3.trans (on_turns hO4)
    clear hc3 hT3 hO4 h4
    go_wp2_with fail
    refine (one_any C a len cap _ 3 _ hc4 (by omega)).mono ?_
    rintro e w5 ⟨q5, n5, rfl, hn5, hc5, hO5⟩
    have hT5 := hT4.trans (on_turns hO5)
    clear hc4 hT4 hO5
    cases q5
    · go_wp2
      go_ret
      exact ⟨_, _, rfl, by omega, hc5, hT5⟩
    · go_wp2
      go_ret
      exact ⟨_, _, rfl, by omega, hc5, hT5⟩
  by_cases e2 : p2 = 2
  · subst e2
    go_wp2_with fail
    refine (pick_any C a len cap _ 64 _ hc2 (by omega)).mono ?_
    rintro e w3 ⟨p3, n3, rfl, g3, h3, -, hn3, hc3, hO3⟩
    have l3 := h3 (by omega)
    have hT3 := hT2.trans (on_turns hO3)
    clear hc2 hT2 hO3 h3
    go_wp2_with fail
    refine (one_any C a len cap _ 3 _ hc3 (by omega)).mono ?_
    rintro e w4 ⟨q4, n4, rfl, hn4, hc4, hO4⟩
    have hT4 := hT3.trans (on_turns hO4)
    clear hc3 hT3 hO4
    cases q4
    · go_wp2
      go_ret
      exact ⟨_, _, rfl, by omega, hc4, hT4⟩
    · go_wp2
      go_ret
      exact ⟨_, _, rfl, by omega, hc4, hT4⟩
  by_cases e3 : p2 = 3
  · subst e3
    go_wp2_with fail
    refine (pick_any C a len cap _ 64 _ hc2 (by omega)).mono ?_
    rintro e w3 ⟨p3, n3, rfl, g3, h3, -, hn3, hc3, hO3⟩
    have l3 := h3 (by omega)
    have hT3 := hT2.trans (on_turns hO3)
    clear hc2 hT2 hO3 h3
    go_wp2_with fail
    refine (one_any C a len cap _ 3 _ hc3 (by omega)).mono ?_
    rintro e w4 ⟨q4, n4, rfl, hn4, hc4, hO4⟩
    have hT4 := hT3.trans (on_turns hO4)
    clear hc3 hT3 hO4
    cases q4
    · go_wp2
      go_ret
      exact ⟨_, _, rfl, by omega, hc4, hT4⟩
    · go_wp2
      go_ret
      exact ⟨_, _, rfl, by omega, hc4, hT4⟩
  go_wp2_with fail
  refine (one_any C a len cap _ 3 _ hc2 (by omega)).mono ?_
  rintro e w3 ⟨q3, n3, rfl, hn3, hc3, hO3⟩
  have hT3 := hT2.trans (on_turns hO3)
  clear hc2 hT2 hO3
  cases q3
  · go_wp2
    go_ret
    exact ⟨_, _, rfl, by omega, hc3, hT3⟩
  · go_wp2
    go_ret
    exact ⟨_, _, rfl, by omega, hc3, hT3⟩
end Go.Proofs.Ytlmbbolhcbccdaa
