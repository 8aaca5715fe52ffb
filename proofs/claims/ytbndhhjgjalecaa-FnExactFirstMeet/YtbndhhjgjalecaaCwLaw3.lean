/- The walk of the law on FirstMeet. -/
import Derived.Test.YtbndhhjgjalecaaCwMtS
namespace Go.Proofs.Ytbndhhjgjalecaa
open Go.RowKit
set_option maxHeartbeats 4000000 in
theorem firstLaw (a : Option Addr) (n c : Nat) (K : Nat → Nat) (F : Nat → Nat → Int) (w : World) (hn : n ≤ 1048576) (hK : ∀ i, i < n → K i ≤ 1048576) (hr : RR w a n K F)
    (hI : ∀ (a : Option Addr) (c : Nat) (w : World), n ≤ c → RR w a n K F → Calls Try.prog 16 #[.slice a n c] w fun e w' => e = .returned (.int .i64 (fmV n K F)) ∧ Below w.heap.size w w') :
    Calls Try.prog 4 #[.slice a n c] w fun e w' => e = .returned (.bool true) ∧ Below w.heap.size w w' := by
  have hS := fun a c w h => sFirst a n c K F w hn hK h
  generalize fmV n K F = V at hI hS
  go_enter Try.func4, Try.ntmps4
  have hB0 := Below.refl w.heap.size w
  have hsz := szR a n c K F 1048576 w (by omega) (by omega) (by omega) (fun i hi => by have := hK i hi; omega) hr
  go_wp2_with fail
  refine hsz.mono ?_
  rintro e w1 ⟨x, rfl, hx, hw1⟩
  have hs' := hw1.symm
  clear hw1 hsz
  subst hs'
  rcases hx with hx | ⟨hx0, hx1, -, -⟩
  case inl =>
    subst hx
    go_wp2
    go_ret
    exact ⟨rfl, hB0⟩
  go_wp2_with fail
  refine (copyR a n c K F _ hn hK (hr.below hB0)).mono ?_
  rintro e w1 ⟨rfl, hQ2, hb2⟩
  have hs3 := hb2.size
  have hB4 := stepA hB0 hb2
  clear hB0 hb2
  try simp only [size_al] at hs3
  try simp only [size_al] at hQ2
  go_wp2_with fail
  refine (hS _ _ _ hQ2).mono ?_
  rintro e w5 ⟨rfl, hb6⟩
  have hs7 := hb6.size
  have z8 := hQ2.on hb6
  clear hQ2
  have hB9 := stepA hB4 hb6
  clear hB4 hb6
  try simp only [size_al] at hs7
  clear z8
  go_wp2_with fail
  refine (copyR a n c K F _ hn hK (hr.below hB9)).mono ?_
  rintro e w10 ⟨rfl, hQ4, hb11⟩
  have hs12 := hb11.size
  have hB13 := stepA hB9 hb11
  clear hB9 hb11
  try simp only [size_al] at hs12
  try simp only [size_al] at hQ4
  go_wp2_with fail
  refine (hI _ _ _ (Nat.le_refl _) hQ4).mono ?_
  rintro e w14 ⟨rfl, hb15⟩
  have hs16 := hb15.size
  have z17 := hQ4.on hb15
  clear hQ4
  have hB18 := stepA hB13 hb15
  clear hB13 hb15
  try simp only [size_al] at hs16
  go_wp2_with fail
  refine (copyR a n c K F _ hn hK (hr.below hB18)).mono ?_
  rintro e w19 ⟨rfl, hQ6, hb20⟩
  have hs21 := hb20.size
  have z22 := z17.on hb20
  clear z17
  have hB23 := stepA hB18 hb20
  clear hB18 hb20
  try simp only [size_al] at hs21
  try simp only [size_al] at hQ6
  go_wp2_with fail
  refine (eqR_any (some ⟨w5.heap.size, 0, none⟩) (some ⟨w14.heap.size, 0, none⟩) n n n K F _ hn hK z22 hQ6).mono ?_
  rintro e w24 ⟨rfl, hb25⟩
  have hs26 := hb25.size
  have z27 := z22.on hb25
  have z28 := hQ6.on hb25
  clear z22 hQ6
  have hB29 := stepA hB23 hb25
  clear hB23 hb25
  try simp only [size_al] at hs26
  clear z27
  clear z28
  go_wp2
  go_ret
  exact ⟨rfl, hB29⟩
set_option maxHeartbeats 400000 in
theorem firstLaw_long (a : Option Addr) (n c : Nat) (K : Nat → Nat) (F : Nat → Nat → Int) (w : World) (hn : n ≤ 9223372036854775807) (hK : ∀ i, i < n → K i ≤ 9223372036854775807) (h : ¬ (n ≤ 1048576 ∧ ∀ i, i < n → K i ≤ 1048576)) (hr : RR w a n K F) :
    Calls Try.prog 4 #[.slice a n c] w fun e w' => e = .returned (.bool true) ∧ Below w.heap.size w w' := by
  have hsz := szR a n c K F 1048576 w (by omega) (by omega) hn hK hr
  go_enter Try.func4, Try.ntmps4
  go_wp2_with fail
  refine hsz.mono ?_
  rintro e w1 ⟨x, rfl, hx, hw1⟩
  have hs' := hw1.symm
  clear hw1 hsz
  subst hs'
  rcases hx with hx | ⟨-, -, h1, h2⟩
  · subst hx
    go_wp2
    go_ret
    exact ⟨rfl, Below.refl _ _⟩
  · exact absurd ⟨by omega, fun i hi => by have := h2 i hi; omega⟩ h
theorem firstAll (a : Option Addr) (n c : Nat) (K : Nat → Nat) (F : Nat → Nat → Int) (w : World) (hn : n ≤ 9223372036854775807) (hK : ∀ i, i < n → K i ≤ 9223372036854775807) (hr : RR w a n K F)
    (hI : n ≤ 1048576 → (∀ i, i < n → K i ≤ 1048576) → ∀ (a : Option Addr) (c : Nat) (w : World), n ≤ c → RR w a n K F → Calls Try.prog 16 #[.slice a n c] w fun e w' => e = .returned (.int .i64 (fmV n K F)) ∧ Below w.heap.size w w') :
    Calls Try.prog 4 #[.slice a n c] w fun e w' => e = .returned (.bool true) ∧ Below w.heap.size w w' := by
  by_cases h : n ≤ 1048576 ∧ ∀ i, i < n → K i ≤ 1048576
  · exact firstLaw a n c K F w h.1 h.2 hr (hI h.1 h.2)
  · exact firstLaw_long a n c K F w hn hK h hr
end Go.Proofs.Ytbndhhjgjalecaa
