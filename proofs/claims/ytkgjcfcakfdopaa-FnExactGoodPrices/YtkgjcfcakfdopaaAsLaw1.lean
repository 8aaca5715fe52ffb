/- The walk of the law on GoodPrices (tools/gen_aslaw.py). -/
import Derived.Test.YtkgjcfcakfdopaaAsGpS
import Derived.Test.YtkgjcfcakfdopaaChRkC
namespace Go.Proofs.Ytkgjcfcakfdopaa
open Go.RowKit
set_option maxRecDepth 20000 in
set_option maxHeartbeats 8000000 in
theorem goodPricesLaw (a : Option Addr) (n c : Nat) (K : Nat → Nat) (F : Nat → Nat → Int) (w : World) (Q : Bool) (h0 : n + sumK K n ≤ 1048576) (hA : RR w a n K F) 
    (hS : ∀ (a : Option Addr) (c : Nat) (w : World), RR w a n K F → Calls Try.prog 20 #[.slice a n c] w fun e w' => e = .returned (.bool Q) ∧ Below w.heap.size w w')
    (hI : ∀ (a : Option Addr) (c : Nat) (w : World), RR w a n K F → Calls Try.prog 22 #[.slice a n c] w fun e w' => e = .returned (.bool Q) ∧ Below w.heap.size w w') :
    Calls Try.prog 5 #[.slice a n c] w fun e w' => e = .returned (.bool true) ∧ Below w.heap.size w w' := by
  have hn : n ≤ 1048576 := by omega
  have hsm : sumK K n ≤ 1048576 := by omega
  have hK : ∀ i, i < n → K i ≤ 1048576 := fun i hi => by have := sumK_le K n i hi; omega
  have j1 : ¬ (1048576 : Int) - (n : Int) - ((sumK K n : Nat) : Int) < 0 := by omega
  have hszK := szK_in a n c K F 1048576 w (by omega) (by omega) hA
  obtain ⟨M2, hM2⟩ : ∃ M2 : Int, M2 = (1048576 : Int) - (n : Int) - ((sumK K n : Nat) : Int) := ⟨_, rfl⟩
  rw [← hM2] at j1 hszK
  clear hM2
  have j2 : (Q != Q) = false := by simp
  go_enter Try.func5, Try.ntmps5
  have hB0 := Below.refl w.heap.size w
  go_wp2_with fail
  refine (hszK).mono ?_
  rintro e w1 ⟨rfl, hb2⟩
  have hs' := hb2.symm
  clear hb2
  subst hs'
  clear hszK
  go_wp2_with fail
  refine (copyK a n c K F _ hn hK (hA.below hB0)).mono ?_
  rintro e w3 ⟨rfl, hP0, hb4⟩
  have hs5 := hb4.size
  have hB6 := stepA hB0 hb4
  clear hB0 hb4
  try simp only [size_al] at hs5
  try simp only [size_al] at hP0
  go_wp2_with fail
  refine (hS _ _ _ hP0.rr).mono ?_
  rintro e w7 ⟨rfl, hb8⟩
  have hs9 := hb8.size
  have z10 := hP0.on hb8
  clear hP0
  have hB11 := stepA hB6 hb8
  clear hB6 hb8
  try simp only [size_al] at hs9
  clear z10
  go_wp2_with fail
  refine (copyK a n c K F _ hn hK (hA.below hB11)).mono ?_
  rintro e w12 ⟨rfl, hP1, hb13⟩
  have hs14 := hb13.size
  have hB15 := stepA hB11 hb13
  clear hB11 hb13
  try simp only [size_al] at hs14
  try simp only [size_al] at hP1
  go_wp2_with fail
  refine (hI _ _ _ hP1.rr).mono ?_
  rintro e w16 ⟨rfl, hb17⟩
  have hs18 := hb17.size
  have z19 := hP1.on hb17
  clear hP1
  have hB20 := stepA hB15 hb17
  clear hB15 hb17
  try simp only [size_al] at hs18
  go_wp2_with fail
  refine (copyK a n c K F _ hn hK (hA.below hB20)).mono ?_
  rintro e w21 ⟨rfl, hY, hb22⟩
  have hs23 := hb22.size
  have z24 := z19.on hb22
  clear z19
  have hB25 := stepA hB20 hb22
  clear hB20 hb22
  try simp only [size_al] at hs23
  try simp only [size_al] at hY
  go_wp2_with fail
  refine (eqR_any (some ⟨w7.heap.size, 0, none⟩) (some ⟨w16.heap.size, 0, none⟩) n n n K F _ hn hK z24.rr hY.rr).mono ?_
  rintro e w26 ⟨rfl, hb27⟩
  have hs28 := hb27.size
  have z29 := z24.on hb27
  have z30 := hY.on hb27
  clear z24 hY
  have hB31 := stepA hB25 hb27
  clear hB25 hb27
  try simp only [size_al] at hs28
  clear z30
  clear z29
  go_wp2
  go_ret
  exact ⟨rfl, hB31⟩
set_option maxHeartbeats 1000000 in
theorem goodPricesLong2 (a : Option Addr) (n c : Nat) (K : Nat → Nat) (F : Nat → Nat → Int) (w : World) (h1 : 1048576 < n + sumK K n) (hn : n ≤ 9223372036854775807) (hK : ∀ i, i < n → K i ≤ 9223372036854775807) (hA : RR w a n K F) :
    Calls Try.prog 5 #[.slice a n c] w fun e w' => e = .returned (.bool true) ∧ Below w.heap.size w w' := by
  have hszK := szK_out a n c K F 1048576 w (by omega) (by omega) (by omega) hn hK hA
  go_enter Try.func5, Try.ntmps5
  go_wp2_with fail
  refine hszK.mono ?_
  rintro e w1 ⟨rfl, hw1⟩
  have hs1 := hw1.symm
  clear hw1
  subst hs1
  go_wp2
  go_ret
  exact ⟨rfl, Below.refl _ _⟩
theorem goodPricesAll (a : Option Addr) (n c : Nat) (K : Nat → Nat) (F : Nat → Nat → Int) (w : World) (hn : n ≤ 9223372036854775807) (hK : ∀ i, i < n → K i ≤ 9223372036854775807) (hA : RR w a n K F)  :
    Calls Try.prog 5 #[.slice a n c] w fun e w' => e = .returned (.bool true) ∧ Below w.heap.size w w' := by
  by_cases h0 : n + sumK K n ≤ 1048576
  rotate_left
  · exact goodPricesLong2 a n c K F  w (by omega) hn hK hA
  have hn1 : n ≤ 1048576 := by omega
  have hK1 : ∀ i, i < n → K i ≤ 1048576 := fun i hi => by have := sumK_le K n i hi; omega
  exact goodPricesLaw a n c K F w (gpB n K F) h0 hA (fun a c w h => sGoodP a n c K F w hn1 hK1 h) (fun a c w h => iGoodP a n c K F w hn1 hK1 h)
end Go.Proofs.Ytkgjcfcakfdopaa
