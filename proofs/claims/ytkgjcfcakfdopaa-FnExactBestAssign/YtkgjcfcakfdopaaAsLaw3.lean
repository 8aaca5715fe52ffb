/- The walk of the law on BestAssign (tools/gen_aslaw.py). -/
import Derived.Test.YtkgjcfcakfdopaaAsBeT
import Derived.Test.YtkgjcfcakfdopaaChRkK
namespace Go.Proofs.Ytkgjcfcakfdopaa
open Go.RowKit
set_option maxRecDepth 20000 in
set_option maxHeartbeats 8000000 in
theorem bestAssignLaw (a : Option Addr) (n c : Nat) (K : Nat → Nat) (F : Nat → Nat → Int) (w : World) (Q : Bool) (R : Int) (N : Nat) (G : Nat → Int) (hN : N ≤ 1000) (h0 : n + sumK K n ≤ 1048576) (hA : RR w a n K F) 
    (hS : ∀ (a : Option Addr) (c : Nat) (w : World), RR w a n K F → Calls Try.prog 11 #[.slice a n c] w fun e w' => AnsT3 w w' e N G R Q ∧ Below w.heap.size w w')
    (hI : ∀ (a : Option Addr) (c : Nat) (w : World), RR w a n K F → Calls Try.prog 10 #[.slice a n c] w fun e w' => AnsT3 w w' e N G R Q ∧ Below w.heap.size w w') :
    Calls Try.prog 7 #[.slice a n c] w fun e w' => e = .returned (.bool true) ∧ Below w.heap.size w w' := by
  have hn : n ≤ 1048576 := by omega
  have hsm : sumK K n ≤ 1048576 := by omega
  have hK : ∀ i, i < n → K i ≤ 1048576 := fun i hi => by have := sumK_le K n i hi; omega
  have j1 : ¬ (1048576 : Int) - (n : Int) - ((sumK K n : Nat) : Int) < 0 := by omega
  have hszK := szK_in a n c K F 1048576 w (by omega) (by omega) hA
  obtain ⟨M2, hM2⟩ : ∃ M2 : Int, M2 = (1048576 : Int) - (n : Int) - ((sumK K n : Nat) : Int) := ⟨_, rfl⟩
  rw [← hM2] at j1 hszK
  clear hM2
  have j2 : (Q != Q) = false := by simp
  have j3 : (R != R) = false := by simp
  have hmk := fun a lo hi w (h : RK w lo hi a n K F) => markK a n n 1 lo hi K F w hn (by omega) hsm h
  obtain ⟨M, hM⟩ : ∃ M : Int, M = ((1 + sumK K n : Nat) : Int) := ⟨_, rfl⟩
  have jk : ¬ M < 0 := by omega
  rw [← hM] at hmk
  clear hM
  have jn : ¬ (1 : Int) + (N : Int) < 0 := by omega
  have jm : ((1 : Int) + (N : Int) != (1 : Int) + (N : Int)) = false := by simp
  go_enter Try.func7, Try.ntmps7
  have hB0 := Below.refl w.heap.size w
  go_wp2_with fail
  refine (hszK).mono ?_
  rintro e w1 ⟨rfl, hb2⟩
  have hs' := hb2.symm
  clear hb2
  subst hs'
  clear hszK
  go_wp2_with fail
  refine (copyK a n c K F _ hn hK (hA.below hB0)).mono ?_
  rintro e w3 ⟨rfl, hP0, hb4⟩
  have hs5 := hb4.size
  have hB6 := stepA hB0 hb4
  clear hB0 hb4
  try simp only [size_al] at hs5
  try simp only [size_al] at hP0
  go_wp2_with fail
  refine (hS _ _ _ hP0.rr).mono ?_
  rintro e w7 ⟨⟨a1, c1, rfl, hA1⟩, hb8⟩
  have hs9 := hb8.size
  have z10 := hP0.on hb8
  clear hP0
  have hB11 := stepA hB6 hb8
  clear hB6 hb8
  try simp only [size_al] at hs9
  try simp only [size_al] at hA1
  clear z10
  go_wp2_with fail
  refine (copyK a n c K F _ hn hK (hA.below hB11)).mono ?_
  rintro e w12 ⟨rfl, hP1, hb13⟩
  have hs14 := hb13.size
  have z15 := hA1.on hb13
  clear hA1
  have hB16 := stepA hB11 hb13
  clear hB11 hb13
  try simp only [size_al] at hs14
  try simp only [size_al] at hP1
  go_wp2_with fail
  refine (hI _ _ _ hP1.rr).mono ?_
  rintro e w17 ⟨⟨a2, c2, rfl, hA2⟩, hb18⟩
  have hs19 := hb18.size
  have z20 := z15.on hb18
  have z21 := hP1.on hb18
  clear z15 hP1
  have hB22 := stepA hB16 hb18
  clear hB16 hb18
  try simp only [size_al] at hs19
  try simp only [size_al] at hA2
  go_wp2_with fail
  refine (eqI_any a2 a1 N c2 c1 G _ (by omega) hA2.il z20.il).mono ?_
  rintro e w23 ⟨rfl, hb24⟩
  have hs25 := hb24.size
  have z26 := z20.on hb24
  have z27 := z21.on hb24
  have z28 := hA2.on hb24
  clear z20 z21 hA2
  have hB29 := stepA hB22 hb24
  clear hB22 hb24
  try simp only [size_al] at hs25
  go_wp2_with fail
  refine (copyK a n c K F _ hn hK (hA.below hB29)).mono ?_
  rintro e w30 ⟨rfl, hY, hb31⟩
  have hs32 := hb31.size
  have z33 := z26.on hb31
  have z34 := z27.on hb31
  have z35 := z28.on hb31
  clear z26 z27 z28
  have hB36 := stepA hB29 hb31
  clear hB29 hb31
  try simp only [size_al] at hs32
  try simp only [size_al] at hY
  go_wp2_with fail
  refine (eqR_any (some ⟨w7.heap.size, 0, none⟩) (some ⟨w23.heap.size, 0, none⟩) n n n K F _ hn hK z34.rr hY.rr).mono ?_
  rintro e w37 ⟨rfl, hb38⟩
  have hs39 := hb38.size
  have z40 := z33.on hb38
  have z41 := z34.on hb38
  have z42 := z35.on hb38
  have z43 := hY.on hb38
  clear z33 z34 z35 hY
  have hB44 := stepA hB36 hb38
  clear hB36 hb38
  try simp only [size_al] at hs39
  clear z43
  go_wp2_with fail
  refine (hmk (some ⟨w7.heap.size, 0, none⟩) (w7.heap.size) (w12.heap.size) _ z41).mono ?_
  rintro e w45 ⟨rfl, z47, ht46⟩
  have hs48 := ht46.size
  try simp only [size_al] at hs48
  have z49 := z40.turns ht46 (by first | omega | (simp only [size_al]; omega))
  have z50 := z42.turns ht46 (by first | omega | (simp only [size_al]; omega))
  clear z40 z42
  have hB51 := hB44.trans (ht46.below (by omega) (by first | omega | (simp only [size_al]; omega)))
  clear hB44 ht46 z41
  go_wp2_with fail
  refine (eqI_any a2 a1 N c2 c1 G _ (by omega) z50.il z49.il).mono ?_
  rintro e w52 ⟨rfl, hb53⟩
  have hs54 := hb53.size
  have z55 := z49.on hb53
  have z56 := z50.on hb53
  have z57 := z47.on hb53
  clear z49 z50 z47
  have hB58 := stepA hB51 hb53
  clear hB51 hb53
  try simp only [size_al] at hs54
  go_wp2_with fail
  refine (markT a2 N c2 1 (w12.heap.size) (w17.heap.size) G _ (by omega) (by omega) z56).mono ?_
  rintro e w59 ⟨rfl, z61, ht60⟩
  have hs62 := ht60.size
  try simp only [size_al] at hs62
  have z63 := z55.turns ht60 (by first | omega | (simp only [size_al]; omega))
  have z64 := z57.turns ht60 (by first | omega | (simp only [size_al]; omega))
  clear z55 z57
  have hB65 := hB58.trans (ht60.below (by omega) (by first | omega | (simp only [size_al]; omega)))
  clear hB58 ht60 z56
  go_wp2_with fail
  refine (heldQ a2 N c2 1 (w12.heap.size) (w17.heap.size) _ (by omega) (by omega) z61).mono ?_
  rintro e w66 ⟨rfl, hb67⟩
  have hs' := hb67.symm
  clear hb67
  subst hs'
  go_wp2_with fail
  refine (copyK a n c K F _ hn hK (hA.below hB65)).mono ?_
  rintro e w68 ⟨rfl, hP2, hb69⟩
  have hs70 := hb69.size
  have z71 := z63.on hb69
  have z72 := z64.on hb69
  have z73 := z61.on hb69
  clear z63 z64 z61
  have hB74 := stepA hB65 hb69
  clear hB65 hb69
  try simp only [size_al] at hs70
  try simp only [size_al] at hP2
  go_wp2_with fail
  refine (hI _ _ _ hP2.rr).mono ?_
  rintro e w75 ⟨⟨a3, c3, rfl, hA3⟩, hb76⟩
  have hs77 := hb76.size
  have z78 := z71.on hb76
  have z79 := z72.on hb76
  have z80 := z73.on hb76
  have z81 := hP2.on hb76
  clear z71 z72 z73 hP2
  have hB82 := stepA hB74 hb76
  clear hB74 hb76
  try simp only [size_al] at hs77
  try simp only [size_al] at hA3
  go_wp2_with fail
  refine (eqI_any a3 a1 N c3 c1 G _ (by omega) hA3.il z78.il).mono ?_
  rintro e w83 ⟨rfl, hb84⟩
  have hs85 := hb84.size
  have z86 := z78.on hb84
  have z87 := z79.on hb84
  have z88 := z80.on hb84
  have z89 := z81.on hb84
  have z90 := hA3.on hb84
  clear z78 z79 z80 z81 hA3
  have hB91 := stepA hB82 hb84
  clear hB82 hb84
  try simp only [size_al] at hs85
  go_wp2_with fail
  refine (heldQ a2 N c2 1 (w12.heap.size) (w17.heap.size) _ (by omega) (by omega) z88).mono ?_
  rintro e w92 ⟨rfl, hb93⟩
  have hs' := hb93.symm
  clear hb93
  subst hs'
  clear z86
  clear z87
  clear z88
  clear z89
  clear z90
  go_wp2
  go_ret
  exact ⟨rfl, hB91⟩
set_option maxHeartbeats 1000000 in
theorem bestAssignLong2 (a : Option Addr) (n c : Nat) (K : Nat → Nat) (F : Nat → Nat → Int) (w : World) (h1 : 1048576 < n + sumK K n) (hn : n ≤ 9223372036854775807) (hK : ∀ i, i < n → K i ≤ 9223372036854775807) (hA : RR w a n K F) :
    Calls Try.prog 7 #[.slice a n c] w fun e w' => e = .returned (.bool true) ∧ Below w.heap.size w w' := by
  have hszK := szK_out a n c K F 1048576 w (by omega) (by omega) (by omega) hn hK hA
  go_enter Try.func7, Try.ntmps7
  go_wp2_with fail
  refine hszK.mono ?_
  rintro e w1 ⟨rfl, hw1⟩
  have hs1 := hw1.symm
  clear hw1
  subst hs1
  go_wp2
  go_ret
  exact ⟨rfl, Below.refl _ _⟩
theorem bestAssignAll (a : Option Addr) (n c : Nat) (K : Nat → Nat) (F : Nat → Nat → Int) (w : World) (hn : n ≤ 9223372036854775807) (hK : ∀ i, i < n → K i ≤ 9223372036854775807) (hA : RR w a n K F)  :
    Calls Try.prog 7 #[.slice a n c] w fun e w' => e = .returned (.bool true) ∧ Below w.heap.size w w' := by
  by_cases h0 : n + sumK K n ≤ 1048576
  rotate_left
  · exact bestAssignLong2 a n c K F  w (by omega) hn hK hA
  have hn1 : n ≤ 1048576 := by omega
  have hK1 : ∀ i, i < n → K i ≤ 1048576 := fun i hi => by have := sumK_le K n i hi; omega
  cases e : gpB n K F with
  | false => exact bestAssignLaw a n c K F w false 0 0 (fun _ => 0) (by omega) h0 hA (fun a c w h => sBest_no a n c K F w hn1 hK1 h e) (fun a c w h => iBest_no a n c K F w hn1 hK1 h e)
  | true => exact bestAssignLaw a n c K F w true _ n _ (by have := (gpB_t e).hi; omega) h0 hA (fun a c w h => sBest_in a n c K F w hn1 hK1 h e) (fun a c w h => iBest_in a n c K F w hn1 hK1 h e)
end Go.Proofs.Ytkgjcfcakfdopaa
