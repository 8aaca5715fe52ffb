/- The walk of the law on AssignCost (tools/gen_aslaw.py). -/
import Derived.Test.YtkgjcfcakfdopaaAsCost
import Derived.Test.YtkgjcfcakfdopaaChRkC
namespace Go.Proofs.Ytkgjcfcakfdopaa
open Go.RowKit
set_option maxRecDepth 20000 in
set_option maxHeartbeats 8000000 in
theorem assignCostLaw (a x : Option Addr) (n c q r : Nat) (K : Nat → Nat) (F : Nat → Nat → Int) (g : Nat → Int) (w : World) (Q : Bool) (R : Int) (h0 : n + sumK K n ≤ 1048576) (hq : q ≤ 1048576) (hA : RR w a n K F) (hh : IL w x q g)
    (hS : ∀ (a x : Option Addr) (c r : Nat) (w : World), RR w a n K F → IL w x q g → Calls Try.prog 24 #[.slice a n c, .slice x q r] w fun e w' => e = .returned (.tuple #[.int .i64 R, .bool Q]) ∧ Below w.heap.size w w')
    (hI : ∀ (a x : Option Addr) (c r : Nat) (w : World), RR w a n K F → IL w x q g → Calls Try.prog 13 #[.slice a n c, .slice x q r] w fun e w' => e = .returned (.tuple #[.int .i64 R, .bool Q]) ∧ Below w.heap.size w w') :
    Calls Try.prog 6 #[.slice a n c, .slice x q r] w fun e w' => e = .returned (.bool true) ∧ Below w.heap.size w w' := by
  have hn : n ≤ 1048576 := by omega
  have hsm : sumK K n ≤ 1048576 := by omega
  have hK : ∀ i, i < n → K i ≤ 1048576 := fun i hi => by have := sumK_le K n i hi; omega
  have j1 : ¬ (1048576 : Int) - (n : Int) - ((sumK K n : Nat) : Int) < 0 := by omega
  have hszK := szK_in a n c K F 1048576 w (by omega) (by omega) hA
  obtain ⟨M2, hM2⟩ : ∃ M2 : Int, M2 = (1048576 : Int) - (n : Int) - ((sumK K n : Nat) : Int) := ⟨_, rfl⟩
  rw [← hM2] at j1 hszK
  clear hM2
  have j2 : (Q != Q) = false := by simp
  have j3 : (R != R) = false := by simp
  have jq : ¬ (1048576 : Int) < (q : Int) := by omega
  go_enter Try.func6, Try.ntmps6
  have hB0 := Below.refl w.heap.size w
  go_wp2_with fail
  refine (hszK).mono ?_
  rintro e w1 ⟨rfl, hb2⟩
  have hs' := hb2.symm
  clear hb2
  subst hs'
  clear hszK
  go_wp2_with fail
  refine (copyK a n c K F _ hn hK (hA.below hB0)).mono ?_
  rintro e w3 ⟨rfl, hP0, hb4⟩
  have hs5 := hb4.size
  have hB6 := stepA hB0 hb4
  clear hB0 hb4
  try simp only [size_al] at hs5
  try simp only [size_al] at hP0
  go_wp2_with fail
  refine (copyQ x q r g _ hq (hh.below hB6)).mono ?_
  rintro e w7 ⟨rfl, hE0, hE0s, hb8⟩
  have hs9 := hb8.size
  have z10 := hP0.on hb8
  clear hP0
  have hB11 := stepA hB6 hb8
  clear hB6 hb8
  try simp only [size_al] at hs9
  try simp only [size_al] at hE0 hE0s
  go_wp2_with fail
  refine (hS _ _ _ _ _ z10.rr hE0.il).mono ?_
  rintro e w12 ⟨rfl, hb13⟩
  have hs14 := hb13.size
  have z15 := z10.on hb13
  have z16 := hE0.on hb13
  clear z10 hE0
  have hB17 := stepA hB11 hb13
  clear hB11 hb13
  try simp only [size_al] at hs14
  clear z15
  clear z16
  go_wp2_with fail
  refine (copyK a n c K F _ hn hK (hA.below hB17)).mono ?_
  rintro e w18 ⟨rfl, hP1, hb19⟩
  have hs20 := hb19.size
  have hB21 := stepA hB17 hb19
  clear hB17 hb19
  try simp only [size_al] at hs20
  try simp only [size_al] at hP1
  go_wp2_with fail
  refine (copyQ x q r g _ hq (hh.below hB21)).mono ?_
  rintro e w22 ⟨rfl, hE1, hE1s, hb23⟩
  have hs24 := hb23.size
  have z25 := hP1.on hb23
  clear hP1
  have hB26 := stepA hB21 hb23
  clear hB21 hb23
  try simp only [size_al] at hs24
  try simp only [size_al] at hE1 hE1s
  go_wp2_with fail
  refine (hI _ _ _ _ _ z25.rr hE1.il).mono ?_
  rintro e w27 ⟨rfl, hb28⟩
  have hs29 := hb28.size
  have z30 := z25.on hb28
  have z31 := hE1.on hb28
  clear z25 hE1
  have hB32 := stepA hB26 hb28
  clear hB26 hb28
  try simp only [size_al] at hs29
  go_wp2_with fail
  refine (copyK a n c K F _ hn hK (hA.below hB32)).mono ?_
  rintro e w33 ⟨rfl, hY, hb34⟩
  have hs35 := hb34.size
  have z36 := z30.on hb34
  have z37 := z31.on hb34
  clear z30 z31
  have hB38 := stepA hB32 hb34
  clear hB32 hb34
  try simp only [size_al] at hs35
  try simp only [size_al] at hY
  go_wp2_with fail
  refine (eqR_any (some ⟨w12.heap.size, 0, none⟩) (some ⟨w27.heap.size, 0, none⟩) n n n K F _ hn hK z36.rr hY.rr).mono ?_
  rintro e w39 ⟨rfl, hb40⟩
  have hs41 := hb40.size
  have z42 := z36.on hb40
  have z43 := z37.on hb40
  have z44 := hY.on hb40
  clear z36 z37 hY
  have hB45 := stepA hB38 hb40
  clear hB38 hb40
  try simp only [size_al] at hs41
  clear z44
  go_wp2_with fail
  refine (copyQ x q r g _ hq (hh.below hB45)).mono ?_
  rintro e w46 ⟨rfl, hZ, hZs, hb47⟩
  have hs48 := hb47.size
  have z49 := z42.on hb47
  have z50 := z43.on hb47
  clear z42 z43
  have hB51 := stepA hB45 hb47
  clear hB45 hb47
  try simp only [size_al] at hs48
  try simp only [size_al] at hZ hZs
  go_wp2_with fail
  refine (eqI_any (some ⟨w18.heap.size, 0, none⟩) (some ⟨w39.heap.size, 0, none⟩) q q q g _ hq z50.il hZ.il).mono ?_
  rintro e w52 ⟨rfl, hb53⟩
  have hs54 := hb53.size
  have z55 := z49.on hb53
  have z56 := z50.on hb53
  have z57 := hZ.on hb53
  clear z49 z50 hZ
  have hB58 := stepA hB51 hb53
  clear hB51 hb53
  try simp only [size_al] at hs54
  clear z57
  clear z55
  clear z56
  go_wp2
  go_ret
  exact ⟨rfl, hB58⟩
set_option maxHeartbeats 1000000 in
theorem assignCostLong (a x : Option Addr) (n c q r : Nat) (w : World) (h : 1048576 < q) :
    Calls Try.prog 6 #[.slice a n c, .slice x q r] w fun e w' => e = .returned (.bool true) ∧ Below w.heap.size w w' := by
  have jq : (1048576 : Int) < (q : Int) := by omega
  go_enter Try.func6, Try.ntmps6
  go_wp2
  go_ret
  exact ⟨rfl, Below.refl _ _⟩
set_option maxHeartbeats 1000000 in
theorem assignCostLong2 (a x : Option Addr) (n c q r : Nat) (K : Nat → Nat) (F : Nat → Nat → Int) (w : World) (hq : q ≤ 1048576) (h1 : 1048576 < n + sumK K n) (hn : n ≤ 9223372036854775807) (hK : ∀ i, i < n → K i ≤ 9223372036854775807) (hA : RR w a n K F) :
    Calls Try.prog 6 #[.slice a n c, .slice x q r] w fun e w' => e = .returned (.bool true) ∧ Below w.heap.size w w' := by
  have jq : ¬ (1048576 : Int) < (q : Int) := by omega
  have hszK := szK_out a n c K F 1048576 w (by omega) (by omega) (by omega) hn hK hA
  go_enter Try.func6, Try.ntmps6
  go_wp2_with fail
  refine hszK.mono ?_
  rintro e w1 ⟨rfl, hw1⟩
  have hs1 := hw1.symm
  clear hw1
  subst hs1
  go_wp2
  go_ret
  exact ⟨rfl, Below.refl _ _⟩
theorem assignCostAll (a x : Option Addr) (n c q r : Nat) (K : Nat → Nat) (F : Nat → Nat → Int) (g : Nat → Int) (w : World) (hn : n ≤ 9223372036854775807) (hK : ∀ i, i < n → K i ≤ 9223372036854775807) (hA : RR w a n K F) (hh : IL w x q g) :
    Calls Try.prog 6 #[.slice a n c, .slice x q r] w fun e w' => e = .returned (.bool true) ∧ Below w.heap.size w w' := by
  by_cases hq : q ≤ 1048576
  rotate_left
  · exact assignCostLong a x n c q r  w (by omega)
  by_cases h0 : n + sumK K n ≤ 1048576
  rotate_left
  · exact assignCostLong2 a x n c q r K F  w hq (by omega) hn hK hA
  have hn1 : n ≤ 1048576 := by omega
  have hK1 : ∀ i, i < n → K i ≤ 1048576 := fun i hi => by have := sumK_le K n i hi; omega
  cases e : gaB n q K F g with
  | false => exact assignCostLaw a x n c q r K F g w false 0 h0 hq hA hh (fun a x c r w h h2 => sAssign_no a n c K F x q r g w hn1 hK1 hq h h2 e) (fun a x c r w h h2 => iAssign_no a n c K F x q r g w hn1 hK1 hq h h2 e)
  | true => exact assignCostLaw a x n c q r K F g w true _ h0 hq hA hh (fun a x c r w h h2 => sAssign_in a n c K F x q r g w hn1 hK1 hq h h2 e) (fun a x c r w h h2 => iAssign_in a n c K F x q r g w hn1 hK1 hq h h2 e)
end Go.Proofs.Ytkgjcfcakfdopaa
