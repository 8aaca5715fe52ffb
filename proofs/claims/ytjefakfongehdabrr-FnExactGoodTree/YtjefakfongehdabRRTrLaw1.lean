/- The walk of the law on GoodTree. -/
import Derived.Test.YtjefakfongehdabRRTrGtS
import Derived.Test.YtjefakfongehdabRRChNod
namespace Go.Proofs.YtjefakfongehdabRR
open Go.RowKit
set_option maxHeartbeats 4000000 in
theorem treeLaw (a : Option Addr) (m c : Nat) (g : Nat → Int) (w : World) (hm : m ≤ 1048576) (hg : IL w a (m * 3) g)
    (hI : ∀ (a : Option Addr) (c : Nat) (w : World), IL w a (m * 3) g → Calls Try.prog 26 #[.slice a m c] w fun e w' => e = .returned (.bool (gtrB m g)) ∧ Below w.heap.size w w') :
    Calls Try.prog 5 #[.slice a m c] w fun e w' => e = .returned (.bool true) ∧ Below w.heap.size w w' := by
  have j1 : ¬ (1048576 : Int) - (m : Int) < 0 := by omega
  have hS := fun a c w h => sGoodTree a m c g w hm h
  generalize gtrB m g = V at hI hS
  go_enter Try.func5, Try.ntmps5
  have hB0 := Below.refl w.heap.size w
  go_wp2_with fail
  refine (szNode_in a m c 1048576 _ (by omega) (by omega)).mono ?_
  rintro e w1 ⟨rfl, hb2⟩
  have hs' := hb2.symm
  clear hb2
  subst hs'
  go_wp2_with fail
  refine (toNodeS_any a m c g _ hm (hg.below hB0)).mono ?_
  rintro e w3 ⟨rfl, hQ0, hQ0s, hb4⟩
  have hs5 := hb4.size
  have hB6 := stepA hB0 hb4
  clear hB0 hb4
  try simp only [size_al] at hs5
  try simp only [size_al] at hQ0 hQ0s
  go_wp2_with fail
  refine (hS _ _ _ hQ0.il).mono ?_
  rintro e w7 ⟨rfl, hb8⟩
  have hs9 := hb8.size
  have z10 := hQ0.on hb8
  clear hQ0
  have hB11 := stepA hB6 hb8
  clear hB6 hb8
  try simp only [size_al] at hs9
  clear z10
  go_wp2_with fail
  refine (toNodeS_any a m c g _ hm (hg.below hB11)).mono ?_
  rintro e w12 ⟨rfl, hX0, hX0s, hb13⟩
  have hs14 := hb13.size
  have hB15 := stepA hB11 hb13
  clear hB11 hb13
  try simp only [size_al] at hs14
  try simp only [size_al] at hX0 hX0s
  go_wp2_with fail
  refine (hI _ _ _ hX0.il).mono ?_
  rintro e w16 ⟨rfl, hb17⟩
  have hs18 := hb17.size
  have z19 := hX0.on hb17
  clear hX0
  have hB20 := stepA hB15 hb17
  clear hB15 hb17
  try simp only [size_al] at hs18
  go_wp2_with fail
  refine (toNodeS_any a m c g _ hm (hg.below hB20)).mono ?_
  rintro e w21 ⟨rfl, hY0, hY0s, hb22⟩
  have hs23 := hb22.size
  have z24 := z19.on hb22
  clear z19
  have hB25 := stepA hB20 hb22
  clear hB20 hb22
  try simp only [size_al] at hs23
  try simp only [size_al] at hY0 hY0s
  go_wp2_with fail
  refine (eqNodeS_any (some ⟨w7.heap.size, 0, none⟩) (some ⟨w16.heap.size, 0, none⟩) m m m g _ hm z24.il hY0.il).mono ?_
  rintro e w26 ⟨rfl, hb27⟩
  have hs28 := hb27.size
  have z29 := z24.on hb27
  have z30 := hY0.on hb27
  clear z24 hY0
  have hB31 := stepA hB25 hb27
  clear hB25 hb27
  try simp only [size_al] at hs28
  clear z30
  clear z29
  go_wp2
  go_ret
  exact ⟨rfl, hB31⟩
set_option maxHeartbeats 400000 in
theorem treeLaw_long (a : Option Addr) (m c : Nat) (w : World) (h : 1048576 < m) (hm : m ≤ 9223372036854775807) :
    Calls Try.prog 5 #[.slice a m c] w fun e w' => e = .returned (.bool true) ∧ Below w.heap.size w w' := by
  go_enter Try.func5, Try.ntmps5
  go_wp2_with fail
  refine (szNode_out a m c 1048576 _ (by omega) (by omega) (by omega) hm).mono ?_
  rintro e w2 ⟨rfl, hw2⟩
  have hs' := hw2.symm
  clear hw2
  subst hs'
  go_wp2
  go_ret
  exact ⟨rfl, Below.refl _ _⟩
theorem treeAll (a : Option Addr) (m c : Nat) (g : Nat → Int) (w : World) (hm : m ≤ 9223372036854775807) (hg : IL w a (m * 3) g)
    (hI : m ≤ 1048576 → ∀ (a : Option Addr) (c : Nat) (w : World), IL w a (m * 3) g → Calls Try.prog 26 #[.slice a m c] w fun e w' => e = .returned (.bool (gtrB m g)) ∧ Below w.heap.size w w') :
    Calls Try.prog 5 #[.slice a m c] w fun e w' => e = .returned (.bool true) ∧ Below w.heap.size w w' := by
  by_cases h : m ≤ 1048576
  · exact treeLaw a m c g w h hg (hI h)
  · exact treeLaw_long a m c w (by omega) hm
end Go.Proofs.YtjefakfongehdabRR
