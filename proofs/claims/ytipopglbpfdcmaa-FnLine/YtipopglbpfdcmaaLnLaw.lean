/- The walk of the law on LineCells. -/
import Derived.Test.YtipopglbpfdcmaaLnImpl
import Derived.Test.YtipopglbpfdcmaaLnEq
namespace Go.Proofs.Ytipopglbpfdcmaa
open Go.RowKit
theorem lnN_le (x1 y1 x2 y2 : Int) : lnN x1 y1 x2 y2 ≤ 4096 := by
  unfold lnN
  cases h : lnB x1 y1 x2 y2 with
  | false => simp
  | true =>
    obtain ⟨h1, h2, h3, h4⟩ := lnB_parts h
    have b1 := inK_t h1
    have b2 := inK_t h2
    have b3 := inK_t h3
    have b4 := inK_t h4
    have p4 : ab (x2 - x1) ≤ 2000 ∧ 0 ≤ ab (x2 - x1) := by unfold ab; split <;> omega
    have q4 : ab (y2 - y1) ≤ 2000 ∧ 0 ≤ ab (y2 - y1) := by unfold ab; split <;> omega
    simp only [if_true]
    unfold steps
    omega
set_option maxHeartbeats 1000000 in
theorem lineLaw (x1 y1 x2 y2 : Int) (w : World) :
    Calls Try.prog 5 #[.int .i64 x1, .int .i64 y1, .int .i64 x2, .int .i64 y2] w fun e w' => e = .returned (.bool true) ∧ Below w.heap.size w w' := by
  have hI := implLine x1 y1 x2 y2
  have hS := specLine x1 y1 x2 y2
  have hN := lnN_le x1 y1 x2 y2
  generalize lnN x1 y1 x2 y2 = N at hI hS hN
  generalize lnX x1 y1 x2 y2 = X at hI hS
  generalize lnY x1 y1 x2 y2 = Y at hI hS
  have hN2 : N ≤ 1048576 := by omega
  have j1 : ¬ ((1 + 2 * N : Nat) : Int) < 0 := by omega
  go_enter Try.func5, Try.ntmps5
  have hB0 := Below.refl w.heap.size w
  go_wp2_with fail
  refine (hS _).mono ?_
  rintro e w1 ⟨⟨a1, c1, rfl, hL1⟩, hb2⟩
  have hs3 := hb2.size
  have hB4 := stepA hB0 hb2
  clear hB0 hb2
  try simp only [size_al] at hs3
  go_wp2_with fail
  refine (hI _).mono ?_
  rintro e w5 ⟨⟨a2, c2, rfl, hL2⟩, hb6⟩
  have hs7 := hb6.size
  have z8 := hL1.on hb6
  clear hL1
  have hB9 := stepA hB4 hb6
  clear hB4 hb6
  try simp only [size_al] at hs7
  go_wp2_with fail
  refine (eqSS_any a2 a1 N c2 c1 _ _ _ _ X Y _ hN2 hL2 z8).mono ?_
  rintro e w10 ⟨rfl, hb11⟩
  have hs12 := hb11.size
  have z13 := z8.on hb11
  have z14 := hL2.on hb11
  clear z8 hL2
  have hB15 := stepA hB9 hb11
  clear hB9 hb11
  try simp only [size_al] at hs12
  go_wp2_with fail
  refine (markSS_any a2 N c2 1 (w1.heap.size) (w5.heap.size) X Y _ hN (by omega) z14).mono ?_
  rintro e w16 ⟨rfl, z18, ht17⟩
  have hs19 := ht17.size
  try simp only [size_al] at hs19
  have z20 := z13.turns ht17 (by first | omega | (simp only [size_al]; omega))
  clear z13
  have hB21 := hB15.trans (ht17.below (by omega) (by first | omega | (simp only [size_al]; omega)))
  clear hB15 ht17 z14
  go_wp2_with fail
  refine (heldSS_any a2 N c2 1 (w1.heap.size) (w5.heap.size) X Y _ hN (by omega) z18).mono ?_
  rintro e w22 ⟨rfl, hb23⟩
  have hs' := hb23.symm
  clear hb23
  subst hs'
  go_wp2_with fail
  refine (hI _).mono ?_
  rintro e w24 ⟨⟨a3, c3, rfl, hL3⟩, hb25⟩
  have hs26 := hb25.size
  have z27 := z20.on hb25
  have z28 := z18.on hb25
  clear z20 z18
  have hB29 := stepA hB21 hb25
  clear hB21 hb25
  try simp only [size_al] at hs26
  go_wp2_with fail
  refine (eqSS_any a3 a1 N c3 c1 _ _ _ _ X Y _ hN2 hL3 z27).mono ?_
  rintro e w30 ⟨rfl, hb31⟩
  have hs32 := hb31.size
  have z33 := z27.on hb31
  have z34 := z28.on hb31
  have z35 := hL3.on hb31
  clear z27 z28 hL3
  have hB36 := stepA hB29 hb31
  clear hB29 hb31
  try simp only [size_al] at hs32
  go_wp2_with fail
  refine (heldSS_any a2 N c2 1 (w1.heap.size) (w5.heap.size) X Y _ hN (by omega) z34).mono ?_
  rintro e w37 ⟨rfl, hb38⟩
  have hs' := hb38.symm
  clear hb38
  subst hs'
  clear z33
  clear z34
  clear z35
  go_wp2
  go_ret
  exact ⟨rfl, hB36⟩
end Go.Proofs.Ytipopglbpfdcmaa
