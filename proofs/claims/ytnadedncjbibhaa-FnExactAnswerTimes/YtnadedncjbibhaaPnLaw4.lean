/- The walk of the law on AnswerTimes (tools/gen_pnlaw.py). -/
import Derived.Test.YtnadedncjbibhaaPnAtI
import Derived.Test.YtnadedncjbibhaaPnChM
import Derived.Test.YtnadedncjbibhaaLqMark
namespace Go.Proofs.Ytnadedncjbibhaa
open Go.RowKit
set_option maxRecDepth 20000 in
set_option maxHeartbeats 4000000 in
theorem timLaw (a : Option Addr) (n c : Nat) (F : Nat → Int) (w : World) (hn : n ≤ 1048576) (hf : IL w a (n * 3) F) :
    Calls Try.prog 5 #[.slice a n c] w fun e w' => e = .returned (.bool true) ∧ Below w.heap.size w w' := by
  have hN : atN n F ≤ 1048576 := by unfold atN; split <;> omega
  have hS := fun b c w h => sTimes b n c F w h
  have hI := fun b c w hc h => iTimes b n c F w hc h
  generalize atN n F = N at hS hI hN
  generalize atV F = R at hS hI
  generalize gcV n F = V at hS hI
  have j1 : ¬ (1 : Int) + ((n * 3 : Nat) : Int) < 0 := by omega
  have j2 : ¬ (1 : Int) + (N : Int) < 0 := by omega
  have j0 : ¬ (1048576 : Int) - (n : Int) < 0 := by omega
  go_enter Try.func5, Try.ntmps5
  have hB0 := Below.refl w.heap.size w
  go_wp2_with fail
  refine (szChore_in a n c 1048576 _ (by omega) (by omega)).mono ?_
  rintro e w1 ⟨rfl, hb2⟩
  have hs' := hb2.symm
  clear hb2
  subst hs'
  go_wp2_with fail
  refine (toChoreS_any a n c F _ hn (hf.below hB0)).mono ?_
  rintro e w3 ⟨rfl, hQ2, hQ2s, hb4⟩
  have hs5 := hb4.size
  have hB6 := stepA hB0 hb4
  clear hB0 hb4
  try simp only [size_al] at hs5
  try simp only [size_al] at hQ2 hQ2s
  go_wp2_with fail
  refine (hS _ _ _ hQ2.il).mono ?_
  rintro e w7 ⟨⟨a3, c3, rfl, hA3⟩, hb8⟩
  have hs9 := hb8.size
  have z10 := hQ2.on hb8
  clear hQ2
  have hB11 := stepA hB6 hb8
  clear hB6 hb8
  try simp only [size_al] at hs9
  try simp only [size_al] at hA3
  clear z10
  go_wp2_with fail
  refine (toChoreS_any a n c F _ hn (hf.below hB11)).mono ?_
  rintro e w12 ⟨rfl, hQ4, hQ4s, hb13⟩
  have hs14 := hb13.size
  have z15 := hA3.on hb13
  clear hA3
  have hB16 := stepA hB11 hb13
  clear hB11 hb13
  try simp only [size_al] at hs14
  try simp only [size_al] at hQ4 hQ4s
  go_wp2_with fail
  refine (hI _ _ _ (Nat.le_refl _) hQ4.il).mono ?_
  rintro e w17 ⟨⟨a5, c5, rfl, hA5⟩, hb18⟩
  have hs19 := hb18.size
  have z20 := z15.on hb18
  have z21 := hQ4.on hb18
  clear z15 hQ4
  have hB22 := stepA hB16 hb18
  clear hB16 hb18
  try simp only [size_al] at hs19
  try simp only [size_al] at hA5
  go_wp2_with fail
  refine (eqI_any a5 a3 N c5 c3 R _ hN hA5.il z20.il).mono ?_
  rintro e w23 ⟨rfl, hb24⟩
  have hs25 := hb24.size
  have z26 := z20.on hb24
  have z27 := z21.on hb24
  have z28 := hA5.on hb24
  clear z20 z21 hA5
  have hB29 := stepA hB22 hb24
  clear hB22 hb24
  try simp only [size_al] at hs25
  cases V with
  | true =>
    go_wp2_with fail
    refine (toChoreS_any a n c F _ hn (hf.below hB29)).mono ?_
    rintro e w30 ⟨rfl, hQ6, hQ6s, hb31⟩
    have hs32 := hb31.size
    have z33 := z26.on hb31
    have z34 := z27.on hb31
    have z35 := z28.on hb31
    clear z26 z27 z28
    have hB36 := stepA hB29 hb31
    clear hB29 hb31
    try simp only [size_al] at hs32
    try simp only [size_al] at hQ6 hQ6s
    go_wp2_with fail
    refine (eqChoreS_any (some ⟨w7.heap.size, 0, none⟩) (some ⟨w23.heap.size, 0, none⟩) n n n F _ hn z34.il hQ6.il).mono ?_
    rintro e w37 ⟨rfl, hb38⟩
    have hs39 := hb38.size
    have z40 := z33.on hb38
    have z41 := z34.on hb38
    have z42 := z35.on hb38
    have z43 := hQ6.on hb38
    clear z33 z34 z35 hQ6
    have hB44 := stepA hB36 hb38
    clear hB36 hb38
    try simp only [size_al] at hs39
    clear z43
    go_wp2_with fail
    refine (markChoreT (some ⟨w7.heap.size, 0, none⟩) n n (1) (w7.heap.size) (w7.heap.size + 1) F _ hn (by omega) z41).mono ?_
    rintro e w45 ⟨rfl, z47, ht46⟩
    have hs48 := ht46.size
    try simp only [size_al] at hs48
    have z49 := z40.turns ht46 (by first | omega | (simp only [size_al]; omega))
    have z50 := z42.turns ht46 (by first | omega | (simp only [size_al]; omega))
    clear z40 z42
    have hB51 := hB44.trans (ht46.below (by omega) (by first | omega | (simp only [size_al]; omega)))
    clear hB44 ht46 z41
    go_wp2_with fail
    refine (eqI_any a5 a3 N c5 c3 R _ hN z50.il z49.il).mono ?_
    rintro e w52 ⟨rfl, hb53⟩
    have hs54 := hb53.size
    have z55 := z49.on hb53
    have z56 := z50.on hb53
    have z57 := z47.on hb53
    clear z49 z50 z47
    have hB58 := stepA hB51 hb53
    clear hB51 hb53
    try simp only [size_al] at hs54
    go_wp2_with fail
    refine (markT a5 N c5 1 (w12.heap.size) (w17.heap.size) R _ hN (by omega) z56).mono ?_
    rintro e w59 ⟨rfl, z61, ht60⟩
    have hs62 := ht60.size
    try simp only [size_al] at hs62
    have z63 := z55.turns ht60 (by first | omega | (simp only [size_al]; omega))
    have z64 := z57.turns ht60 (by first | omega | (simp only [size_al]; omega))
    clear z55 z57
    have hB65 := hB58.trans (ht60.below (by omega) (by first | omega | (simp only [size_al]; omega)))
    clear hB58 ht60 z56
    go_wp2_with fail
    refine (heldQ a5 N c5 1 (w12.heap.size) (w17.heap.size) _ hN (by omega) z61).mono ?_
    rintro e w66 ⟨rfl, hb67⟩
    have hs' := hb67.symm
    clear hb67
    subst hs'
    go_wp2_with fail
    refine (toChoreS_any a n c F _ hn (hf.below hB65)).mono ?_
    rintro e w68 ⟨rfl, hQ7, hQ7s, hb69⟩
    have hs70 := hb69.size
    have z71 := z63.on hb69
    have z72 := z64.on hb69
    have z73 := z61.on hb69
    clear z63 z64 z61
    have hB74 := stepA hB65 hb69
    clear hB65 hb69
    try simp only [size_al] at hs70
    try simp only [size_al] at hQ7 hQ7s
    go_wp2_with fail
    refine (hI _ _ _ (Nat.le_refl _) hQ7.il).mono ?_
    rintro e w75 ⟨⟨a8, c8, rfl, hA8⟩, hb76⟩
    have hs77 := hb76.size
    have z78 := z71.on hb76
    have z79 := z72.on hb76
    have z80 := z73.on hb76
    have z81 := hQ7.on hb76
    clear z71 z72 z73 hQ7
    have hB82 := stepA hB74 hb76
    clear hB74 hb76
    try simp only [size_al] at hs77
    try simp only [size_al] at hA8
    go_wp2_with fail
    refine (eqI_any a8 a3 N c8 c3 R _ hN hA8.il z78.il).mono ?_
    rintro e w83 ⟨rfl, hb84⟩
    have hs85 := hb84.size
    have z86 := z78.on hb84
    have z87 := z79.on hb84
    have z88 := z80.on hb84
    have z89 := z81.on hb84
    have z90 := hA8.on hb84
    clear z78 z79 z80 z81 hA8
    have hB91 := stepA hB82 hb84
    clear hB82 hb84
    try simp only [size_al] at hs85
    go_wp2_with fail
    refine (heldQ a5 N c5 1 (w12.heap.size) (w17.heap.size) _ hN (by omega) z88).mono ?_
    rintro e w92 ⟨rfl, hb93⟩
    have hs' := hb93.symm
    clear hb93
    subst hs'
    clear z86
    clear z87
    clear z88
    clear z89
    clear z90
    go_wp2
    go_ret
    exact ⟨rfl, hB91⟩
  | false =>
    go_wp2_with fail
    refine (toChoreS_any a n c F _ hn (hf.below hB29)).mono ?_
    rintro e w30 ⟨rfl, hQ6, hQ6s, hb31⟩
    have hs32 := hb31.size
    have z33 := z26.on hb31
    have z34 := z27.on hb31
    have z35 := z28.on hb31
    clear z26 z27 z28
    have hB36 := stepA hB29 hb31
    clear hB29 hb31
    try simp only [size_al] at hs32
    try simp only [size_al] at hQ6 hQ6s
    go_wp2_with fail
    refine (eqChoreS_any (some ⟨w7.heap.size, 0, none⟩) (some ⟨w23.heap.size, 0, none⟩) n n n F _ hn z34.il hQ6.il).mono ?_
    rintro e w37 ⟨rfl, hb38⟩
    have hs39 := hb38.size
    have z40 := z33.on hb38
    have z41 := z34.on hb38
    have z42 := z35.on hb38
    have z43 := hQ6.on hb38
    clear z33 z34 z35 hQ6
    have hB44 := stepA hB36 hb38
    clear hB36 hb38
    try simp only [size_al] at hs39
    clear z43
    go_wp2_with fail
    refine (markChoreT (some ⟨w7.heap.size, 0, none⟩) n n (1) (w7.heap.size) (w7.heap.size + 1) F _ hn (by omega) z41).mono ?_
    rintro e w45 ⟨rfl, z47, ht46⟩
    have hs48 := ht46.size
    try simp only [size_al] at hs48
    have z49 := z40.turns ht46 (by first | omega | (simp only [size_al]; omega))
    have z50 := z42.turns ht46 (by first | omega | (simp only [size_al]; omega))
    clear z40 z42
    have hB51 := hB44.trans (ht46.below (by omega) (by first | omega | (simp only [size_al]; omega)))
    clear hB44 ht46 z41
    go_wp2_with fail
    refine (eqI_any a5 a3 N c5 c3 R _ hN z50.il z49.il).mono ?_
    rintro e w52 ⟨rfl, hb53⟩
    have hs54 := hb53.size
    have z55 := z49.on hb53
    have z56 := z50.on hb53
    have z57 := z47.on hb53
    clear z49 z50 z47
    have hB58 := stepA hB51 hb53
    clear hB51 hb53
    try simp only [size_al] at hs54
    go_wp2_with fail
    refine (markT a5 N c5 1 (w12.heap.size) (w17.heap.size) R _ hN (by omega) z56).mono ?_
    rintro e w59 ⟨rfl, z61, ht60⟩
    have hs62 := ht60.size
    try simp only [size_al] at hs62
    have z63 := z55.turns ht60 (by first | omega | (simp only [size_al]; omega))
    have z64 := z57.turns ht60 (by first | omega | (simp only [size_al]; omega))
    clear z55 z57
    have hB65 := hB58.trans (ht60.below (by omega) (by first | omega | (simp only [size_al]; omega)))
    clear hB58 ht60 z56
    go_wp2_with fail
    refine (heldQ a5 N c5 1 (w12.heap.size) (w17.heap.size) _ hN (by omega) z61).mono ?_
    rintro e w66 ⟨rfl, hb67⟩
    have hs' := hb67.symm
    clear hb67
    subst hs'
    go_wp2_with fail
    refine (toChoreS_any a n c F _ hn (hf.below hB65)).mono ?_
    rintro e w68 ⟨rfl, hQ7, hQ7s, hb69⟩
    have hs70 := hb69.size
    have z71 := z63.on hb69
    have z72 := z64.on hb69
    have z73 := z61.on hb69
    clear z63 z64 z61
    have hB74 := stepA hB65 hb69
    clear hB65 hb69
    try simp only [size_al] at hs70
    try simp only [size_al] at hQ7 hQ7s
    go_wp2_with fail
    refine (hI _ _ _ (Nat.le_refl _) hQ7.il).mono ?_
    rintro e w75 ⟨⟨a8, c8, rfl, hA8⟩, hb76⟩
    have hs77 := hb76.size
    have z78 := z71.on hb76
    have z79 := z72.on hb76
    have z80 := z73.on hb76
    have z81 := hQ7.on hb76
    clear z71 z72 z73 hQ7
    have hB82 := stepA hB74 hb76
    clear hB74 hb76
    try simp only [size_al] at hs77
    try simp only [size_al] at hA8
    go_wp2_with fail
    refine (eqI_any a8 a3 N c8 c3 R _ hN hA8.il z78.il).mono ?_
    rintro e w83 ⟨rfl, hb84⟩
    have hs85 := hb84.size
    have z86 := z78.on hb84
    have z87 := z79.on hb84
    have z88 := z80.on hb84
    have z89 := z81.on hb84
    have z90 := hA8.on hb84
    clear z78 z79 z80 z81 hA8
    have hB91 := stepA hB82 hb84
    clear hB82 hb84
    try simp only [size_al] at hs85
    go_wp2_with fail
    refine (heldQ a5 N c5 1 (w12.heap.size) (w17.heap.size) _ hN (by omega) z88).mono ?_
    rintro e w92 ⟨rfl, hb93⟩
    have hs' := hb93.symm
    clear hb93
    subst hs'
    clear z86
    clear z87
    clear z88
    clear z89
    clear z90
    go_wp2
    go_ret
    exact ⟨rfl, hB91⟩
set_option maxHeartbeats 400000 in
theorem timLong (a : Option Addr) (n c : Nat) (w : World) (h : 1048576 < n) (hm : n ≤ 9223372036854775807) :
    Calls Try.prog 5 #[.slice a n c] w fun e w' => e = .returned (.bool true) ∧ Below w.heap.size w w' := by
  go_enter Try.func5, Try.ntmps5
  go_wp2_with fail
  refine (szChore_out a n c 1048576 _ (by omega) (by omega) (by omega) hm).mono ?_
  rintro e w' ⟨rfl, hw⟩
  have hs := hw.symm
  clear hw
  subst hs
  go_wp2
  go_ret
  exact ⟨rfl, Below.refl _ _⟩
theorem timAll (a : Option Addr) (n c : Nat) (F : Nat → Int) (w : World) (hm : n ≤ 9223372036854775807) (hf : IL w a (n * 3) F) :
    Calls Try.prog 5 #[.slice a n c] w fun e w' => e = .returned (.bool true) ∧ Below w.heap.size w w' := by
  by_cases h : n ≤ 1048576
  · exact timLaw a n c F w h hf
  · exact timLong a n c w (by omega) hm
end Go.Proofs.Ytnadedncjbibhaa
