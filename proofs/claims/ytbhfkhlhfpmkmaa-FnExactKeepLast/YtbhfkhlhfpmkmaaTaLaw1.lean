/- The walk of the law on KeepLast (tools/gen_talaw.py). -/
import Derived.Test.YtbhfkhlhfpmkmaaTaKlS
import Derived.Test.YtbhfkhlhfpmkmaaTaKlI
import Derived.Test.YtbhfkhlhfpmkmaaLqMark
namespace Go.Proofs.Ytbhfkhlhfpmkmaa
open Go.RowKit
set_option maxRecDepth 20000 in
set_option maxHeartbeats 4000000 in
theorem keepLaw (a : Option Addr) (n c : Nat) (f : Nat → Int) (d x : Int) (w : World) (hn : n ≤ 1048576) (hf : IL w a n f) :
    Calls Try.prog 4 #[.slice a n c, .int .i64 d, .int .i64 x] w fun e w' => e = .returned (.bool true) ∧ Below w.heap.size w w' := by
  have hN := klN_le n d
  have hS := fun b c w h => sKeep b n c f d x w hn h
  have hI := fun b w h => iKeep b n f d x w hn h
  generalize klN n d = N at hS hI hN
  generalize klF n f d x = F at hS hI
  generalize klB n d = T at hS hI
  have hN : N ≤ 1048576 := by omega
  have j : ¬ (1048576 : Int) < (n : Int) := by omega
  have j1 : ¬ (1 : Int) + (n : Int) < 0 := by omega
  have j2 : ¬ (1 : Int) + (N : Int) < 0 := by omega
  go_enter Try.func4, Try.ntmps4
  have hB0 := Below.refl w.heap.size w
  go_wp2_with fail
  refine (copyQ a n c f _ hn (hf.below hB0)).mono ?_
  rintro e w1 ⟨rfl, hQ2, hQ2s, hb2⟩
  have hs3 := hb2.size
  have hB4 := stepA hB0 hb2
  clear hB0 hb2
  try simp only [size_al] at hs3
  try simp only [size_al] at hQ2 hQ2s
  go_wp2_with fail
  refine (hS _ _ _ hQ2.il).mono ?_
  rintro e w5 ⟨⟨a3, c3, rfl, hA3⟩, hb6⟩
  have hs7 := hb6.size
  have z8 := hQ2.on hb6
  clear hQ2
  have hB9 := stepA hB4 hb6
  clear hB4 hb6
  try simp only [size_al] at hs7
  try simp only [size_al] at hA3
  clear z8
  go_wp2_with fail
  refine (copyQ a n c f _ hn (hf.below hB9)).mono ?_
  rintro e w10 ⟨rfl, hQ4, hQ4s, hb11⟩
  have hs12 := hb11.size
  have z13 := hA3.on hb11
  clear hA3
  have hB14 := stepA hB9 hb11
  clear hB9 hb11
  try simp only [size_al] at hs12
  try simp only [size_al] at hQ4 hQ4s
  go_wp2_with fail
  refine (hI _ _ hQ4.il).mono ?_
  rintro e w15 ⟨⟨a5, c5, rfl, hA5⟩, hb16⟩
  have hs17 := hb16.size
  have z18 := z13.on hb16
  have z19 := hQ4.on hb16
  clear z13 hQ4
  have hB20 := stepA hB14 hb16
  clear hB14 hb16
  try simp only [size_al] at hs17
  try simp only [size_al] at hA5
  go_wp2_with fail
  refine (eqI_any a5 a3 N c5 c3 F _ hN hA5.il z18.il).mono ?_
  rintro e w21 ⟨rfl, hb22⟩
  have hs23 := hb22.size
  have z24 := z18.on hb22
  have z25 := z19.on hb22
  have z26 := hA5.on hb22
  clear z18 z19 hA5
  have hB27 := stepA hB20 hb22
  clear hB20 hb22
  try simp only [size_al] at hs23
  go_wp2_with fail
  refine (copyQ a n c f _ hn (hf.below hB27)).mono ?_
  rintro e w28 ⟨rfl, hQ6, hQ6s, hb29⟩
  have hs30 := hb29.size
  have z31 := z24.on hb29
  have z32 := z25.on hb29
  have z33 := z26.on hb29
  clear z24 z25 z26
  have hB34 := stepA hB27 hb29
  clear hB27 hb29
  try simp only [size_al] at hs30
  try simp only [size_al] at hQ6 hQ6s
  go_wp2_with fail
  refine (eqI_any (some ⟨w5.heap.size, 0, none⟩) (some ⟨w21.heap.size, 0, none⟩) n n n f _ hn z32.il hQ6.il).mono ?_
  rintro e w35 ⟨rfl, hb36⟩
  have hs37 := hb36.size
  have z38 := z31.on hb36
  have z39 := z32.on hb36
  have z40 := z33.on hb36
  have z41 := hQ6.on hb36
  clear z31 z32 z33 hQ6
  have hB42 := stepA hB34 hb36
  clear hB34 hb36
  try simp only [size_al] at hs37
  clear z41
  go_wp2_with fail
  refine (markT (some ⟨w5.heap.size, 0, none⟩) n n 1 (w5.heap.size) (w5.heap.size + 1) f _ hn (by omega) z39).mono ?_
  rintro e w43 ⟨rfl, z45, ht44⟩
  have hs46 := ht44.size
  try simp only [size_al] at hs46
  have z47 := z38.turns ht44 (by first | omega | (simp only [size_al]; omega))
  have z48 := z40.turns ht44 (by first | omega | (simp only [size_al]; omega))
  clear z38 z40
  have hB49 := hB42.trans (ht44.below (by omega) (by first | omega | (simp only [size_al]; omega)))
  clear hB42 ht44 z39
  go_wp2_with fail
  refine (eqI_any a5 a3 N c5 c3 F _ hN z48.il z47.il).mono ?_
  rintro e w50 ⟨rfl, hb51⟩
  have hs52 := hb51.size
  have z53 := z47.on hb51
  have z54 := z48.on hb51
  have z55 := z45.on hb51
  clear z47 z48 z45
  have hB56 := stepA hB49 hb51
  clear hB49 hb51
  try simp only [size_al] at hs52
  go_wp2_with fail
  refine (markT a5 N c5 1 (w10.heap.size) (w15.heap.size) F _ hN (by omega) z54).mono ?_
  rintro e w57 ⟨rfl, z59, ht58⟩
  have hs60 := ht58.size
  try simp only [size_al] at hs60
  have z61 := z53.turns ht58 (by first | omega | (simp only [size_al]; omega))
  have z62 := z55.turns ht58 (by first | omega | (simp only [size_al]; omega))
  clear z53 z55
  have hB63 := hB56.trans (ht58.below (by omega) (by first | omega | (simp only [size_al]; omega)))
  clear hB56 ht58 z54
  go_wp2_with fail
  refine (heldQ a5 N c5 1 (w10.heap.size) (w15.heap.size) _ hN (by omega) z59).mono ?_
  rintro e w64 ⟨rfl, hb65⟩
  have hs' := hb65.symm
  clear hb65
  subst hs'
  go_wp2_with fail
  refine (copyQ a n c f _ hn (hf.below hB63)).mono ?_
  rintro e w66 ⟨rfl, hQ7, hQ7s, hb67⟩
  have hs68 := hb67.size
  have z69 := z61.on hb67
  have z70 := z62.on hb67
  have z71 := z59.on hb67
  clear z61 z62 z59
  have hB72 := stepA hB63 hb67
  clear hB63 hb67
  try simp only [size_al] at hs68
  try simp only [size_al] at hQ7 hQ7s
  go_wp2_with fail
  refine (hI _ _ hQ7.il).mono ?_
  rintro e w73 ⟨⟨a8, c8, rfl, hA8⟩, hb74⟩
  have hs75 := hb74.size
  have z76 := z69.on hb74
  have z77 := z70.on hb74
  have z78 := z71.on hb74
  have z79 := hQ7.on hb74
  clear z69 z70 z71 hQ7
  have hB80 := stepA hB72 hb74
  clear hB72 hb74
  try simp only [size_al] at hs75
  try simp only [size_al] at hA8
  go_wp2_with fail
  refine (eqI_any a8 a3 N c8 c3 F _ hN hA8.il z76.il).mono ?_
  rintro e w81 ⟨rfl, hb82⟩
  have hs83 := hb82.size
  have z84 := z76.on hb82
  have z85 := z77.on hb82
  have z86 := z78.on hb82
  have z87 := z79.on hb82
  have z88 := hA8.on hb82
  clear z76 z77 z78 z79 hA8
  have hB89 := stepA hB80 hb82
  clear hB80 hb82
  try simp only [size_al] at hs83
  go_wp2_with fail
  refine (heldQ a5 N c5 1 (w10.heap.size) (w15.heap.size) _ hN (by omega) z86).mono ?_
  rintro e w90 ⟨rfl, hb91⟩
  have hs' := hb91.symm
  clear hb91
  subst hs'
  clear z84
  clear z85
  clear z86
  clear z87
  clear z88
  go_wp2
  go_ret
  exact ⟨rfl, hB89⟩
set_option maxHeartbeats 400000 in
theorem keepLaw_long (a : Option Addr) (n c : Nat) (d x : Int) (w : World) (h : 1048576 < n) :
    Calls Try.prog 4 #[.slice a n c, .int .i64 d, .int .i64 x] w fun e w' => e = .returned (.bool true) ∧ Below w.heap.size w w' := by
  have j : (1048576 : Int) < (n : Int) := by omega
  go_enter Try.func4, Try.ntmps4
  go_wp2
  go_ret
  exact ⟨rfl, Below.refl _ _⟩
theorem keepAll (a : Option Addr) (n c : Nat) (f : Nat → Int) (d x : Int) (w : World) (hf : IL w a n f) :
    Calls Try.prog 4 #[.slice a n c, .int .i64 d, .int .i64 x] w fun e w' => e = .returned (.bool true) ∧ Below w.heap.size w w' := by
  by_cases h : n ≤ 1048576
  · exact keepLaw a n c f d x w h hf
  · exact keepLaw_long a n c d x w (by omega)
end Go.Proofs.Ytbhfkhlhfpmkmaa
