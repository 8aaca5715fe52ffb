/- The walk of the law on MostClear. -/
import Derived.Test.YtfciecoigfnnhabWyMost
import Derived.Test.YtfciecoigfnnhabWyMostI
import Derived.Test.YtfciecoigfnnhabClBase
namespace Go.Proofs.Ytfciecoigfnnhab
open Go.RowKit
set_option maxHeartbeats 4000000 in
theorem mostLaw (W : Int) (a : Option Addr) (n c : Nat) (f : Nat → Int) (p : Int) (w : World) (hn : n ≤ 1048576) (hf : IL w a n f) :
    Calls Try.prog 5 #[cel W a n c, .int .i64 p] w fun e w' => e = .returned (.bool true) ∧ Below w.heap.size w w' := by
  have hN := mostL_len W n f p
  have hL : (mostL W n f p).length ≤ 1048576 := by omega
  have j1 : ¬ (1 : Int) + (n : Int) < 0 := by omega
  have hI := fun a c w h => implMost W a n c f p w hn h
  have hS := fun a c w h => specMost W a n c f p w hn h
  generalize mostL W n f p = L at hN hL hI hS
  have j2 : ¬ (1 : Int) + (L.length : Int) < 0 := by omega
  have j : ¬ (1048576 : Int) - (n : Int) < 0 := by omega
  go_enter Try.func5, Try.ntmps5
  have hB0 := Below.refl w.heap.size w
  have z1 := bx_new (b := w.heap.size) (w := w) [.int .i64 W, .slice a n c] 24 (by first | rfl | simp only [size_al])
  have hx2 : Below w.heap.size w (w.alloc (.cells #[.int .i64 W, .slice a n c] 24)) := (Below.refl _ _).alloc (Nat.le_refl _) _
  have hB3 := stepA hB0 hx2
  clear hB0 hx2
  have x4 := z1.c0
  have x5 := z1.c1
  go_wp2_with fail
  refine (szCells_in W a n c _ hn).mono ?_
  rintro e w6 ⟨rfl, hb7⟩
  have hs8 := hb7.size
  have z9 := z1.on hb7
  clear z1
  have hB10 := stepA hB3 hb7
  clear hB3 hb7
  try simp only [size_al] at hs8
  clear x4 x5
  have x11 := z9.c0
  have x12 := z9.c1
  go_wp2_with fail
  refine (toCells_any W a n c f _ hn (hf.below hB10)).mono ?_
  rintro e w13 ⟨a2, rfl, hL2, hb14⟩
  have hs15 := hb14.size
  have z16 := z9.on hb14
  clear z9
  have hB17 := stepA hB10 hb14
  clear hB10 hb14
  try simp only [size_al] at hs15
  try simp only [size_al] at hL2
  clear x11 x12
  have x18 := z16.c0
  have x19 := z16.c1
  go_wp2_with fail
  refine (hS _ _ _ hL2.il).mono ?_
  rintro e w20 ⟨⟨a3, c3, rfl, hA3⟩, hb21⟩
  have hs22 := hb21.size
  have z23 := z16.on hb21
  have z24 := hL2.on hb21
  clear z16 hL2
  have hB25 := stepA hB17 hb21
  clear hB17 hb21
  try simp only [size_al] at hs22
  try simp only [size_al] at hA3
  clear z24
  clear x18 x19
  have x26 := z23.c0
  have x27 := z23.c1
  go_wp2_with fail
  refine (toCells_any W a n c f _ hn (hf.below hB25)).mono ?_
  rintro e w28 ⟨a4, rfl, hL4, hb29⟩
  have hs30 := hb29.size
  have z31 := z23.on hb29
  have z32 := hA3.on hb29
  clear z23 hA3
  have hB33 := stepA hB25 hb29
  clear hB25 hb29
  try simp only [size_al] at hs30
  try simp only [size_al] at hL4
  have z34 := bx_new (b := w28.heap.size) (w := w28) [.int .i64 W, .slice a4 n n] 27 (by first | rfl | simp only [size_al])
  have hx35 : Below w28.heap.size w28 (w28.alloc (.cells #[.int .i64 W, .slice a4 n n] 27)) := (Below.refl _ _).alloc (Nat.le_refl _) _
  have z36 := z31.on hx35
  have z37 := z32.on hx35
  have z38 := hL4.on hx35
  clear z31 z32 hL4
  have hB39 := stepA hB33 hx35
  clear hB33 hx35
  clear x26 x27
  have x40 := z36.c0
  have x41 := z36.c1
  have x42 := z34.c0
  have x43 := z34.c1
  go_wp2_with fail
  refine (hI _ _ _ z38.il).mono ?_
  rintro e w44 ⟨⟨a5, c5, rfl, hA5⟩, hb45⟩
  have hs46 := hb45.size
  have z47 := z36.on hb45
  have z48 := z37.on hb45
  have z49 := z38.on hb45
  have z50 := z34.on hb45
  clear z36 z37 z38 z34
  have hB51 := stepA hB39 hb45
  clear hB39 hb45
  try simp only [size_al] at hs46
  try simp only [size_al] at hA5
  clear x40 x41 x42 x43
  have x52 := z47.c0
  have x53 := z47.c1
  have x54 := z50.c0
  have x55 := z50.c1
  go_wp2_with fail
  refine (eqI_any a5 a3 L.length c5 c3 (gl L) _ hL hA5.il z48.il).mono ?_
  rintro e w56 ⟨rfl, hb57⟩
  have hs58 := hb57.size
  have z59 := z47.on hb57
  have z60 := z48.on hb57
  have z61 := z49.on hb57
  have z62 := z50.on hb57
  have z63 := hA5.on hb57
  clear z47 z48 z49 z50 hA5
  have hB64 := stepA hB51 hb57
  clear hB51 hb57
  try simp only [size_al] at hs58
  clear x52 x53 x54 x55
  have x65 := z59.c0
  have x66 := z59.c1
  have x67 := z62.c0
  have x68 := z62.c1
  go_wp2_with fail
  have hw69 := Below.refl w56.heap.size w56
  go_region_held3 (fun w' => w'.cell? ⟨w.heap.size, 0, none⟩ = some (.int .i64 W) ∧ w'.cell? ⟨w.heap.size, 1, none⟩ = some (.slice a n c) ∧ w'.cell? ⟨w28.heap.size, 0, none⟩ = some (.int .i64 W) ∧ w'.cell? ⟨w28.heap.size, 1, none⟩ = some (.slice a4 n n))
    (first | (exact ⟨(z59.on hw69.drew).c0, (z59.on hw69.drew).c1, (z62.on hw69.drew).c0, (z62.on hw69.drew).c1⟩) | (exact ⟨(z59.on hw72).c0, (z59.on hw72).c1, (z62.on hw72).c0, (z62.on hw72).c1⟩) | (exact ⟨(z59.on hw75).c0, (z59.on hw75).c1, (z62.on hw75).c0, (z62.on hw75).c1⟩) | (fail))
    (first | (go_at_call 8; refine (toCells_any W a n c f _ hn (hf.below (stepA hB64 hw69.drew))).mono ?_; rintro e w70 ⟨a9, rfl, hL9, hb71⟩; have hw72 := stepA hw69.drew hb71; clear hb71) | (go_at_call 10; refine (eqCells_any W _ _ n _ _ f _ hn (z61.on hw72).il hL9.il).mono ?_; rintro e w73 ⟨rfl, hb74⟩; have hw75 := stepA hw72 hb74; clear hb74) | (fail))
  have hs76 := hw75.size
  try simp only [size_al] at hs76
  have z77 := z59.on hw75
  have z78 := z60.on hw75
  have z79 := z61.on hw75
  have z80 := z62.on hw75
  have z81 := z63.on hw75
  clear z59 z60 z61 z62 z63
  have hB82 := stepA hB64 hw75
  clear hB64
  clear hL9
  clear x65 x66 x67 x68
  have x83 := z77.c0
  have x84 := z77.c1
  have x85 := z80.c0
  have x86 := z80.c1
  go_wp2_with fail
  refine (markCells_any W a4 n n 1 (w20.heap.size) (w28.heap.size) f _ hn (by omega) z79).mono ?_
  rintro e w87 ⟨rfl, z89, ht88⟩
  have hs90 := ht88.size
  try simp only [size_al] at hs90
  have z91 := z77.turns ht88 (by first | omega | (simp only [size_al]; omega))
  have z92 := z78.turns ht88 (by first | omega | (simp only [size_al]; omega))
  have z93 := z80.turns ht88 (by first | omega | (simp only [size_al]; omega))
  have z94 := z81.turns ht88 (by first | omega | (simp only [size_al]; omega))
  clear z77 z78 z80 z81
  have hB95 := hB82.trans (ht88.below (by omega) (by first | omega | (simp only [size_al]; omega)))
  clear hB82 ht88 z79
  clear x83 x84 x85 x86
  have x96 := z91.c0
  have x97 := z91.c1
  have x98 := z93.c0
  have x99 := z93.c1
  go_wp2_with fail
  refine (eqI_any a5 a3 L.length c5 c3 (gl L) _ hL z94.il z92.il).mono ?_
  rintro e w100 ⟨rfl, hb101⟩
  have hs102 := hb101.size
  have z103 := z91.on hb101
  have z104 := z92.on hb101
  have z105 := z93.on hb101
  have z106 := z94.on hb101
  have z107 := z89.on hb101
  clear z91 z92 z93 z94 z89
  have hB108 := stepA hB95 hb101
  clear hB95 hb101
  try simp only [size_al] at hs102
  clear x96 x97 x98 x99
  have x109 := z103.c0
  have x110 := z103.c1
  have x111 := z105.c0
  have x112 := z105.c1
  go_wp2_with fail
  refine (markT a5 L.length c5 1 (w28.heap.size + 1) (w44.heap.size) (gl L) _ hL (by omega) z106).mono ?_
  rintro e w113 ⟨rfl, z115, ht114⟩
  have hs116 := ht114.size
  try simp only [size_al] at hs116
  have z117 := z103.turns ht114 (by first | omega | (simp only [size_al]; omega))
  have z118 := z104.turns ht114 (by first | omega | (simp only [size_al]; omega))
  have z119 := z105.turns ht114 (by first | omega | (simp only [size_al]; omega))
  have z120 := z107.turns ht114 (by first | omega | (simp only [size_al]; omega))
  clear z103 z104 z105 z107
  have hB121 := hB108.trans (ht114.below (by omega) (by first | omega | (simp only [size_al]; omega)))
  clear hB108 ht114 z106
  clear x109 x110 x111 x112
  have x122 := z117.c0
  have x123 := z117.c1
  have x124 := z119.c0
  have x125 := z119.c1
  go_wp2_with fail
  refine (heldQ a5 L.length c5 1 (w28.heap.size + 1) (w44.heap.size) _ hL (by omega) z115).mono ?_
  rintro e w126 ⟨rfl, hb127⟩
  have hs' := hb127.symm
  clear hb127
  subst hs'
  clear x122 x123 x124 x125
  have x128 := z117.c0
  have x129 := z117.c1
  have x130 := z119.c0
  have x131 := z119.c1
  go_wp2_with fail
  refine (toCells_any W a n c f _ hn (hf.below hB121)).mono ?_
  rintro e w132 ⟨a6, rfl, hL6, hb133⟩
  have hs134 := hb133.size
  have z135 := z117.on hb133
  have z136 := z118.on hb133
  have z137 := z119.on hb133
  have z138 := z120.on hb133
  have z139 := z115.on hb133
  clear z117 z118 z119 z120 z115
  have hB140 := stepA hB121 hb133
  clear hB121 hb133
  try simp only [size_al] at hs134
  try simp only [size_al] at hL6
  clear x128 x129 x130 x131
  have x141 := z135.c0
  have x142 := z135.c1
  have x143 := z137.c0
  have x144 := z137.c1
  go_wp2_with fail
  refine (hI _ _ _ hL6.il).mono ?_
  rintro e w145 ⟨⟨a7, c7, rfl, hA7⟩, hb146⟩
  have hs147 := hb146.size
  have z148 := z135.on hb146
  have z149 := z136.on hb146
  have z150 := z137.on hb146
  have z151 := z138.on hb146
  have z152 := z139.on hb146
  have z153 := hL6.on hb146
  clear z135 z136 z137 z138 z139 hL6
  have hB154 := stepA hB140 hb146
  clear hB140 hb146
  try simp only [size_al] at hs147
  try simp only [size_al] at hA7
  clear x141 x142 x143 x144
  have x155 := z148.c0
  have x156 := z148.c1
  have x157 := z150.c0
  have x158 := z150.c1
  go_wp2_with fail
  refine (eqI_any a7 a3 L.length c7 c3 (gl L) _ hL hA7.il z149.il).mono ?_
  rintro e w159 ⟨rfl, hb160⟩
  have hs161 := hb160.size
  have z162 := z148.on hb160
  have z163 := z149.on hb160
  have z164 := z150.on hb160
  have z165 := z151.on hb160
  have z166 := z152.on hb160
  have z167 := z153.on hb160
  have z168 := hA7.on hb160
  clear z148 z149 z150 z151 z152 z153 hA7
  have hB169 := stepA hB154 hb160
  clear hB154 hb160
  try simp only [size_al] at hs161
  clear x155 x156 x157 x158
  have x170 := z162.c0
  have x171 := z162.c1
  have x172 := z164.c0
  have x173 := z164.c1
  go_wp2_with fail
  refine (heldQ a5 L.length c5 1 (w28.heap.size + 1) (w44.heap.size) _ hL (by omega) z166).mono ?_
  rintro e w174 ⟨rfl, hb175⟩
  have hs' := hb175.symm
  clear hb175
  subst hs'
  clear x170 x171 x172 x173
  clear z162
  clear z163
  clear z164
  clear z165
  clear z166
  clear z167
  clear z168
  go_wp2
  go_ret
  exact ⟨rfl, hB169⟩
set_option maxHeartbeats 400000 in
theorem mostLaw_long (W : Int) (a : Option Addr) (n c : Nat) (p : Int) (w : World) (h : 1048576 < n) (hn : n ≤ 9223372036854775807) :
    Calls Try.prog 5 #[cel W a n c, .int .i64 p] w fun e w' => e = .returned (.bool true) ∧ Below w.heap.size w w' := by
  have hB0 : Below w.heap.size w (w.alloc (celO W a n c 24)) := (Below.refl _ _).alloc (Nat.le_refl _) _
  go_enter Try.func5, Try.ntmps5
  go_wp2_with fail
  refine (szCells_out W a n c _ h hn).mono ?_
  rintro e w1 ⟨rfl, hb1⟩
  have hB1 := stepA hB0 hb1
  go_wp2
  go_ret
  exact ⟨rfl, hB1⟩
theorem mostAll (W : Int) (a : Option Addr) (n c : Nat) (f : Nat → Int) (p : Int) (w : World) (hn : n ≤ 9223372036854775807) (hf : IL w a n f) :
    Calls Try.prog 5 #[cel W a n c, .int .i64 p] w fun e w' => e = .returned (.bool true) ∧ Below w.heap.size w w' := by
  by_cases h : n ≤ 1048576
  · exact mostLaw W a n c f p w h hf
  · exact mostLaw_long W a n c p w (by omega) hn
end Go.Proofs.Ytfciecoigfnnhab
