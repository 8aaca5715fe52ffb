/- The walk of the law on RunUrgent (tools/gen_pnlaw.py). -/
import Derived.Test.YtnadedncjbibhaaPnRunT
import Derived.Test.YtnadedncjbibhaaPnPlayA
import Derived.Test.YtnadedncjbibhaaPnSlH
import Derived.Test.YtnadedncjbibhaaPnChM
import Derived.Test.YtnadedncjbibhaaLqMark
namespace Go.Proofs.Ytnadedncjbibhaa
open Go.RowKit
theorem rnM_le (ur : Bool) (n : Nat) (F : Nat → Int) (m : Nat) (f : Nat → Int) (u : Int) : rnM ur n F m f u ≤ 2000 := by
  unfold rnM
  split
  · rename_i h
    unfold okR at h
    simp only [Bool.and_eq_true, decide_eq_true_eq] at h
    obtain ⟨h1, h2, h3, h4, h5⟩ := h
    subst h2
    have := (pk_run ur (gcV_gc h1) h3 u.toNat (by omega)).mt
    omega
  · omega
set_option maxRecDepth 20000 in
set_option maxHeartbeats 8000000 in
theorem urgLaw (a b : Option Addr) (n c m d : Nat) (F f : Nat → Int) (u : Int) (w : World) (hn : n ≤ 1048576) (hm : m ≤ 1048576) (hf : IL w a (n * 3) F) (hg : IL w b m f) :
    Calls Try.prog 8 #[.slice a n c, .slice b m d, .int .i64 u] w fun e w' => e = .returned (.bool true) ∧ Below w.heap.size w w' := by
  have hM : rnM true n F m f u ≤ 2000 := rnM_le _ _ _ _ _ _
  have hN : rnN n F m f u ≤ 1048576 := by unfold rnN; split <;> omega
  have hS := fun a b c d w h h2 => sRunUrgent a b n c m d F f u w hm h h2
  have hI := fun a b c d w h h2 => iRunUrgent a b n c m d F f u w h h2
  unfold AnsPy at hS hI
  generalize rnM true n F m f u = M at hS hI hM
  generalize rnG true n F f u = G at hS hI
  generalize rnN n F m f u = N at hS hI hN
  generalize rnW true n F f u = W at hS hI
  generalize okR n F m f u = V at hS hI
  have hM : M ≤ 1048576 := by omega
  have j : ¬ (1048576 : Int) < (m : Int) := by omega
  have j1 : ¬ (1 : Int) + ((n * 3 : Nat) : Int) + (m : Int) < 0 := by omega
  have j2 : ¬ (1 : Int) + ((M * 3 : Nat) : Int) < 0 := by omega
  have j3 : ¬ (1 : Int) + ((M * 3 : Nat) : Int) + (N : Int) < 0 := by omega
  have j0 : ¬ (1048576 : Int) - (n : Int) < 0 := by omega
  go_enter Try.func8, Try.ntmps8
  have hB0 := Below.refl w.heap.size w
  go_wp2_with fail
  refine (szChore_in a n c 1048576 _ (by omega) (by omega)).mono ?_
  rintro e w1 ⟨rfl, hb2⟩
  have hs' := hb2.symm
  clear hb2
  subst hs'
  go_wp2_with fail
  refine (toChoreS_any a n c F _ hn (hf.below hB0)).mono ?_
  rintro e w3 ⟨rfl, hQ2, hQ2s, hb4⟩
  have hs5 := hb4.size
  have hB6 := stepA hB0 hb4
  clear hB0 hb4
  try simp only [size_al] at hs5
  try simp only [size_al] at hQ2 hQ2s
  go_wp2_with fail
  refine (copyQ b m d f _ hm (hg.below hB6)).mono ?_
  rintro e w7 ⟨rfl, hQ3, hQ3s, hb8⟩
  have hs9 := hb8.size
  have z10 := hQ2.on hb8
  clear hQ2
  have hB11 := stepA hB6 hb8
  clear hB6 hb8
  try simp only [size_al] at hs9
  try simp only [size_al] at hQ3 hQ3s
  go_wp2_with fail
  refine (hS _ _ _ _ _ z10.il hQ3.il).mono ?_
  rintro e w12 ⟨⟨a3, c3, b3, d3, X3, rfl, hX3, hY3, hA3, hK3⟩, hb13⟩
  have hs14 := hb13.size
  have z15 := z10.on hb13
  have z16 := hQ3.on hb13
  clear z10 hQ3
  have hB17 := stepA hB11 hb13
  clear hB11 hb13
  try simp only [size_al] at hs14
  try simp only [size_al] at hX3 hY3 hA3 hK3
  clear z15
  clear z16
  go_wp2_with fail
  refine (toChoreS_any a n c F _ hn (hf.below hB17)).mono ?_
  rintro e w18 ⟨rfl, hQ4, hQ4s, hb19⟩
  have hs20 := hb19.size
  have z21 := hA3.on hb19
  have z22 := hK3.on hb19
  clear hA3 hK3
  have hB23 := stepA hB17 hb19
  clear hB17 hb19
  try simp only [size_al] at hs20
  try simp only [size_al] at hQ4 hQ4s
  go_wp2_with fail
  refine (copyQ b m d f _ hm (hg.below hB23)).mono ?_
  rintro e w24 ⟨rfl, hQ5, hQ5s, hb25⟩
  have hs26 := hb25.size
  have z27 := z21.on hb25
  have z28 := z22.on hb25
  have z29 := hQ4.on hb25
  clear z21 z22 hQ4
  have hB30 := stepA hB23 hb25
  clear hB23 hb25
  try simp only [size_al] at hs26
  try simp only [size_al] at hQ5 hQ5s
  go_wp2_with fail
  refine (hI _ _ _ _ _ z29.il hQ5.il).mono ?_
  rintro e w31 ⟨⟨a5, c5, b5, d5, X5, rfl, hX5, hY5, hA5, hK5⟩, hb32⟩
  have hs33 := hb32.size
  have z34 := z27.on hb32
  have z35 := z28.on hb32
  have z36 := z29.on hb32
  have z37 := hQ5.on hb32
  clear z27 z28 z29 hQ5
  have hB38 := stepA hB30 hb32
  clear hB30 hb32
  try simp only [size_al] at hs33
  try simp only [size_al] at hX5 hY5 hA5 hK5
  go_wp2_with fail
  refine (eqSliceS_any a5 a3 M c5 c3 G _ hM hA5.il z34.il).mono ?_
  rintro e w39 ⟨rfl, hb40⟩
  have hs41 := hb40.size
  have z42 := z34.on hb40
  have z43 := z35.on hb40
  have z44 := z36.on hb40
  have z45 := z37.on hb40
  have z46 := hA5.on hb40
  have z47 := hK5.on hb40
  clear z34 z35 z36 z37 hA5 hK5
  have hB48 := stepA hB38 hb40
  clear hB38 hb40
  try simp only [size_al] at hs41
  go_wp2_with fail
  refine (eqI_any b5 b3 N d5 d3 W _ hN z47.il z43.il).mono ?_
  rintro e w49 ⟨rfl, hb50⟩
  have hs51 := hb50.size
  have z52 := z42.on hb50
  have z53 := z43.on hb50
  have z54 := z44.on hb50
  have z55 := z45.on hb50
  have z56 := z46.on hb50
  have z57 := z47.on hb50
  clear z42 z43 z44 z45 z46 z47
  have hB58 := stepA hB48 hb50
  clear hB48 hb50
  try simp only [size_al] at hs51
  cases V with
  | true =>
    go_wp2_with fail
    refine (toChoreS_any a n c F _ hn (hf.below hB58)).mono ?_
    rintro e w59 ⟨rfl, hQ6, hQ6s, hb60⟩
    have hs61 := hb60.size
    have z62 := z52.on hb60
    have z63 := z53.on hb60
    have z64 := z54.on hb60
    have z65 := z55.on hb60
    have z66 := z56.on hb60
    have z67 := z57.on hb60
    clear z52 z53 z54 z55 z56 z57
    have hB68 := stepA hB58 hb60
    clear hB58 hb60
    try simp only [size_al] at hs61
    try simp only [size_al] at hQ6 hQ6s
    go_wp2_with fail
    refine (eqChoreS_any (some ⟨w12.heap.size, 0, none⟩) (some ⟨w49.heap.size, 0, none⟩) n n n F _ hn z64.il hQ6.il).mono ?_
    rintro e w69 ⟨rfl, hb70⟩
    have hs71 := hb70.size
    have z72 := z62.on hb70
    have z73 := z63.on hb70
    have z74 := z64.on hb70
    have z75 := z65.on hb70
    have z76 := z66.on hb70
    have z77 := z67.on hb70
    have z78 := hQ6.on hb70
    clear z62 z63 z64 z65 z66 z67 hQ6
    have hB79 := stepA hB68 hb70
    clear hB68 hb70
    try simp only [size_al] at hs71
    clear z78
    go_wp2_with fail
    refine (copyQ b m d f _ hm (hg.below hB79)).mono ?_
    rintro e w80 ⟨rfl, hQ7, hQ7s, hb81⟩
    have hs82 := hb81.size
    have z83 := z72.on hb81
    have z84 := z73.on hb81
    have z85 := z74.on hb81
    have z86 := z75.on hb81
    have z87 := z76.on hb81
    have z88 := z77.on hb81
    clear z72 z73 z74 z75 z76 z77
    have hB89 := stepA hB79 hb81
    clear hB79 hb81
    try simp only [size_al] at hs82
    try simp only [size_al] at hQ7 hQ7s
    go_wp2_with fail
    refine (eqI_any (some ⟨w18.heap.size, 0, none⟩) (some ⟨w69.heap.size, 0, none⟩) m m m f _ hm z86.il hQ7.il).mono ?_
    rintro e w90 ⟨rfl, hb91⟩
    have hs92 := hb91.size
    have z93 := z83.on hb91
    have z94 := z84.on hb91
    have z95 := z85.on hb91
    have z96 := z86.on hb91
    have z97 := z87.on hb91
    have z98 := z88.on hb91
    have z99 := hQ7.on hb91
    clear z83 z84 z85 z86 z87 z88 hQ7
    have hB100 := stepA hB89 hb91
    clear hB89 hb91
    try simp only [size_al] at hs92
    clear z99
    go_wp2_with fail
    refine (markChoreT (some ⟨w12.heap.size, 0, none⟩) n n (1) (w12.heap.size) (w12.heap.size + 1) F _ hn (by omega) z95).mono ?_
    rintro e w101 ⟨rfl, z103, ht102⟩
    have hs104 := ht102.size
    try simp only [size_al] at hs104
    have z105 := z93.turns ht102 (by first | omega | (simp only [size_al]; omega))
    have z106 := z94.turns ht102 (by first | omega | (simp only [size_al]; omega))
    have z107 := z96.turns ht102 (by first | omega | (simp only [size_al]; omega))
    have z108 := z97.turns ht102 (by first | omega | (simp only [size_al]; omega))
    have z109 := z98.turns ht102 (by first | omega | (simp only [size_al]; omega))
    clear z93 z94 z96 z97 z98
    have hB110 := hB100.trans (ht102.below (by omega) (by first | omega | (simp only [size_al]; omega)))
    clear hB100 ht102 z95
    go_wp2_with fail
    refine (markZ (some ⟨w18.heap.size, 0, none⟩) m m ((1 : Int) + ((n * 3 : Nat) : Int)) (w18.heap.size) (w18.heap.size + 1) f _ hm (by omega) (by omega) z107).mono ?_
    rintro e w111 ⟨rfl, z113, ht112⟩
    have hs114 := ht112.size
    try simp only [size_al] at hs114
    have z115 := z105.turns ht112 (by first | omega | (simp only [size_al]; omega))
    have z116 := z106.turns ht112 (by first | omega | (simp only [size_al]; omega))
    have z117 := z108.turns ht112 (by first | omega | (simp only [size_al]; omega))
    have z118 := z109.turns ht112 (by first | omega | (simp only [size_al]; omega))
    have z119 := z103.turns ht112 (by first | omega | (simp only [size_al]; omega))
    clear z105 z106 z108 z109 z103
    have hB120 := hB110.trans (ht112.below (by omega) (by first | omega | (simp only [size_al]; omega)))
    clear hB110 ht112 z107
    go_wp2_with fail
    refine (eqSliceS_any a5 a3 M c5 c3 G _ hM z117.il z115.il).mono ?_
    rintro e w121 ⟨rfl, hb122⟩
    have hs123 := hb122.size
    have z124 := z115.on hb122
    have z125 := z116.on hb122
    have z126 := z117.on hb122
    have z127 := z118.on hb122
    have z128 := z119.on hb122
    have z129 := z113.on hb122
    clear z115 z116 z117 z118 z119 z113
    have hB130 := stepA hB120 hb122
    clear hB120 hb122
    try simp only [size_al] at hs123
    go_wp2_with fail
    refine (eqI_any b5 b3 N d5 d3 W _ hN z127.il z125.il).mono ?_
    rintro e w131 ⟨rfl, hb132⟩
    have hs133 := hb132.size
    have z134 := z124.on hb132
    have z135 := z125.on hb132
    have z136 := z126.on hb132
    have z137 := z127.on hb132
    have z138 := z128.on hb132
    have z139 := z129.on hb132
    clear z124 z125 z126 z127 z128 z129
    have hB140 := stepA hB130 hb132
    clear hB130 hb132
    try simp only [size_al] at hs133
    go_wp2_with fail
    refine (markSliceT a5 M c5 1 (X5) (w31.heap.size) G _ hM (by omega) z136).mono ?_
    rintro e w141 ⟨rfl, z143, ht142⟩
    have hs144 := ht142.size
    try simp only [size_al] at hs144
    have z145 := z134.turns ht142 (by first | omega | (simp only [size_al]; omega))
    have z146 := z135.turns ht142 (by first | omega | (simp only [size_al]; omega))
    have z147 := z137.turns ht142 (by first | omega | (simp only [size_al]; omega))
    have z148 := z138.turns ht142 (by first | omega | (simp only [size_al]; omega))
    have z149 := z139.turns ht142 (by first | omega | (simp only [size_al]; omega))
    clear z134 z135 z137 z138 z139
    have hB150 := hB140.trans (ht142.below (by omega) (by first | omega | (simp only [size_al]; omega)))
    clear hB140 ht142 z136
    go_wp2_with fail
    refine (markZ b5 N d5 ((1 : Int) + ((M * 3 : Nat) : Int)) (w24.heap.size) (X5) W _ hN (by omega) (by omega) z147).mono ?_
    rintro e w151 ⟨rfl, z153, ht152⟩
    have hs154 := ht152.size
    try simp only [size_al] at hs154
    have z155 := z145.turns ht152 (by first | omega | (simp only [size_al]; omega))
    have z156 := z146.turns ht152 (by first | omega | (simp only [size_al]; omega))
    have z157 := z148.turns ht152 (by first | omega | (simp only [size_al]; omega))
    have z158 := z149.turns ht152 (by first | omega | (simp only [size_al]; omega))
    have z159 := z143.turns ht152 (by first | omega | (simp only [size_al]; omega))
    clear z145 z146 z148 z149 z143
    have hB160 := hB150.trans (ht152.below (by omega) (by first | omega | (simp only [size_al]; omega)))
    clear hB150 ht152 z147
    go_wp2_with fail
    refine (heldSliceT a5 M c5 1 (X5) (w31.heap.size) _ hM (by omega) z159).mono ?_
    rintro e w161 ⟨rfl, hb162⟩
    have hs' := hb162.symm
    clear hb162
    subst hs'
    go_wp2_with fail
    refine (heldZ b5 N d5 ((1 : Int) + ((M * 3 : Nat) : Int)) (w24.heap.size) (X5) _ hN (by omega) (by omega) z153).mono ?_
    rintro e w163 ⟨rfl, hb164⟩
    have hs' := hb164.symm
    clear hb164
    subst hs'
    go_wp2_with fail
    refine (toChoreS_any a n c F _ hn (hf.below hB160)).mono ?_
    rintro e w165 ⟨rfl, hQ8, hQ8s, hb166⟩
    have hs167 := hb166.size
    have z168 := z155.on hb166
    have z169 := z156.on hb166
    have z170 := z157.on hb166
    have z171 := z158.on hb166
    have z172 := z159.on hb166
    have z173 := z153.on hb166
    clear z155 z156 z157 z158 z159 z153
    have hB174 := stepA hB160 hb166
    clear hB160 hb166
    try simp only [size_al] at hs167
    try simp only [size_al] at hQ8 hQ8s
    go_wp2_with fail
    refine (copyQ b m d f _ hm (hg.below hB174)).mono ?_
    rintro e w175 ⟨rfl, hQ9, hQ9s, hb176⟩
    have hs177 := hb176.size
    have z178 := z168.on hb176
    have z179 := z169.on hb176
    have z180 := z170.on hb176
    have z181 := z171.on hb176
    have z182 := z172.on hb176
    have z183 := z173.on hb176
    have z184 := hQ8.on hb176
    clear z168 z169 z170 z171 z172 z173 hQ8
    have hB185 := stepA hB174 hb176
    clear hB174 hb176
    try simp only [size_al] at hs177
    try simp only [size_al] at hQ9 hQ9s
    go_wp2_with fail
    refine (hI _ _ _ _ _ z184.il hQ9.il).mono ?_
    rintro e w186 ⟨⟨a8, c8, b8, d8, X8, rfl, hX8, hY8, hA8, hK8⟩, hb187⟩
    have hs188 := hb187.size
    have z189 := z178.on hb187
    have z190 := z179.on hb187
    have z191 := z180.on hb187
    have z192 := z181.on hb187
    have z193 := z182.on hb187
    have z194 := z183.on hb187
    have z195 := z184.on hb187
    have z196 := hQ9.on hb187
    clear z178 z179 z180 z181 z182 z183 z184 hQ9
    have hB197 := stepA hB185 hb187
    clear hB185 hb187
    try simp only [size_al] at hs188
    try simp only [size_al] at hX8 hY8 hA8 hK8
    go_wp2_with fail
    refine (eqSliceS_any a8 a3 M c8 c3 G _ hM hA8.il z189.il).mono ?_
    rintro e w198 ⟨rfl, hb199⟩
    have hs200 := hb199.size
    have z201 := z189.on hb199
    have z202 := z190.on hb199
    have z203 := z191.on hb199
    have z204 := z192.on hb199
    have z205 := z193.on hb199
    have z206 := z194.on hb199
    have z207 := z195.on hb199
    have z208 := z196.on hb199
    have z209 := hA8.on hb199
    have z210 := hK8.on hb199
    clear z189 z190 z191 z192 z193 z194 z195 z196 hA8 hK8
    have hB211 := stepA hB197 hb199
    clear hB197 hb199
    try simp only [size_al] at hs200
    go_wp2_with fail
    refine (eqI_any b8 b3 N d8 d3 W _ hN z210.il z202.il).mono ?_
    rintro e w212 ⟨rfl, hb213⟩
    have hs214 := hb213.size
    have z215 := z201.on hb213
    have z216 := z202.on hb213
    have z217 := z203.on hb213
    have z218 := z204.on hb213
    have z219 := z205.on hb213
    have z220 := z206.on hb213
    have z221 := z207.on hb213
    have z222 := z208.on hb213
    have z223 := z209.on hb213
    have z224 := z210.on hb213
    clear z201 z202 z203 z204 z205 z206 z207 z208 z209 z210
    have hB225 := stepA hB211 hb213
    clear hB211 hb213
    try simp only [size_al] at hs214
    go_wp2_with fail
    refine (heldSliceT a5 M c5 1 (X5) (w31.heap.size) _ hM (by omega) z219).mono ?_
    rintro e w226 ⟨rfl, hb227⟩
    have hs' := hb227.symm
    clear hb227
    subst hs'
    go_wp2_with fail
    refine (heldZ b5 N d5 ((1 : Int) + ((M * 3 : Nat) : Int)) (w24.heap.size) (X5) _ hN (by omega) (by omega) z220).mono ?_
    rintro e w228 ⟨rfl, hb229⟩
    have hs' := hb229.symm
    clear hb229
    subst hs'
    clear z215
    clear z216
    clear z217
    clear z218
    clear z219
    clear z220
    clear z221
    clear z222
    clear z223
    clear z224
    go_wp2
    go_ret
    exact ⟨rfl, hB225⟩
  | false =>
    go_wp2_with fail
    refine (toChoreS_any a n c F _ hn (hf.below hB58)).mono ?_
    rintro e w59 ⟨rfl, hQ6, hQ6s, hb60⟩
    have hs61 := hb60.size
    have z62 := z52.on hb60
    have z63 := z53.on hb60
    have z64 := z54.on hb60
    have z65 := z55.on hb60
    have z66 := z56.on hb60
    have z67 := z57.on hb60
    clear z52 z53 z54 z55 z56 z57
    have hB68 := stepA hB58 hb60
    clear hB58 hb60
    try simp only [size_al] at hs61
    try simp only [size_al] at hQ6 hQ6s
    go_wp2_with fail
    refine (eqChoreS_any (some ⟨w12.heap.size, 0, none⟩) (some ⟨w49.heap.size, 0, none⟩) n n n F _ hn z64.il hQ6.il).mono ?_
    rintro e w69 ⟨rfl, hb70⟩
    have hs71 := hb70.size
    have z72 := z62.on hb70
    have z73 := z63.on hb70
    have z74 := z64.on hb70
    have z75 := z65.on hb70
    have z76 := z66.on hb70
    have z77 := z67.on hb70
    have z78 := hQ6.on hb70
    clear z62 z63 z64 z65 z66 z67 hQ6
    have hB79 := stepA hB68 hb70
    clear hB68 hb70
    try simp only [size_al] at hs71
    clear z78
    go_wp2_with fail
    refine (copyQ b m d f _ hm (hg.below hB79)).mono ?_
    rintro e w80 ⟨rfl, hQ7, hQ7s, hb81⟩
    have hs82 := hb81.size
    have z83 := z72.on hb81
    have z84 := z73.on hb81
    have z85 := z74.on hb81
    have z86 := z75.on hb81
    have z87 := z76.on hb81
    have z88 := z77.on hb81
    clear z72 z73 z74 z75 z76 z77
    have hB89 := stepA hB79 hb81
    clear hB79 hb81
    try simp only [size_al] at hs82
    try simp only [size_al] at hQ7 hQ7s
    go_wp2_with fail
    refine (eqI_any (some ⟨w18.heap.size, 0, none⟩) (some ⟨w69.heap.size, 0, none⟩) m m m f _ hm z86.il hQ7.il).mono ?_
    rintro e w90 ⟨rfl, hb91⟩
    have hs92 := hb91.size
    have z93 := z83.on hb91
    have z94 := z84.on hb91
    have z95 := z85.on hb91
    have z96 := z86.on hb91
    have z97 := z87.on hb91
    have z98 := z88.on hb91
    have z99 := hQ7.on hb91
    clear z83 z84 z85 z86 z87 z88 hQ7
    have hB100 := stepA hB89 hb91
    clear hB89 hb91
    try simp only [size_al] at hs92
    clear z99
    go_wp2_with fail
    refine (markChoreT (some ⟨w12.heap.size, 0, none⟩) n n (1) (w12.heap.size) (w12.heap.size + 1) F _ hn (by omega) z95).mono ?_
    rintro e w101 ⟨rfl, z103, ht102⟩
    have hs104 := ht102.size
    try simp only [size_al] at hs104
    have z105 := z93.turns ht102 (by first | omega | (simp only [size_al]; omega))
    have z106 := z94.turns ht102 (by first | omega | (simp only [size_al]; omega))
    have z107 := z96.turns ht102 (by first | omega | (simp only [size_al]; omega))
    have z108 := z97.turns ht102 (by first | omega | (simp only [size_al]; omega))
    have z109 := z98.turns ht102 (by first | omega | (simp only [size_al]; omega))
    clear z93 z94 z96 z97 z98
    have hB110 := hB100.trans (ht102.below (by omega) (by first | omega | (simp only [size_al]; omega)))
    clear hB100 ht102 z95
    go_wp2_with fail
    refine (markZ (some ⟨w18.heap.size, 0, none⟩) m m ((1 : Int) + ((n * 3 : Nat) : Int)) (w18.heap.size) (w18.heap.size + 1) f _ hm (by omega) (by omega) z107).mono ?_
    rintro e w111 ⟨rfl, z113, ht112⟩
    have hs114 := ht112.size
    try simp only [size_al] at hs114
    have z115 := z105.turns ht112 (by first | omega | (simp only [size_al]; omega))
    have z116 := z106.turns ht112 (by first | omega | (simp only [size_al]; omega))
    have z117 := z108.turns ht112 (by first | omega | (simp only [size_al]; omega))
    have z118 := z109.turns ht112 (by first | omega | (simp only [size_al]; omega))
    have z119 := z103.turns ht112 (by first | omega | (simp only [size_al]; omega))
    clear z105 z106 z108 z109 z103
    have hB120 := hB110.trans (ht112.below (by omega) (by first | omega | (simp only [size_al]; omega)))
    clear hB110 ht112 z107
    go_wp2_with fail
    refine (eqSliceS_any a5 a3 M c5 c3 G _ hM z117.il z115.il).mono ?_
    rintro e w121 ⟨rfl, hb122⟩
    have hs123 := hb122.size
    have z124 := z115.on hb122
    have z125 := z116.on hb122
    have z126 := z117.on hb122
    have z127 := z118.on hb122
    have z128 := z119.on hb122
    have z129 := z113.on hb122
    clear z115 z116 z117 z118 z119 z113
    have hB130 := stepA hB120 hb122
    clear hB120 hb122
    try simp only [size_al] at hs123
    go_wp2_with fail
    refine (eqI_any b5 b3 N d5 d3 W _ hN z127.il z125.il).mono ?_
    rintro e w131 ⟨rfl, hb132⟩
    have hs133 := hb132.size
    have z134 := z124.on hb132
    have z135 := z125.on hb132
    have z136 := z126.on hb132
    have z137 := z127.on hb132
    have z138 := z128.on hb132
    have z139 := z129.on hb132
    clear z124 z125 z126 z127 z128 z129
    have hB140 := stepA hB130 hb132
    clear hB130 hb132
    try simp only [size_al] at hs133
    go_wp2_with fail
    refine (markSliceT a5 M c5 1 (X5) (w31.heap.size) G _ hM (by omega) z136).mono ?_
    rintro e w141 ⟨rfl, z143, ht142⟩
    have hs144 := ht142.size
    try simp only [size_al] at hs144
    have z145 := z134.turns ht142 (by first | omega | (simp only [size_al]; omega))
    have z146 := z135.turns ht142 (by first | omega | (simp only [size_al]; omega))
    have z147 := z137.turns ht142 (by first | omega | (simp only [size_al]; omega))
    have z148 := z138.turns ht142 (by first | omega | (simp only [size_al]; omega))
    have z149 := z139.turns ht142 (by first | omega | (simp only [size_al]; omega))
    clear z134 z135 z137 z138 z139
    have hB150 := hB140.trans (ht142.below (by omega) (by first | omega | (simp only [size_al]; omega)))
    clear hB140 ht142 z136
    go_wp2_with fail
    refine (markZ b5 N d5 ((1 : Int) + ((M * 3 : Nat) : Int)) (w24.heap.size) (X5) W _ hN (by omega) (by omega) z147).mono ?_
    rintro e w151 ⟨rfl, z153, ht152⟩
    have hs154 := ht152.size
    try simp only [size_al] at hs154
    have z155 := z145.turns ht152 (by first | omega | (simp only [size_al]; omega))
    have z156 := z146.turns ht152 (by first | omega | (simp only [size_al]; omega))
    have z157 := z148.turns ht152 (by first | omega | (simp only [size_al]; omega))
    have z158 := z149.turns ht152 (by first | omega | (simp only [size_al]; omega))
    have z159 := z143.turns ht152 (by first | omega | (simp only [size_al]; omega))
    clear z145 z146 z148 z149 z143
    have hB160 := hB150.trans (ht152.below (by omega) (by first | omega | (simp only [size_al]; omega)))
    clear hB150 ht152 z147
    go_wp2_with fail
    refine (heldSliceT a5 M c5 1 (X5) (w31.heap.size) _ hM (by omega) z159).mono ?_
    rintro e w161 ⟨rfl, hb162⟩
    have hs' := hb162.symm
    clear hb162
    subst hs'
    go_wp2_with fail
    refine (heldZ b5 N d5 ((1 : Int) + ((M * 3 : Nat) : Int)) (w24.heap.size) (X5) _ hN (by omega) (by omega) z153).mono ?_
    rintro e w163 ⟨rfl, hb164⟩
    have hs' := hb164.symm
    clear hb164
    subst hs'
    go_wp2_with fail
    refine (toChoreS_any a n c F _ hn (hf.below hB160)).mono ?_
    rintro e w165 ⟨rfl, hQ8, hQ8s, hb166⟩
    have hs167 := hb166.size
    have z168 := z155.on hb166
    have z169 := z156.on hb166
    have z170 := z157.on hb166
    have z171 := z158.on hb166
    have z172 := z159.on hb166
    have z173 := z153.on hb166
    clear z155 z156 z157 z158 z159 z153
    have hB174 := stepA hB160 hb166
    clear hB160 hb166
    try simp only [size_al] at hs167
    try simp only [size_al] at hQ8 hQ8s
    go_wp2_with fail
    refine (copyQ b m d f _ hm (hg.below hB174)).mono ?_
    rintro e w175 ⟨rfl, hQ9, hQ9s, hb176⟩
    have hs177 := hb176.size
    have z178 := z168.on hb176
    have z179 := z169.on hb176
    have z180 := z170.on hb176
    have z181 := z171.on hb176
    have z182 := z172.on hb176
    have z183 := z173.on hb176
    have z184 := hQ8.on hb176
    clear z168 z169 z170 z171 z172 z173 hQ8
    have hB185 := stepA hB174 hb176
    clear hB174 hb176
    try simp only [size_al] at hs177
    try simp only [size_al] at hQ9 hQ9s
    go_wp2_with fail
    refine (hI _ _ _ _ _ z184.il hQ9.il).mono ?_
    rintro e w186 ⟨⟨a8, c8, b8, d8, X8, rfl, hX8, hY8, hA8, hK8⟩, hb187⟩
    have hs188 := hb187.size
    have z189 := z178.on hb187
    have z190 := z179.on hb187
    have z191 := z180.on hb187
    have z192 := z181.on hb187
    have z193 := z182.on hb187
    have z194 := z183.on hb187
    have z195 := z184.on hb187
    have z196 := hQ9.on hb187
    clear z178 z179 z180 z181 z182 z183 z184 hQ9
    have hB197 := stepA hB185 hb187
    clear hB185 hb187
    try simp only [size_al] at hs188
    try simp only [size_al] at hX8 hY8 hA8 hK8
    go_wp2_with fail
    refine (eqSliceS_any a8 a3 M c8 c3 G _ hM hA8.il z189.il).mono ?_
    rintro e w198 ⟨rfl, hb199⟩
    have hs200 := hb199.size
    have z201 := z189.on hb199
    have z202 := z190.on hb199
    have z203 := z191.on hb199
    have z204 := z192.on hb199
    have z205 := z193.on hb199
    have z206 := z194.on hb199
    have z207 := z195.on hb199
    have z208 := z196.on hb199
    have z209 := hA8.on hb199
    have z210 := hK8.on hb199
    clear z189 z190 z191 z192 z193 z194 z195 z196 hA8 hK8
    have hB211 := stepA hB197 hb199
    clear hB197 hb199
    try simp only [size_al] at hs200
    go_wp2_with fail
    refine (eqI_any b8 b3 N d8 d3 W _ hN z210.il z202.il).mono ?_
    rintro e w212 ⟨rfl, hb213⟩
    have hs214 := hb213.size
    have z215 := z201.on hb213
    have z216 := z202.on hb213
    have z217 := z203.on hb213
    have z218 := z204.on hb213
    have z219 := z205.on hb213
    have z220 := z206.on hb213
    have z221 := z207.on hb213
    have z222 := z208.on hb213
    have z223 := z209.on hb213
    have z224 := z210.on hb213
    clear z201 z202 z203 z204 z205 z206 z207 z208 z209 z210
    have hB225 := stepA hB211 hb213
    clear hB211 hb213
    try simp only [size_al] at hs214
    go_wp2_with fail
    refine (heldSliceT a5 M c5 1 (X5) (w31.heap.size) _ hM (by omega) z219).mono ?_
    rintro e w226 ⟨rfl, hb227⟩
    have hs' := hb227.symm
    clear hb227
    subst hs'
    go_wp2_with fail
    refine (heldZ b5 N d5 ((1 : Int) + ((M * 3 : Nat) : Int)) (w24.heap.size) (X5) _ hN (by omega) (by omega) z220).mono ?_
    rintro e w228 ⟨rfl, hb229⟩
    have hs' := hb229.symm
    clear hb229
    subst hs'
    clear z215
    clear z216
    clear z217
    clear z218
    clear z219
    clear z220
    clear z221
    clear z222
    clear z223
    clear z224
    go_wp2
    go_ret
    exact ⟨rfl, hB225⟩
set_option maxHeartbeats 400000 in
theorem urgLong (a : Option Addr) (n c : Nat) (b : Option Addr) (m d : Nat) (u : Int) (w : World) (hm2 : m ≤ 1048576) (h : 1048576 < n) (hm : n ≤ 9223372036854775807) :
    Calls Try.prog 8 #[.slice a n c, .slice b m d, .int .i64 u] w fun e w' => e = .returned (.bool true) ∧ Below w.heap.size w w' := by
  have j : ¬ (1048576 : Int) < (m : Int) := by omega
  go_enter Try.func8, Try.ntmps8
  go_wp2_with fail
  refine (szChore_out a n c 1048576 _ (by omega) (by omega) (by omega) hm).mono ?_
  rintro e w' ⟨rfl, hw⟩
  have hs := hw.symm
  clear hw
  subst hs
  go_wp2
  go_ret
  exact ⟨rfl, Below.refl _ _⟩
set_option maxHeartbeats 400000 in
theorem urgLong2 (a b : Option Addr) (n c m d : Nat) (u : Int) (w : World) (h : 1048576 < m) :
    Calls Try.prog 8 #[.slice a n c, .slice b m d, .int .i64 u] w fun e w' => e = .returned (.bool true) ∧ Below w.heap.size w w' := by
  have j : (1048576 : Int) < (m : Int) := by omega
  go_enter Try.func8, Try.ntmps8
  go_wp2
  go_ret
  exact ⟨rfl, Below.refl _ _⟩
theorem urgAll (a b : Option Addr) (n c m d : Nat) (F f : Nat → Int) (u : Int) (w : World) (hmx : n ≤ 9223372036854775807) (hf : IL w a (n * 3) F) (hg : IL w b m f) :
    Calls Try.prog 8 #[.slice a n c, .slice b m d, .int .i64 u] w fun e w' => e = .returned (.bool true) ∧ Below w.heap.size w w' := by
  by_cases h2 : m ≤ 1048576
  · by_cases h : n ≤ 1048576
    · exact urgLaw a b n c m d F f u w h h2 hf hg
    · exact urgLong a n c b m d u w h2 (by omega) hmx
  · exact urgLong2 a b n c m d u w (by omega)
end Go.Proofs.Ytnadedncjbibhaa
