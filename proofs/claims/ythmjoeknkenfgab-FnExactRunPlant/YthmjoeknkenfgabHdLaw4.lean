/- The law on RunPlant, walked. -/
import Derived.Test.YthmjoeknkenfgabHdPlS
import Derived.Test.YthmjoeknkenfgabLqMark
namespace Go.Proofs.Ythmjoeknkenfgab
open Go.RowKit

/-- a list that lies below block hi -/
def RL (w : World) (hi : Nat) (a : Option Addr) (n : Nat) (F : Nat → Int) : Prop := hi ≤ w.heap.size ∧ (0 < n → ∃ b off, a = some ⟨b, off, none⟩ ∧ b < hi ∧ ∀ i, i < n → w.cell? ⟨b, off + i, none⟩ = some (.int .i64 (F i)))
theorem rl_of {w : World} {a : Option Addr} {n : Nat} {F : Nat → Int} (h : IL w a n F) : RL w w.heap.size a n F := ⟨Nat.le_refl _, h⟩
theorem RL.il {w : World} {hi : Nat} {a : Option Addr} {n : Nat} {F : Nat → Int} (h : RL w hi a n F) : IL w a n F := fun h0 => by
  obtain ⟨b, off, e, h1, h2⟩ := h.2 h0
  exact ⟨b, off, e, Nat.lt_of_lt_of_le h1 h.1, h2⟩
theorem RL.on {w w' : World} {hi : Nat} {a : Option Addr} {n : Nat} {F : Nat → Int} (h : RL w hi a n F) (k : Below w.heap.size w w') : RL w' hi a n F :=
  ⟨Nat.le_trans h.1 k.size, fun h0 => by
    obtain ⟨b, off, e, h1, h2⟩ := h.2 h0
    exact ⟨b, off, e, h1, fun i hi => (k.cell (p := ⟨b, _, none⟩) (Nat.lt_of_lt_of_le h1 h.1)).trans (h2 i hi)⟩⟩
theorem RL.turns {w w' : World} {hi lo' hi' : Nat} {a : Option Addr} {n : Nat} {F : Nat → Int} (h : RL w hi a n F) (k : Turns lo' hi' w w') (hd : hi ≤ lo') : RL w' hi a n F :=
  ⟨Nat.le_trans h.1 k.size, fun h0 => by
    obtain ⟨b, off, e, h1, h2⟩ := h.2 h0
    exact ⟨b, off, e, h1, fun i hi => (cell_same (k.block b (Nat.lt_of_lt_of_le h1 h.1) (by omega)) _).trans (h2 i hi)⟩⟩
theorem plN_le (l : Lp) (m : Int) (n : Nat) (f : Nat → Int) : plN l m n f ≤ 60 := by
  unfold plN
  by_cases e : plB l m n f = true
  · rw [if_pos e]
    unfold plB at e
    simp only [Bool.and_eq_true, decide_eq_true_eq] at e
    exact e.1.2
  · rw [if_neg e]; omega
theorem implPl2 (l : Lp) (m : Int) (a : Option Addr) (n c : Nat) (f : Nat → Int) (w : World) (hA : IL w a n f) :
    Calls Try.prog 28 #[lv l, .int .i64 m, .slice a n c] w fun e w' => ∃ x c y d b1 b2, e = .returned (.tuple #[.slice x (plN l m n f) c, .slice y (plN l m n f) d, .bool (plB l m n f)]) ∧ LQ w' b1 (b1 + 1) x (plN l m n f) (plcF l m f) ∧ LQ w' b2 (b2 + 1) y (plN l m n f) (oupF l m f) ∧ b1 ≠ b2 ∧ w.heap.size ≤ b1 ∧ w.heap.size ≤ b2 ∧ Below w.heap.size w w' := by
  refine (implPl l m a n c f w hA).mono ?_
  rintro e w' ⟨⟨x, c, y, d, he, h1⟩, hb⟩
  by_cases h0 : 0 < plN l m n f
  · obtain ⟨b1, b2, rfl, rfl, h2, h3, h4, h5, h6⟩ := h1 h0
    exact ⟨_, c, _, d, b1, b2, he, lq_of h5 (Nat.le_refl _) (Nat.lt_succ_self _), lq_of h6 (Nat.le_refl _) (Nat.lt_succ_self _), h2, h3, h4, hb⟩
  · exact ⟨x, c, y, d, w.heap.size, w.heap.size + 1, he, fun h => absurd h h0, fun h => absurd h h0, by omega, by omega, by omega, hb⟩
theorem specPl2 (l : Lp) (m : Int) (a : Option Addr) (n c : Nat) (f : Nat → Int) (w : World) (hA : IL w a n f) :
    Calls Try.prog 27 #[lv l, .int .i64 m, .slice a n c] w fun e w' => ∃ x c y d, e = .returned (.tuple #[.slice x (plN l m n f) c, .slice y (plN l m n f) d, .bool (plB l m n f)]) ∧ RL w' w'.heap.size x (plN l m n f) (plcF l m f) ∧ RL w' w'.heap.size y (plN l m n f) (oupF l m f) ∧ Below w.heap.size w w' := by
  refine (specPl l m a n c f w hA).mono ?_
  rintro e w' ⟨⟨x, c, y, d, he, h1, h2⟩, hb⟩
  exact ⟨x, c, y, d, he, rl_of h1, rl_of h2, hb⟩

set_option maxHeartbeats 8000000 in
set_option maxRecDepth 40000 in
theorem plantLaw_in (l : Lp) (m : Int) (a : Option Addr) (n c : Nat) (f : Nat → Int) (w : World) (hn : n ≤ 1048576) (hA : IL w a n f) :
    Calls Try.prog 7 #[lv l, .int .i64 m, .slice a n c] w fun e w' => e = .returned (.bool true) ∧ Below w.heap.size w w' := by
  have hI := fun x c w h1 => implPl2 l m x n c f w h1
  have hS := fun x c w h1 => specPl2 l m x n c f w h1
  have hN := plN_le l m n f
  generalize plN l m n f = N at hI hS hN
  generalize plB l m n f = B at hI hS
  generalize plcF l m f = F at hI hS
  generalize oupF l m f = G at hI hS
  have hN2 : N ≤ 1048576 := by omega
  have j1 : (n : Int) ≤ 1048576 := by omega
  have hB0 := Below.refl w.heap.size w
  have z1 := bx_new (b := w.heap.size) (w := w) (lvs l) 23 (by first | rfl | simp only [size_al])
  have hx2 : Below w.heap.size w (w.alloc (.cells #[.int .i64 l.P, .int .i64 l.I, .int .i64 l.D, .int .i64 l.S, .int .i64 l.M, .int .i64 l.W, .int .i64 l.L] 23)) := (Below.refl _ _).alloc (Nat.le_refl _) _
  have hB3 := stepA hB0 hx2
  clear hB0 hx2
  go_enter Try.func7, Try.ntmps7
  obtain ⟨x4, x5, x6, x7, x8, x9, x10⟩ := loop_at z1
  go_wp2_with fail
  refine (toLoop_any l _).mono ?_
  rintro e w11 ⟨rfl, hb12⟩
  have hs13 := hb12.size
  have z14 := z1.on hb12
  clear z1
  have hB15 := stepA hB3 hb12
  clear hB3 hb12
  try simp only [size_al] at hs13
  clear x4 x5 x6 x7 x8 x9 x10
  obtain ⟨x18, x19, x20, x21, x22, x23, x24⟩ := loop_at z14
  go_wp2_with fail
  refine (copyQ a n c f _ hn (hA.below hB15)).mono ?_
  rintro e w25 ⟨rfl, z16, hs17, hb26⟩
  have hs27 := hb26.size
  have z28 := z14.on hb26
  clear z14
  have hB29 := stepA hB15 hb26
  clear hB15 hb26
  try simp only [size_al] at hs27
  try simp only [size_al] at z16
  clear x18 x19 x20 x21 x22 x23 x24
  obtain ⟨x36, x37, x38, x39, x40, x41, x42⟩ := loop_at z28
  go_wp2_with fail
  refine (hS (some ⟨w11.heap.size, 0, none⟩) n _ z16.il).mono ?_
  rintro e w43 ⟨ax30, cx31, ay32, cy33, rfl, z34, z35, hb44⟩
  have hs45 := hb44.size
  have z46 := z28.on hb44
  have z47 := z16.on hb44
  clear z28 z16
  have hB48 := stepA hB29 hb44
  clear hB29 hb44
  try simp only [size_al] at hs45
  clear z47
  clear x36 x37 x38 x39 x40 x41 x42
  obtain ⟨x51, x52, x53, x54, x55, x56, x57⟩ := loop_at z46
  go_wp2_with fail
  refine (copyQ a n c f _ hn (hA.below hB48)).mono ?_
  rintro e w58 ⟨rfl, z49, hs50, hb59⟩
  have hs60 := hb59.size
  have z61 := z46.on hb59
  have z62 := z34.on hb59
  have z63 := z35.on hb59
  clear z46 z34 z35
  have hB64 := stepA hB48 hb59
  clear hB48 hb59
  try simp only [size_al] at hs60
  try simp only [size_al] at z49
  clear x51 x52 x53 x54 x55 x56 x57
  obtain ⟨x65, x66, x67, x68, x69, x70, x71⟩ := loop_at z61
  go_wp2_with fail
  refine (toLoop_any l _).mono ?_
  rintro e w72 ⟨rfl, hb73⟩
  have hs74 := hb73.size
  have z75 := z61.on hb73
  have z76 := z62.on hb73
  have z77 := z63.on hb73
  have z78 := z49.on hb73
  clear z61 z62 z63 z49
  have hB79 := stepA hB64 hb73
  clear hB64 hb73
  try simp only [size_al] at hs74
  clear x65 x66 x67 x68 x69 x70 x71
  obtain ⟨x91, x92, x93, x94, x95, x96, x97⟩ := loop_at z75
  go_wp2_with fail
  refine (hI (some ⟨w43.heap.size, 0, none⟩) n _ z78.il).mono ?_
  rintro e w98 ⟨ax80, cx81, ay82, cy83, b84, b85, rfl, z86, z87, hr88, hr89, hr90, hb99⟩
  have hs100 := hb99.size
  have z101 := z75.on hb99
  have z102 := z76.on hb99
  have z103 := z77.on hb99
  have z104 := z78.on hb99
  clear z75 z76 z77 z78
  have hB105 := stepA hB79 hb99
  clear hB79 hb99
  try simp only [size_al] at hs100
  try simp only [size_al] at hr89 hr90
  clear x91 x92 x93 x94 x95 x96 x97
  obtain ⟨x106, x107, x108, x109, x110, x111, x112⟩ := loop_at z101
  go_wp2_with fail
  refine (eqI_any ax80 ax30 N cx81 cx31 F _ hN2 z86.il z102.il).mono ?_
  rintro e w113 ⟨rfl, hb114⟩
  have hs115 := hb114.size
  have z116 := z101.on hb114
  have z117 := z102.on hb114
  have z118 := z103.on hb114
  have z119 := z104.on hb114
  have z120 := z86.on hb114
  have z121 := z87.on hb114
  clear z101 z102 z103 z104 z86 z87
  have hB122 := stepA hB105 hb114
  clear hB105 hb114
  try simp only [size_al] at hs115
  clear x106 x107 x108 x109 x110 x111 x112
  obtain ⟨x123, x124, x125, x126, x127, x128, x129⟩ := loop_at z116
  go_wp2_with fail
  refine (eqI_any ay82 ay32 N cy83 cy33 G _ hN2 z121.il z118.il).mono ?_
  rintro e w130 ⟨rfl, hb131⟩
  have hs132 := hb131.size
  have z133 := z116.on hb131
  have z134 := z117.on hb131
  have z135 := z118.on hb131
  have z136 := z119.on hb131
  have z137 := z120.on hb131
  have z138 := z121.on hb131
  clear z116 z117 z118 z119 z120 z121
  have hB139 := stepA hB122 hb131
  clear hB122 hb131
  try simp only [size_al] at hs132
  clear x123 x124 x125 x126 x127 x128 x129
  obtain ⟨x142, x143, x144, x145, x146, x147, x148⟩ := loop_at z133
  go_wp2_with fail
  refine (copyQ a n c f _ hn (hA.below hB139)).mono ?_
  rintro e w149 ⟨rfl, z140, hs141, hb150⟩
  have hs151 := hb150.size
  have z152 := z133.on hb150
  have z153 := z134.on hb150
  have z154 := z135.on hb150
  have z155 := z136.on hb150
  have z156 := z137.on hb150
  have z157 := z138.on hb150
  clear z133 z134 z135 z136 z137 z138
  have hB158 := stepA hB139 hb150
  clear hB139 hb150
  try simp only [size_al] at hs151
  try simp only [size_al] at z140
  clear x142 x143 x144 x145 x146 x147 x148
  obtain ⟨x159, x160, x161, x162, x163, x164, x165⟩ := loop_at z152
  go_wp2_with fail
  refine (eqI_any (some ⟨w43.heap.size, 0, none⟩) (some ⟨w130.heap.size, 0, none⟩) n n n f _ hn z155.il z140.il).mono ?_
  rintro e w166 ⟨rfl, hb167⟩
  have hs168 := hb167.size
  have z169 := z152.on hb167
  have z170 := z153.on hb167
  have z171 := z154.on hb167
  have z172 := z155.on hb167
  have z173 := z156.on hb167
  have z174 := z157.on hb167
  have z175 := z140.on hb167
  clear z152 z153 z154 z155 z156 z157 z140
  have hB176 := stepA hB158 hb167
  clear hB158 hb167
  try simp only [size_al] at hs168
  clear z175
  clear x159 x160 x161 x162 x163 x164 x165
  obtain ⟨x177, x178, x179, x180, x181, x182, x183⟩ := loop_at z169
  go_wp2_with fail
  refine (markZ (some ⟨w43.heap.size, 0, none⟩) n n (1) (w43.heap.size) (w43.heap.size + 1) f _ hn (by omega) (by omega) z172).mono ?_
  rintro e w184 ⟨rfl, z186, ht185⟩
  have hs187 := ht185.size
  try simp only [size_al] at hs187
  have z188 := z169.turns ht185 (by first | omega | (simp only [size_al]; omega))
  have z189 := z170.turns ht185 (by first | omega | (simp only [size_al]; omega))
  have z190 := z171.turns ht185 (by first | omega | (simp only [size_al]; omega))
  have z191 := z173.turns ht185 (by first | omega | (simp only [size_al]; omega))
  have z192 := z174.turns ht185 (by first | omega | (simp only [size_al]; omega))
  clear z169 z170 z171 z173 z174
  have hB193 := hB176.trans (ht185.below (by omega) (by first | omega | (simp only [size_al]; omega)))
  clear hB176 ht185 z172
  clear z186
  have jk : ¬ 1 + (n : Int) < 0 := by omega
  clear x177 x178 x179 x180 x181 x182 x183
  obtain ⟨x194, x195, x196, x197, x198, x199, x200⟩ := loop_at z188
  go_wp2_with fail
  refine (eqI_any ax80 ax30 N cx81 cx31 F _ hN2 z191.il z189.il).mono ?_
  rintro e w201 ⟨rfl, hb202⟩
  have hs203 := hb202.size
  have z204 := z188.on hb202
  have z205 := z189.on hb202
  have z206 := z190.on hb202
  have z207 := z191.on hb202
  have z208 := z192.on hb202
  clear z188 z189 z190 z191 z192
  have hB209 := stepA hB193 hb202
  clear hB193 hb202
  try simp only [size_al] at hs203
  clear x194 x195 x196 x197 x198 x199 x200
  obtain ⟨x210, x211, x212, x213, x214, x215, x216⟩ := loop_at z204
  go_wp2_with fail
  refine (eqI_any ay82 ay32 N cy83 cy33 G _ hN2 z208.il z206.il).mono ?_
  rintro e w217 ⟨rfl, hb218⟩
  have hs219 := hb218.size
  have z220 := z204.on hb218
  have z221 := z205.on hb218
  have z222 := z206.on hb218
  have z223 := z207.on hb218
  have z224 := z208.on hb218
  clear z204 z205 z206 z207 z208
  have hB225 := stepA hB209 hb218
  clear hB209 hb218
  try simp only [size_al] at hs219
  clear x210 x211 x212 x213 x214 x215 x216
  obtain ⟨x226, x227, x228, x229, x230, x231, x232⟩ := loop_at z220
  go_wp2_with fail
  refine (markZ ax80 N cx81 (1) (b84) (b84 + 1) F _ hN2 (by omega) (by omega) z223).mono ?_
  rintro e w233 ⟨rfl, z235, ht234⟩
  have hs236 := ht234.size
  try simp only [size_al] at hs236
  have z237 := z220.turns ht234 (by first | omega | (simp only [size_al]; omega))
  have z238 := z221.turns ht234 (by first | omega | (simp only [size_al]; omega))
  have z239 := z222.turns ht234 (by first | omega | (simp only [size_al]; omega))
  have z240 := z224.turns ht234 (by first | omega | (simp only [size_al]; omega))
  clear z220 z221 z222 z224
  have hB241 := hB225.trans (ht234.below (by omega) (by first | omega | (simp only [size_al]; omega)))
  clear hB225 ht234 z223
  clear x226 x227 x228 x229 x230 x231 x232
  obtain ⟨x242, x243, x244, x245, x246, x247, x248⟩ := loop_at z237
  go_wp2_with fail
  refine (markZ ay82 N cy83 (1 + (N : Int)) (b85) (b85 + 1) G _ hN2 (by omega) (by omega) z240).mono ?_
  rintro e w249 ⟨rfl, z251, ht250⟩
  have hs252 := ht250.size
  try simp only [size_al] at hs252
  have z253 := z237.turns ht250 (by first | omega | (simp only [size_al]; omega))
  have z254 := z238.turns ht250 (by first | omega | (simp only [size_al]; omega))
  have z255 := z239.turns ht250 (by first | omega | (simp only [size_al]; omega))
  have z256 := z235.turns ht250 (by first | omega | (simp only [size_al]; omega))
  clear z237 z238 z239 z235
  have hB257 := hB241.trans (ht250.below (by omega) (by first | omega | (simp only [size_al]; omega)))
  clear hB241 ht250 z240
  clear x242 x243 x244 x245 x246 x247 x248
  obtain ⟨x258, x259, x260, x261, x262, x263, x264⟩ := loop_at z253
  go_wp2_with fail
  refine (heldZ ax80 N cx81 (1) (b84) (b84 + 1) _ hN2 (by omega) (by omega) z256).mono ?_
  rintro e w265 ⟨rfl, hb266⟩
  have hs' := hb266.symm
  clear hb266
  subst hs'
  have jn : ¬ 1 + (N : Int) < 0 := by omega
  clear x258 x259 x260 x261 x262 x263 x264
  obtain ⟨x267, x268, x269, x270, x271, x272, x273⟩ := loop_at z253
  go_wp2_with fail
  refine (heldZ ay82 N cy83 (1 + (N : Int)) (b85) (b85 + 1) _ hN2 (by omega) (by omega) z251).mono ?_
  rintro e w274 ⟨rfl, hb275⟩
  have hs' := hb275.symm
  clear hb275
  subst hs'
  have jm : ¬ 1 + (N : Int) + (N : Int) < 0 := by omega
  clear x267 x268 x269 x270 x271 x272 x273
  obtain ⟨x276, x277, x278, x279, x280, x281, x282⟩ := loop_at z253
  go_wp2_with fail
  refine (toLoop_any l _).mono ?_
  rintro e w283 ⟨rfl, hb284⟩
  have hs285 := hb284.size
  have z286 := z253.on hb284
  have z287 := z254.on hb284
  have z288 := z255.on hb284
  have z289 := z256.on hb284
  have z290 := z251.on hb284
  clear z253 z254 z255 z256 z251
  have hB291 := stepA hB257 hb284
  clear hB257 hb284
  try simp only [size_al] at hs285
  clear x276 x277 x278 x279 x280 x281 x282
  obtain ⟨x294, x295, x296, x297, x298, x299, x300⟩ := loop_at z286
  go_wp2_with fail
  refine (copyQ a n c f _ hn (hA.below hB291)).mono ?_
  rintro e w301 ⟨rfl, z292, hs293, hb302⟩
  have hs303 := hb302.size
  have z304 := z286.on hb302
  have z305 := z287.on hb302
  have z306 := z288.on hb302
  have z307 := z289.on hb302
  have z308 := z290.on hb302
  clear z286 z287 z288 z289 z290
  have hB309 := stepA hB291 hb302
  clear hB291 hb302
  try simp only [size_al] at hs303
  try simp only [size_al] at z292
  clear x294 x295 x296 x297 x298 x299 x300
  obtain ⟨x321, x322, x323, x324, x325, x326, x327⟩ := loop_at z304
  go_wp2_with fail
  refine (hI (some ⟨w283.heap.size, 0, none⟩) n _ z292.il).mono ?_
  rintro e w328 ⟨ax310, cx311, ay312, cy313, b314, b315, rfl, z316, z317, hr318, hr319, hr320, hb329⟩
  have hs330 := hb329.size
  have z331 := z304.on hb329
  have z332 := z305.on hb329
  have z333 := z306.on hb329
  have z334 := z307.on hb329
  have z335 := z308.on hb329
  have z336 := z292.on hb329
  clear z304 z305 z306 z307 z308 z292
  have hB337 := stepA hB309 hb329
  clear hB309 hb329
  try simp only [size_al] at hs330
  try simp only [size_al] at hr319 hr320
  clear z336
  clear x321 x322 x323 x324 x325 x326 x327
  obtain ⟨x338, x339, x340, x341, x342, x343, x344⟩ := loop_at z331
  go_wp2_with fail
  refine (eqI_any ax310 ax30 N cx311 cx31 F _ hN2 z316.il z332.il).mono ?_
  rintro e w345 ⟨rfl, hb346⟩
  have hs347 := hb346.size
  have z348 := z331.on hb346
  have z349 := z332.on hb346
  have z350 := z333.on hb346
  have z351 := z334.on hb346
  have z352 := z335.on hb346
  have z353 := z316.on hb346
  have z354 := z317.on hb346
  clear z331 z332 z333 z334 z335 z316 z317
  have hB355 := stepA hB337 hb346
  clear hB337 hb346
  try simp only [size_al] at hs347
  clear x338 x339 x340 x341 x342 x343 x344
  obtain ⟨x356, x357, x358, x359, x360, x361, x362⟩ := loop_at z348
  go_wp2_with fail
  refine (eqI_any ay312 ay32 N cy313 cy33 G _ hN2 z354.il z350.il).mono ?_
  rintro e w363 ⟨rfl, hb364⟩
  have hs365 := hb364.size
  have z366 := z348.on hb364
  have z367 := z349.on hb364
  have z368 := z350.on hb364
  have z369 := z351.on hb364
  have z370 := z352.on hb364
  have z371 := z353.on hb364
  have z372 := z354.on hb364
  clear z348 z349 z350 z351 z352 z353 z354
  have hB373 := stepA hB355 hb364
  clear hB355 hb364
  try simp only [size_al] at hs365
  clear x356 x357 x358 x359 x360 x361 x362
  obtain ⟨x374, x375, x376, x377, x378, x379, x380⟩ := loop_at z366
  go_wp2_with fail
  refine (heldZ ax80 N cx81 (1) (b84) (b84 + 1) _ hN2 (by omega) (by omega) z369).mono ?_
  rintro e w381 ⟨rfl, hb382⟩
  have hs' := hb382.symm
  clear hb382
  subst hs'
  clear x374 x375 x376 x377 x378 x379 x380
  obtain ⟨x383, x384, x385, x386, x387, x388, x389⟩ := loop_at z366
  go_wp2_with fail
  refine (heldZ ay82 N cy83 (1 + (N : Int)) (b85) (b85 + 1) _ hN2 (by omega) (by omega) z370).mono ?_
  rintro e w390 ⟨rfl, hb391⟩
  have hs' := hb391.symm
  clear hb391
  subst hs'
  clear x383 x384 x385 x386 x387 x388 x389
  clear z366
  clear z367
  clear z368
  clear z369
  clear z370
  clear z371
  clear z372
  go_wp2
  go_ret
  exact ⟨rfl, hB373⟩

set_option maxHeartbeats 1000000 in
theorem plantLaw (l : Lp) (m : Int) (a : Option Addr) (n c : Nat) (f : Nat → Int) (w : World) (h1 : n ≤ 9223372036854775807) (hA : IL w a n f) :
    Calls Try.prog 7 #[lv l, .int .i64 m, .slice a n c] w fun e w' => e = .returned (.bool true) ∧ Below w.heap.size w w' := by
  by_cases hn : n ≤ 1048576
  · exact plantLaw_in l m a n c f w hn hA
  · have j1 : ¬ (n : Int) ≤ 1048576 := by omega
    go_enter Try.func7, Try.ntmps7
    go_wp2
    go_ret
    refine ⟨rfl, ?_⟩
    repeat' (first | exact Below.refl _ _ | refine below_dr ?_ _ | refine Below.alloc ?_ (by simp <;> omega) _ | refine Below.setCell ?_ (by simp <;> omega) _)
end Go.Proofs.Ythmjoeknkenfgab
