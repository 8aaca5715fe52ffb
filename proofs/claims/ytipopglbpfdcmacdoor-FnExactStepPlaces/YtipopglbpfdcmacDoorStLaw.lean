/- The walk of the law on FnExactStepPlaces. -/
import Derived.Test.YtipopglbpfdcmacDoorStImpl
import Derived.Test.YtipopglbpfdcmacDoorClBase
namespace Go.Proofs.YtipopglbpfdcmacDoor
open Go.RowKit
set_option maxHeartbeats 4000000 in
theorem stpLaw (W : Int) (a b : Option Addr) (n c m d : Nat) (f g : Nat → Int) (v : Int) (w : World) (hn : n ≤ 1048576) (hm : m ≤ 1048576) (hf : IL w a n f) (hg : IL w b m g) (hT : Tab w) :
    Calls Tryd.prog 3 #[cel W a n c, .slice b m d, .int .i64 v] w fun e w' => e = .returned (.bool true) ∧ Below w.heap.size w w' := by
  have hI := fun a b c d w h1 h2 h3 => implStp W a b n c m d f g v w hn hm h1 h2 h3
  have hS := fun a b c d w h1 h2 => specStp W a b n c m d f g v w hn hm h1 h2
  have hL : (stpL W n f m g v).length ≤ 1048576 := by have := stpL_len W n f m g v; omega
  generalize stpL W n f m g v = L at hI hS hL
  generalize seeQ W n f m g v = Q at hI hS
  have j : ¬ (1048576 : Int) - (n : Int) < 0 := by omega
  have j1 : ¬ ((1 + n : Nat) : Int) + (m : Int) < 0 := by omega
  have j2 : ¬ (1 : Int) + (L.length : Int) < 0 := by omega
  have j3 : ¬ (1048576 : Int) < (m : Int) := by omega
  go_enter Tryd.func3, Tryd.ntmps3
  have hB0 := Below.refl w.heap.size w
  have l1 := hT.l1
  have z1 := bx_new (w := w) [.int .i64 W, .slice a n c] 24 rfl
  have hx2 : Below w.heap.size w (w.alloc (.cells #[.int .i64 W, .slice a n c] 24)) := (Below.refl _ _).alloc (Nat.le_refl _) _
  have z3 := hT.on hx2
  clear hT
  have hB4 := stepA hB0 hx2
  clear hB0 hx2
  have x5 := z1.c0
  have x6 := z1.c1
  go_wp2_with fail
  refine (szCells_in W a n c _ hn).mono ?_
  rintro e w7 ⟨rfl, hb8⟩
  have hs9 := hb8.size
  have z10 := z3.on hb8
  have z11 := z1.on hb8
  clear z3 z1
  have hB12 := stepA hB4 hb8
  clear hB4 hb8
  try simp only [size_al] at hs9
  clear x5 x6
  have x13 := z11.c0
  have x14 := z11.c1
  go_wp2_with fail
  refine (toCells_any W a n c f _ hn (hf.below hB12)).mono ?_
  rintro e w15 ⟨a2, rfl, hL2, hb16⟩
  have hs17 := hb16.size
  have z18 := z10.on hb16
  have z19 := z11.on hb16
  clear z10 z11
  have hB20 := stepA hB12 hb16
  clear hB12 hb16
  try simp only [size_al] at hs17
  try simp only [size_al] at hL2
  clear x13 x14
  have x21 := z19.c0
  have x22 := z19.c1
  go_wp2_with fail
  refine (copyQ b m d g _ hm (hg.below hB20)).mono ?_
  rintro e w23 ⟨rfl, hM2, hM2s, hb24⟩
  have hs25 := hb24.size
  have z26 := z18.on hb24
  have z27 := z19.on hb24
  have z28 := hL2.on hb24
  clear z18 z19 hL2
  have hB29 := stepA hB20 hb24
  clear hB20 hb24
  try simp only [size_al] at hs25
  try simp only [size_al] at hM2 hM2s
  clear x21 x22
  have x30 := z27.c0
  have x31 := z27.c1
  go_wp2_with fail
  refine (hS _ _ _ _ _ z28.il hM2.il).mono ?_
  rintro e w32 ⟨⟨a3, c3, rfl, hA3⟩, hb33⟩
  have hs34 := hb33.size
  have z35 := z26.on hb33
  have z36 := z27.on hb33
  have z37 := z28.on hb33
  have z38 := hM2.on hb33
  clear z26 z27 z28 hM2
  have hB39 := stepA hB29 hb33
  clear hB29 hb33
  try simp only [size_al] at hs34
  try simp only [size_al] at hA3
  clear z37
  clear z38
  clear x30 x31
  have x40 := z36.c0
  have x41 := z36.c1
  go_wp2_with fail
  refine (toCells_any W a n c f _ hn (hf.below hB39)).mono ?_
  rintro e w42 ⟨a4, rfl, hL4, hb43⟩
  have hs44 := hb43.size
  have z45 := z35.on hb43
  have z46 := z36.on hb43
  have z47 := hA3.on hb43
  clear z35 z36 hA3
  have hB48 := stepA hB39 hb43
  clear hB39 hb43
  try simp only [size_al] at hs44
  try simp only [size_al] at hL4
  have z49 := bx_new (w := w42) [.int .i64 W, .slice a4 n n] 28 rfl
  have hx50 : Below w42.heap.size w42 (w42.alloc (.cells #[.int .i64 W, .slice a4 n n] 28)) := (Below.refl _ _).alloc (Nat.le_refl _) _
  have z51 := z45.on hx50
  have z52 := z46.on hx50
  have z53 := z47.on hx50
  have z54 := hL4.on hx50
  clear z45 z46 z47 hL4
  have hB55 := stepA hB48 hx50
  clear hB48 hx50
  clear x40 x41
  have x56 := z52.c0
  have x57 := z52.c1
  have x58 := z49.c0
  have x59 := z49.c1
  go_wp2_with fail
  refine (copyQ b m d g _ hm (hg.below hB55)).mono ?_
  rintro e w60 ⟨rfl, hM4, hM4s, hb61⟩
  have hs62 := hb61.size
  have z63 := z51.on hb61
  have z64 := z52.on hb61
  have z65 := z53.on hb61
  have z66 := z54.on hb61
  have z67 := z49.on hb61
  clear z51 z52 z53 z54 z49
  have hB68 := stepA hB55 hb61
  clear hB55 hb61
  try simp only [size_al] at hs62
  try simp only [size_al] at hM4 hM4s
  clear x56 x57 x58 x59
  have x69 := z64.c0
  have x70 := z64.c1
  have x71 := z67.c0
  have x72 := z67.c1
  go_wp2_with fail
  refine (hI _ _ _ _ _ z66.il hM4.il z63).mono ?_
  rintro e w73 ⟨⟨a5, c5, rfl, hA5⟩, hb74⟩
  have hs75 := hb74.size
  have z76 := z63.on hb74
  have z77 := z64.on hb74
  have z78 := z65.on hb74
  have z79 := z66.on hb74
  have z80 := z67.on hb74
  have z81 := hM4.on hb74
  clear z63 z64 z65 z66 z67 hM4
  have hB82 := stepA hB68 hb74
  clear hB68 hb74
  try simp only [size_al] at hs75
  try simp only [size_al] at hA5
  clear x69 x70 x71 x72
  have x83 := z77.c0
  have x84 := z77.c1
  have x85 := z80.c0
  have x86 := z80.c1
  go_wp2_with fail
  refine (eqI_any a5 a3 L.length c5 c3 (gl L) _ hL hA5.il z78.il).mono ?_
  rintro e w87 ⟨rfl, hb88⟩
  have hs89 := hb88.size
  have z90 := z76.on hb88
  have z91 := z77.on hb88
  have z92 := z78.on hb88
  have z93 := z79.on hb88
  have z94 := z80.on hb88
  have z95 := z81.on hb88
  have z96 := hA5.on hb88
  clear z76 z77 z78 z79 z80 z81 hA5
  have hB97 := stepA hB82 hb88
  clear hB82 hb88
  try simp only [size_al] at hs89
  clear x83 x84 x85 x86
  have x98 := z91.c0
  have x99 := z91.c1
  have x100 := z94.c0
  have x101 := z94.c1
  go_wp2_with fail
  have hw102 := Below.refl w87.heap.size w87
  go_region_held3 (fun w' => w'.cell? ⟨w.heap.size, 0, none⟩ = some (.int .i64 W) ∧ w'.cell? ⟨w.heap.size, 1, none⟩ = some (.slice a n c) ∧ w'.cell? ⟨w42.heap.size, 0, none⟩ = some (.int .i64 W) ∧ w'.cell? ⟨w42.heap.size, 1, none⟩ = some (.slice a4 n n))
    (first | (exact ⟨(z91.on hw102.drew).c0, (z91.on hw102.drew).c1, (z94.on hw102.drew).c0, (z94.on hw102.drew).c1⟩) | (exact ⟨(z91.on hw105).c0, (z91.on hw105).c1, (z94.on hw105).c0, (z94.on hw105).c1⟩) | (exact ⟨(z91.on hw108).c0, (z91.on hw108).c1, (z94.on hw108).c0, (z94.on hw108).c1⟩) | (fail))
    (first | (go_at_call 6; refine (toCells_any W a n c f _ hn (hf.below (stepA hB97 hw102.drew))).mono ?_; rintro e w103 ⟨a9, rfl, hL9, hb104⟩; have hw105 := stepA hw102.drew hb104; clear hb104) | (go_at_call 10; refine (eqCells_any W _ _ n _ _ f _ hn (z93.on hw105).il hL9.il).mono ?_; rintro e w106 ⟨rfl, hb107⟩; have hw108 := stepA hw105 hb107; clear hb107) | (fail))
  have hs109 := hw108.size
  try simp only [size_al] at hs109
  have z110 := z90.on hw108
  have z111 := z91.on hw108
  have z112 := z92.on hw108
  have z113 := z93.on hw108
  have z114 := z94.on hw108
  have z115 := z95.on hw108
  have z116 := z96.on hw108
  clear z90 z91 z92 z93 z94 z95 z96
  have hB117 := stepA hB97 hw108
  clear hB97
  clear hL9
  clear x98 x99 x100 x101
  have x118 := z111.c0
  have x119 := z111.c1
  have x120 := z114.c0
  have x121 := z114.c1
  go_wp2_with fail
  refine (copyQ b m d g _ hm (hg.below hB117)).mono ?_
  rintro e w122 ⟨rfl, hM6, hM6s, hb123⟩
  have hs124 := hb123.size
  have z125 := z110.on hb123
  have z126 := z111.on hb123
  have z127 := z112.on hb123
  have z128 := z113.on hb123
  have z129 := z114.on hb123
  have z130 := z115.on hb123
  have z131 := z116.on hb123
  clear z110 z111 z112 z113 z114 z115 z116
  have hB132 := stepA hB117 hb123
  clear hB117 hb123
  try simp only [size_al] at hs124
  try simp only [size_al] at hM6 hM6s
  clear x118 x119 x120 x121
  have x133 := z126.c0
  have x134 := z126.c1
  have x135 := z129.c0
  have x136 := z129.c1
  go_wp2_with fail
  refine (eqI_any (some ⟨w42.heap.size + 1, 0, none⟩) (some ⟨w106.heap.size, 0, none⟩) m m m g _ hm z130.il hM6.il).mono ?_
  rintro e w137 ⟨rfl, hb138⟩
  have hs139 := hb138.size
  have z140 := z125.on hb138
  have z141 := z126.on hb138
  have z142 := z127.on hb138
  have z143 := z128.on hb138
  have z144 := z129.on hb138
  have z145 := z130.on hb138
  have z146 := z131.on hb138
  have z147 := hM6.on hb138
  clear z125 z126 z127 z128 z129 z130 z131 hM6
  have hB148 := stepA hB132 hb138
  clear hB132 hb138
  try simp only [size_al] at hs139
  clear z147
  clear x133 x134 x135 x136
  have x149 := z141.c0
  have x150 := z141.c1
  have x151 := z144.c0
  have x152 := z144.c1
  go_wp2_with fail
  refine (markCells_any W a4 n n 1 (w32.heap.size) (w42.heap.size) f _ hn (by omega) z143).mono ?_
  rintro e w153 ⟨rfl, z155, ht154⟩
  have hs156 := ht154.size
  try simp only [size_al] at hs156
  have z157 := z140.turns ht154 (by first | omega | (simp only [size_al]; omega))
  have z158 := z141.turns ht154 (by first | omega | (simp only [size_al]; omega))
  have z159 := z142.turns ht154 (by first | omega | (simp only [size_al]; omega))
  have z160 := z144.turns ht154 (by first | omega | (simp only [size_al]; omega))
  have z161 := z145.turns ht154 (by first | omega | (simp only [size_al]; omega))
  have z162 := z146.turns ht154 (by first | omega | (simp only [size_al]; omega))
  clear z140 z141 z142 z144 z145 z146
  have hB163 := hB148.trans (ht154.below (by omega) (by first | omega | (simp only [size_al]; omega)))
  clear hB148 ht154 z143
  rw [show ((1 : Nat) : Int) + (n : Int) = ((1 + n : Nat) : Int) by omega]
  clear x149 x150 x151 x152
  have x164 := z158.c0
  have x165 := z158.c1
  have x166 := z160.c0
  have x167 := z160.c1
  go_wp2_with fail
  refine (markT (some ⟨w42.heap.size + 1, 0, none⟩) m m (1 + n) (w42.heap.size + 1) (w42.heap.size + 1 + 1) g _ hm (by omega) z161).mono ?_
  rintro e w168 ⟨rfl, z170, ht169⟩
  have hs171 := ht169.size
  try simp only [size_al] at hs171
  have z172 := z157.turns ht169 (by first | omega | (simp only [size_al]; omega))
  have z173 := z158.turns ht169 (by first | omega | (simp only [size_al]; omega))
  have z174 := z159.turns ht169 (by first | omega | (simp only [size_al]; omega))
  have z175 := z160.turns ht169 (by first | omega | (simp only [size_al]; omega))
  have z176 := z162.turns ht169 (by first | omega | (simp only [size_al]; omega))
  have z177 := z155.turns ht169 (by first | omega | (simp only [size_al]; omega))
  clear z157 z158 z159 z160 z162 z155
  have hB178 := hB163.trans (ht169.below (by omega) (by first | omega | (simp only [size_al]; omega)))
  clear hB163 ht169 z161
  clear x164 x165 x166 x167
  have x179 := z173.c0
  have x180 := z173.c1
  have x181 := z175.c0
  have x182 := z175.c1
  go_wp2_with fail
  refine (eqI_any a5 a3 L.length c5 c3 (gl L) _ hL z176.il z174.il).mono ?_
  rintro e w183 ⟨rfl, hb184⟩
  have hs185 := hb184.size
  have z186 := z172.on hb184
  have z187 := z173.on hb184
  have z188 := z174.on hb184
  have z189 := z175.on hb184
  have z190 := z176.on hb184
  have z191 := z177.on hb184
  have z192 := z170.on hb184
  clear z172 z173 z174 z175 z176 z177 z170
  have hB193 := stepA hB178 hb184
  clear hB178 hb184
  try simp only [size_al] at hs185
  clear x179 x180 x181 x182
  have x194 := z187.c0
  have x195 := z187.c1
  have x196 := z189.c0
  have x197 := z189.c1
  go_wp2_with fail
  refine (markT a5 L.length c5 1 (w60.heap.size) (w73.heap.size) (gl L) _ hL (by omega) z190).mono ?_
  rintro e w198 ⟨rfl, z200, ht199⟩
  have hs201 := ht199.size
  try simp only [size_al] at hs201
  have z202 := z186.turns ht199 (by first | omega | (simp only [size_al]; omega))
  have z203 := z187.turns ht199 (by first | omega | (simp only [size_al]; omega))
  have z204 := z188.turns ht199 (by first | omega | (simp only [size_al]; omega))
  have z205 := z189.turns ht199 (by first | omega | (simp only [size_al]; omega))
  have z206 := z191.turns ht199 (by first | omega | (simp only [size_al]; omega))
  have z207 := z192.turns ht199 (by first | omega | (simp only [size_al]; omega))
  clear z186 z187 z188 z189 z191 z192
  have hB208 := hB193.trans (ht199.below (by omega) (by first | omega | (simp only [size_al]; omega)))
  clear hB193 ht199 z190
  clear x194 x195 x196 x197
  have x209 := z203.c0
  have x210 := z203.c1
  have x211 := z205.c0
  have x212 := z205.c1
  go_wp2_with fail
  refine (heldQ a5 L.length c5 1 (w60.heap.size) (w73.heap.size) _ hL (by omega) z200).mono ?_
  rintro e w213 ⟨rfl, hb214⟩
  have hs' := hb214.symm
  clear hb214
  subst hs'
  clear x209 x210 x211 x212
  have x215 := z203.c0
  have x216 := z203.c1
  have x217 := z205.c0
  have x218 := z205.c1
  go_wp2_with fail
  refine (toCells_any W a n c f _ hn (hf.below hB208)).mono ?_
  rintro e w219 ⟨a7, rfl, hL7, hb220⟩
  have hs221 := hb220.size
  have z222 := z202.on hb220
  have z223 := z203.on hb220
  have z224 := z204.on hb220
  have z225 := z205.on hb220
  have z226 := z206.on hb220
  have z227 := z207.on hb220
  have z228 := z200.on hb220
  clear z202 z203 z204 z205 z206 z207 z200
  have hB229 := stepA hB208 hb220
  clear hB208 hb220
  try simp only [size_al] at hs221
  try simp only [size_al] at hL7
  clear x215 x216 x217 x218
  have x230 := z223.c0
  have x231 := z223.c1
  have x232 := z225.c0
  have x233 := z225.c1
  go_wp2_with fail
  refine (copyQ b m d g _ hm (hg.below hB229)).mono ?_
  rintro e w234 ⟨rfl, hM7, hM7s, hb235⟩
  have hs236 := hb235.size
  have z237 := z222.on hb235
  have z238 := z223.on hb235
  have z239 := z224.on hb235
  have z240 := z225.on hb235
  have z241 := z226.on hb235
  have z242 := z227.on hb235
  have z243 := z228.on hb235
  have z244 := hL7.on hb235
  clear z222 z223 z224 z225 z226 z227 z228 hL7
  have hB245 := stepA hB229 hb235
  clear hB229 hb235
  try simp only [size_al] at hs236
  try simp only [size_al] at hM7 hM7s
  clear x230 x231 x232 x233
  have x246 := z238.c0
  have x247 := z238.c1
  have x248 := z240.c0
  have x249 := z240.c1
  go_wp2_with fail
  refine (hI _ _ _ _ _ z244.il hM7.il z237).mono ?_
  rintro e w250 ⟨⟨a8, c8, rfl, hA8⟩, hb251⟩
  have hs252 := hb251.size
  have z253 := z237.on hb251
  have z254 := z238.on hb251
  have z255 := z239.on hb251
  have z256 := z240.on hb251
  have z257 := z241.on hb251
  have z258 := z242.on hb251
  have z259 := z243.on hb251
  have z260 := z244.on hb251
  have z261 := hM7.on hb251
  clear z237 z238 z239 z240 z241 z242 z243 z244 hM7
  have hB262 := stepA hB245 hb251
  clear hB245 hb251
  try simp only [size_al] at hs252
  try simp only [size_al] at hA8
  clear x246 x247 x248 x249
  have x263 := z254.c0
  have x264 := z254.c1
  have x265 := z256.c0
  have x266 := z256.c1
  go_wp2_with fail
  refine (eqI_any a8 a3 L.length c8 c3 (gl L) _ hL hA8.il z255.il).mono ?_
  rintro e w267 ⟨rfl, hb268⟩
  have hs269 := hb268.size
  have z270 := z253.on hb268
  have z271 := z254.on hb268
  have z272 := z255.on hb268
  have z273 := z256.on hb268
  have z274 := z257.on hb268
  have z275 := z258.on hb268
  have z276 := z259.on hb268
  have z277 := z260.on hb268
  have z278 := z261.on hb268
  have z279 := hA8.on hb268
  clear z253 z254 z255 z256 z257 z258 z259 z260 z261 hA8
  have hB280 := stepA hB262 hb268
  clear hB262 hb268
  try simp only [size_al] at hs269
  clear x263 x264 x265 x266
  have x281 := z271.c0
  have x282 := z271.c1
  have x283 := z273.c0
  have x284 := z273.c1
  go_wp2_with fail
  refine (heldQ a5 L.length c5 1 (w60.heap.size) (w73.heap.size) _ hL (by omega) z276).mono ?_
  rintro e w285 ⟨rfl, hb286⟩
  have hs' := hb286.symm
  clear hb286
  subst hs'
  clear x281 x282 x283 x284
  clear z270
  clear z271
  clear z272
  clear z273
  clear z274
  clear z275
  clear z276
  clear z277
  clear z278
  clear z279
  go_wp2
  go_ret
  exact ⟨rfl, hB280⟩
set_option maxHeartbeats 400000 in
theorem stpLaw_long (W : Int) (a b : Option Addr) (n c m d : Nat) (v : Int) (w : World) (hm : m ≤ 1048576) (h : 1048576 < n) (hn : n ≤ 9223372036854775807) :
    Calls Tryd.prog 3 #[cel W a n c, .slice b m d, .int .i64 v] w fun e w' => e = .returned (.bool true) ∧ Below w.heap.size w w' := by
  have hB0 : Below w.heap.size w (w.alloc (celO W a n c 24)) := (Below.refl _ _).alloc (Nat.le_refl _) _
  have j3 : ¬ (1048576 : Int) < (m : Int) := by omega
  go_enter Tryd.func3, Tryd.ntmps3
  go_wp2_with fail
  refine (szCells_out W a n c _ h hn).mono ?_
  rintro e w1 ⟨rfl, hb1⟩
  have hB1 := stepA hB0 hb1
  go_wp2
  go_ret
  exact ⟨rfl, hB1⟩
set_option maxHeartbeats 400000 in
theorem stpLaw_long2 (W : Int) (a b : Option Addr) (n c m d : Nat) (v : Int) (w : World) (h : 1048576 < m) (hm : m ≤ 9223372036854775807) :
    Calls Tryd.prog 3 #[cel W a n c, .slice b m d, .int .i64 v] w fun e w' => e = .returned (.bool true) ∧ Below w.heap.size w w' := by
  have hB0 : Below w.heap.size w (w.alloc (celO W a n c 24)) := (Below.refl _ _).alloc (Nat.le_refl _) _
  have j3 : (1048576 : Int) < (m : Int) := by omega
  go_enter Tryd.func3, Tryd.ntmps3
  go_wp2
  go_ret
  exact ⟨rfl, hB0⟩
theorem stpLawAll (W : Int) (a b : Option Addr) (n c m d : Nat) (f g : Nat → Int) (v : Int) (w : World) (hn : n ≤ 9223372036854775807) (hm : m ≤ 9223372036854775807) (hf : IL w a n f) (hg : IL w b m g) (hT : Tab w) :
    Calls Tryd.prog 3 #[cel W a n c, .slice b m d, .int .i64 v] w fun e w' => e = .returned (.bool true) ∧ Below w.heap.size w w' := by
  by_cases h2 : m ≤ 1048576
  · by_cases h : n ≤ 1048576
    · exact stpLaw W a b n c m d f g v w h h2 hf hg hT
    · exact stpLaw_long W a b n c m d v w h2 (by omega) hn
  · exact stpLaw_long2 W a b n c m d v w (by omega) hm
end Go.Proofs.YtipopglbpfdcmacDoor
