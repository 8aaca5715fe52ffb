/- The walk of the law on ShortestWay. -/
import Derived.Test.YtfciecoigfnnhaaQWyShort
import Derived.Test.YtfciecoigfnnhaaQWyShortI
import Derived.Test.YtfciecoigfnnhaaQWyWay
namespace Go.Proofs.Ytfciecoigfnnhaa
open Go.RowKit
theorem implShortAt {W : Int} {n : Nat} {f : Nat → Int} {p v : Int} {l : List Int} {s d : Int} {k : Bool} (hk : Shrt W n f p v l s d k) (q : Option Addr) (c : Nat) (w : World) (hn : n ≤ 1048576) (hf : IL w q n f) :
    Calls Try.prog 11 #[cel W q n c, .int .i64 p, .int .i64 v] w fun e w' => AnsY w w' e l s d k ∧ Below w.heap.size w w' := by
  refine (implShort W q n c f p v w hn hf).mono ?_
  rintro e w' ⟨⟨l', s', d', k', h1, h2⟩, h3⟩
  obtain ⟨rfl, rfl, rfl, rfl⟩ := Shrt.uniq hk h1
  exact ⟨h2, h3⟩
set_option maxHeartbeats 4000000 in
theorem shortLaw (W : Int) (a : Option Addr) (n c : Nat) (f : Nat → Int) (p v : Int) (w : World) (hn : n ≤ 1048576) (hf : IL w a n f) :
    Calls Try.prog 8 #[cel W a n c, .int .i64 p, .int .i64 v] w fun e w' => e = .returned (.bool true) ∧ Below w.heap.size w w' := by
  have j1 : ¬ (1 : Int) + (n : Int) < 0 := by omega
  have j : ¬ (1048576 : Int) - (n : Int) < 0 := by omega
  go_enter Try.func8, Try.ntmps8
  have hB0 := Below.refl w.heap.size w
  have z1 := bx_new (b := w.heap.size) (w := w) [.int .i64 W, .slice a n c] 53 (by first | rfl | simp only [size_al])
  have hx2 : Below w.heap.size w (w.alloc (.cells #[.int .i64 W, .slice a n c] 53)) := (Below.refl _ _).alloc (Nat.le_refl _) _
  have hB3 := stepA hB0 hx2
  clear hB0 hx2
  have x4 := z1.c0
  have x5 := z1.c1
  go_wp2_with fail
  refine (szCells_in W a n c _ hn).mono ?_
  rintro e w6 ⟨rfl, hb7⟩
  have hs8 := hb7.size
  have z9 := z1.on hb7
  clear z1
  have hB10 := stepA hB3 hb7
  clear hB3 hb7
  try simp only [size_al] at hs8
  clear x4 x5
  have x11 := z9.c0
  have x12 := z9.c1
  go_wp2_with fail
  refine (toCells_any W a n c f _ hn (hf.below hB10)).mono ?_
  rintro e w13 ⟨a2, rfl, hL2, hb14⟩
  have hs15 := hb14.size
  have z16 := z9.on hb14
  clear z9
  have hB17 := stepA hB10 hb14
  clear hB10 hb14
  try simp only [size_al] at hs15
  try simp only [size_al] at hL2
  clear x11 x12
  have x18 := z16.c0
  have x19 := z16.c1
  go_wp2_with fail
  refine (specShort W a2 n n f p v _ hn hL2.il).mono ?_
  rintro e w20 ⟨⟨L, S, D, Q, hSh, a3, c3, rfl, hA3⟩, hb21⟩
  have hs22 := hb21.size
  have z23 := z16.on hb21
  have z24 := hL2.on hb21
  clear z16 hL2
  have hB25 := stepA hB17 hb21
  clear hB17 hb21
  try simp only [size_al] at hs22
  try simp only [size_al] at hA3
  clear z24
  have hL : L.length ≤ 1048576 := by have := Shrt.len hSh; omega
  have j2 : ¬ (1 : Int) + (L.length : Int) < 0 := by omega
  have hI := fun a c w h => implShortAt hSh a c w hn h
  clear hSh
  have z26 := bx_new (b := w20.heap.size) (w := w20) [.slice a3 L.length c3, .int .i64 S, .int .i64 D] 30 (by first | rfl | simp only [size_al])
  have hx27 : Below w20.heap.size w20 (w20.alloc (.cells #[.slice a3 L.length c3, .int .i64 S, .int .i64 D] 30)) := (Below.refl _ _).alloc (Nat.le_refl _) _
  have z28 := z23.on hx27
  have z29 := hA3.on hx27
  clear z23 hA3
  have hB30 := stepA hB25 hx27
  clear hB25 hx27
  clear x18 x19
  have x31 := z28.c0
  have x32 := z28.c1
  have x33 := z26.c0
  have x34 := z26.c1
  have x35 := z26.c2
  go_wp2_with fail
  refine (toCells_any W a n c f _ hn (hf.below hB30)).mono ?_
  rintro e w36 ⟨a4, rfl, hL4, hb37⟩
  have hs38 := hb37.size
  have z39 := z28.on hb37
  have z40 := z29.on hb37
  have z41 := z26.on hb37
  clear z28 z29 z26
  have hB42 := stepA hB30 hb37
  clear hB30 hb37
  try simp only [size_al] at hs38
  try simp only [size_al] at hL4
  have z43 := bx_new (b := w36.heap.size) (w := w36) [.int .i64 W, .slice a4 n n] 25 (by first | rfl | simp only [size_al])
  have hx44 : Below w36.heap.size w36 (w36.alloc (.cells #[.int .i64 W, .slice a4 n n] 25)) := (Below.refl _ _).alloc (Nat.le_refl _) _
  have z45 := z39.on hx44
  have z46 := z40.on hx44
  have z47 := z41.on hx44
  have z48 := hL4.on hx44
  clear z39 z40 z41 hL4
  have hB49 := stepA hB42 hx44
  clear hB42 hx44
  clear x31 x32 x33 x34 x35
  have x50 := z45.c0
  have x51 := z45.c1
  have x52 := z47.c0
  have x53 := z47.c1
  have x54 := z47.c2
  have x55 := z43.c0
  have x56 := z43.c1
  go_wp2_with fail
  refine (hI _ _ _ z48.il).mono ?_
  rintro e w57 ⟨⟨a5, c5, rfl, hA5⟩, hb58⟩
  have hs59 := hb58.size
  have z60 := z45.on hb58
  have z61 := z46.on hb58
  have z62 := z47.on hb58
  have z63 := z48.on hb58
  have z64 := z43.on hb58
  clear z45 z46 z47 z48 z43
  have hB65 := stepA hB49 hb58
  clear hB49 hb58
  try simp only [size_al] at hs59
  try simp only [size_al] at hA5
  have z66 := bx_new (b := w57.heap.size) (w := w57) [.slice a5 L.length c5, .int .i64 S, .int .i64 D] 30 (by first | rfl | simp only [size_al])
  have hx67 : Below w57.heap.size w57 (w57.alloc (.cells #[.slice a5 L.length c5, .int .i64 S, .int .i64 D] 30)) := (Below.refl _ _).alloc (Nat.le_refl _) _
  have z68 := z60.on hx67
  have z69 := z61.on hx67
  have z70 := z62.on hx67
  have z71 := z63.on hx67
  have z72 := z64.on hx67
  have z73 := hA5.on hx67
  clear z60 z61 z62 z63 z64 hA5
  have hB74 := stepA hB65 hx67
  clear hB65 hx67
  clear x50 x51 x52 x53 x54 x55 x56
  have x75 := z68.c0
  have x76 := z68.c1
  have x77 := z70.c0
  have x78 := z70.c1
  have x79 := z70.c2
  have x80 := z72.c0
  have x81 := z72.c1
  have x82 := z66.c0
  have x83 := z66.c1
  have x84 := z66.c2
  go_wp2_with fail
  refine (eqWay_any a5 a3 L.length c5 c3 S D (gl L) _ hL z73.il z69.il).mono ?_
  rintro e w85 ⟨rfl, hb86⟩
  have hs87 := hb86.size
  have z88 := z68.on hb86
  have z89 := z69.on hb86
  have z90 := z70.on hb86
  have z91 := z71.on hb86
  have z92 := z72.on hb86
  have z93 := z73.on hb86
  have z94 := z66.on hb86
  clear z68 z69 z70 z71 z72 z73 z66
  have hB95 := stepA hB74 hb86
  clear hB74 hb86
  try simp only [size_al] at hs87
  clear x75 x76 x77 x78 x79 x80 x81 x82 x83 x84
  have x96 := z88.c0
  have x97 := z88.c1
  have x98 := z90.c0
  have x99 := z90.c1
  have x100 := z90.c2
  have x101 := z92.c0
  have x102 := z92.c1
  have x103 := z94.c0
  have x104 := z94.c1
  have x105 := z94.c2
  go_wp2_with fail
  have hw106 := Below.refl w85.heap.size w85
  go_region_held3 (fun w' => w'.cell? ⟨w.heap.size, 0, none⟩ = some (.int .i64 W) ∧ w'.cell? ⟨w.heap.size, 1, none⟩ = some (.slice a n c) ∧ w'.cell? ⟨w36.heap.size, 0, none⟩ = some (.int .i64 W) ∧ w'.cell? ⟨w36.heap.size, 1, none⟩ = some (.slice a4 n n))
    (first | (exact ⟨(z88.on hw106.drew).c0, (z88.on hw106.drew).c1, (z92.on hw106.drew).c0, (z92.on hw106.drew).c1⟩) | (exact ⟨(z88.on hw109).c0, (z88.on hw109).c1, (z92.on hw109).c0, (z92.on hw109).c1⟩) | (exact ⟨(z88.on hw112).c0, (z88.on hw112).c1, (z92.on hw112).c0, (z92.on hw112).c1⟩) | (fail))
    (first | (go_at_call 30; refine (toCells_any W a n c f _ hn (hf.below (stepA hB95 hw106.drew))).mono ?_; rintro e w107 ⟨a9, rfl, hL9, hb108⟩; have hw109 := stepA hw106.drew hb108; clear hb108) | (go_at_call 32; refine (eqCells_any W _ _ n _ _ f _ hn (z91.on hw109).il hL9.il).mono ?_; rintro e w110 ⟨rfl, hb111⟩; have hw112 := stepA hw109 hb111; clear hb111) | (fail))
  have hs113 := hw112.size
  try simp only [size_al] at hs113
  have z114 := z88.on hw112
  have z115 := z89.on hw112
  have z116 := z90.on hw112
  have z117 := z91.on hw112
  have z118 := z92.on hw112
  have z119 := z93.on hw112
  have z120 := z94.on hw112
  clear z88 z89 z90 z91 z92 z93 z94
  have hB121 := stepA hB95 hw112
  clear hB95
  clear hL9
  clear x96 x97 x98 x99 x100 x101 x102 x103 x104 x105
  have x122 := z114.c0
  have x123 := z114.c1
  have x124 := z116.c0
  have x125 := z116.c1
  have x126 := z116.c2
  have x127 := z118.c0
  have x128 := z118.c1
  have x129 := z120.c0
  have x130 := z120.c1
  have x131 := z120.c2
  go_wp2_with fail
  refine (markCells_any W a4 n n 1 (w20.heap.size + 1) (w36.heap.size) f _ hn (by omega) z117).mono ?_
  rintro e w132 ⟨rfl, z134, ht133⟩
  have hs135 := ht133.size
  try simp only [size_al] at hs135
  have z136 := z114.turns ht133 (by first | omega | (simp only [size_al]; omega))
  have z137 := z115.turns ht133 (by first | omega | (simp only [size_al]; omega))
  have z138 := z116.turns ht133 (by first | omega | (simp only [size_al]; omega))
  have z139 := z118.turns ht133 (by first | omega | (simp only [size_al]; omega))
  have z140 := z119.turns ht133 (by first | omega | (simp only [size_al]; omega))
  have z141 := z120.turns ht133 (by first | omega | (simp only [size_al]; omega))
  clear z114 z115 z116 z118 z119 z120
  have hB142 := hB121.trans (ht133.below (by omega) (by first | omega | (simp only [size_al]; omega)))
  clear hB121 ht133 z117
  clear x122 x123 x124 x125 x126 x127 x128 x129 x130 x131
  have x143 := z136.c0
  have x144 := z136.c1
  have x145 := z138.c0
  have x146 := z138.c1
  have x147 := z138.c2
  have x148 := z139.c0
  have x149 := z139.c1
  have x150 := z141.c0
  have x151 := z141.c1
  have x152 := z141.c2
  go_wp2_with fail
  refine (eqWay_any a5 a3 L.length c5 c3 S D (gl L) _ hL z140.il z137.il).mono ?_
  rintro e w153 ⟨rfl, hb154⟩
  have hs155 := hb154.size
  have z156 := z136.on hb154
  have z157 := z137.on hb154
  have z158 := z138.on hb154
  have z159 := z139.on hb154
  have z160 := z140.on hb154
  have z161 := z141.on hb154
  have z162 := z134.on hb154
  clear z136 z137 z138 z139 z140 z141 z134
  have hB163 := stepA hB142 hb154
  clear hB142 hb154
  try simp only [size_al] at hs155
  clear x143 x144 x145 x146 x147 x148 x149 x150 x151 x152
  have x164 := z156.c0
  have x165 := z156.c1
  have x166 := z158.c0
  have x167 := z158.c1
  have x168 := z158.c2
  have x169 := z159.c0
  have x170 := z159.c1
  have x171 := z161.c0
  have x172 := z161.c1
  have x173 := z161.c2
  go_wp2_with fail
  refine (markWay_any a5 L.length c5 1 (w36.heap.size + 1) (w57.heap.size) S D (gl L) _ hL (by omega) z160).mono ?_
  rintro e w174 ⟨rfl, z176, ht175⟩
  have hs177 := ht175.size
  try simp only [size_al] at hs177
  have z178 := z156.turns ht175 (by first | omega | (simp only [size_al]; omega))
  have z179 := z157.turns ht175 (by first | omega | (simp only [size_al]; omega))
  have z180 := z158.turns ht175 (by first | omega | (simp only [size_al]; omega))
  have z181 := z159.turns ht175 (by first | omega | (simp only [size_al]; omega))
  have z182 := z161.turns ht175 (by first | omega | (simp only [size_al]; omega))
  have z183 := z162.turns ht175 (by first | omega | (simp only [size_al]; omega))
  clear z156 z157 z158 z159 z161 z162
  have hB184 := hB163.trans (ht175.below (by omega) (by first | omega | (simp only [size_al]; omega)))
  clear hB163 ht175 z160
  clear x164 x165 x166 x167 x168 x169 x170 x171 x172 x173
  have x185 := z178.c0
  have x186 := z178.c1
  have x187 := z180.c0
  have x188 := z180.c1
  have x189 := z180.c2
  have x190 := z181.c0
  have x191 := z181.c1
  have x192 := z182.c0
  have x193 := z182.c1
  have x194 := z182.c2
  go_wp2_with fail
  refine (heldWay_any a5 L.length c5 1 (w36.heap.size + 1) (w57.heap.size) S D _ hL (by omega) z176).mono ?_
  rintro e w195 ⟨rfl, hb196⟩
  have hs197 := hb196.size
  have z198 := z178.on hb196
  have z199 := z179.on hb196
  have z200 := z180.on hb196
  have z201 := z181.on hb196
  have z202 := z182.on hb196
  have z203 := z183.on hb196
  have z204 := z176.on hb196
  clear z178 z179 z180 z181 z182 z183 z176
  have hB205 := stepA hB184 hb196
  clear hB184 hb196
  try simp only [size_al] at hs197
  clear x185 x186 x187 x188 x189 x190 x191 x192 x193 x194
  have x206 := z198.c0
  have x207 := z198.c1
  have x208 := z200.c0
  have x209 := z200.c1
  have x210 := z200.c2
  have x211 := z201.c0
  have x212 := z201.c1
  have x213 := z202.c0
  have x214 := z202.c1
  have x215 := z202.c2
  go_wp2_with fail
  refine (toCells_any W a n c f _ hn (hf.below hB205)).mono ?_
  rintro e w216 ⟨a6, rfl, hL6, hb217⟩
  have hs218 := hb217.size
  have z219 := z198.on hb217
  have z220 := z199.on hb217
  have z221 := z200.on hb217
  have z222 := z201.on hb217
  have z223 := z202.on hb217
  have z224 := z203.on hb217
  have z225 := z204.on hb217
  clear z198 z199 z200 z201 z202 z203 z204
  have hB226 := stepA hB205 hb217
  clear hB205 hb217
  try simp only [size_al] at hs218
  try simp only [size_al] at hL6
  clear x206 x207 x208 x209 x210 x211 x212 x213 x214 x215
  have x227 := z219.c0
  have x228 := z219.c1
  have x229 := z221.c0
  have x230 := z221.c1
  have x231 := z221.c2
  have x232 := z222.c0
  have x233 := z222.c1
  have x234 := z223.c0
  have x235 := z223.c1
  have x236 := z223.c2
  go_wp2_with fail
  refine (hI _ _ _ hL6.il).mono ?_
  rintro e w237 ⟨⟨a7, c7, rfl, hA7⟩, hb238⟩
  have hs239 := hb238.size
  have z240 := z219.on hb238
  have z241 := z220.on hb238
  have z242 := z221.on hb238
  have z243 := z222.on hb238
  have z244 := z223.on hb238
  have z245 := z224.on hb238
  have z246 := z225.on hb238
  have z247 := hL6.on hb238
  clear z219 z220 z221 z222 z223 z224 z225 hL6
  have hB248 := stepA hB226 hb238
  clear hB226 hb238
  try simp only [size_al] at hs239
  try simp only [size_al] at hA7
  have z249 := bx_new (b := w237.heap.size) (w := w237) [.slice a7 L.length c7, .int .i64 S, .int .i64 D] 30 (by first | rfl | simp only [size_al])
  have hx250 : Below w237.heap.size w237 (w237.alloc (.cells #[.slice a7 L.length c7, .int .i64 S, .int .i64 D] 30)) := (Below.refl _ _).alloc (Nat.le_refl _) _
  have z251 := z240.on hx250
  have z252 := z241.on hx250
  have z253 := z242.on hx250
  have z254 := z243.on hx250
  have z255 := z244.on hx250
  have z256 := z245.on hx250
  have z257 := z246.on hx250
  have z258 := z247.on hx250
  have z259 := hA7.on hx250
  clear z240 z241 z242 z243 z244 z245 z246 z247 hA7
  have hB260 := stepA hB248 hx250
  clear hB248 hx250
  clear x227 x228 x229 x230 x231 x232 x233 x234 x235 x236
  have x261 := z251.c0
  have x262 := z251.c1
  have x263 := z253.c0
  have x264 := z253.c1
  have x265 := z253.c2
  have x266 := z254.c0
  have x267 := z254.c1
  have x268 := z255.c0
  have x269 := z255.c1
  have x270 := z255.c2
  have x271 := z249.c0
  have x272 := z249.c1
  have x273 := z249.c2
  go_wp2_with fail
  refine (eqWay_any a7 a3 L.length c7 c3 S D (gl L) _ hL z259.il z252.il).mono ?_
  rintro e w274 ⟨rfl, hb275⟩
  have hs276 := hb275.size
  have z277 := z251.on hb275
  have z278 := z252.on hb275
  have z279 := z253.on hb275
  have z280 := z254.on hb275
  have z281 := z255.on hb275
  have z282 := z256.on hb275
  have z283 := z257.on hb275
  have z284 := z258.on hb275
  have z285 := z259.on hb275
  have z286 := z249.on hb275
  clear z251 z252 z253 z254 z255 z256 z257 z258 z259 z249
  have hB287 := stepA hB260 hb275
  clear hB260 hb275
  try simp only [size_al] at hs276
  clear x261 x262 x263 x264 x265 x266 x267 x268 x269 x270 x271 x272 x273
  have x288 := z277.c0
  have x289 := z277.c1
  have x290 := z279.c0
  have x291 := z279.c1
  have x292 := z279.c2
  have x293 := z280.c0
  have x294 := z280.c1
  have x295 := z281.c0
  have x296 := z281.c1
  have x297 := z281.c2
  have x298 := z286.c0
  have x299 := z286.c1
  have x300 := z286.c2
  go_wp2_with fail
  refine (heldWay_any a5 L.length c5 1 (w36.heap.size + 1) (w57.heap.size) S D _ hL (by omega) z283).mono ?_
  rintro e w301 ⟨rfl, hb302⟩
  have hs303 := hb302.size
  have z304 := z277.on hb302
  have z305 := z278.on hb302
  have z306 := z279.on hb302
  have z307 := z280.on hb302
  have z308 := z281.on hb302
  have z309 := z282.on hb302
  have z310 := z283.on hb302
  have z311 := z284.on hb302
  have z312 := z285.on hb302
  have z313 := z286.on hb302
  clear z277 z278 z279 z280 z281 z282 z283 z284 z285 z286
  have hB314 := stepA hB287 hb302
  clear hB287 hb302
  try simp only [size_al] at hs303
  clear x288 x289 x290 x291 x292 x293 x294 x295 x296 x297 x298 x299 x300
  clear z304
  clear z305
  clear z306
  clear z307
  clear z308
  clear z309
  clear z310
  clear z311
  clear z312
  clear z313
  go_wp2
  go_ret
  exact ⟨rfl, hB314⟩
set_option maxHeartbeats 400000 in
theorem shortLaw_long (W : Int) (a : Option Addr) (n c : Nat) (p v : Int) (w : World) (h : 1048576 < n) (hn : n ≤ 9223372036854775807) :
    Calls Try.prog 8 #[cel W a n c, .int .i64 p, .int .i64 v] w fun e w' => e = .returned (.bool true) ∧ Below w.heap.size w w' := by
  have hB0 : Below w.heap.size w (w.alloc (celO W a n c 53)) := (Below.refl _ _).alloc (Nat.le_refl _) _
  go_enter Try.func8, Try.ntmps8
  go_wp2_with fail
  refine (szCells_out W a n c _ h hn).mono ?_
  rintro e w1 ⟨rfl, hb1⟩
  have hB1 := stepA hB0 hb1
  go_wp2
  go_ret
  exact ⟨rfl, hB1⟩
theorem shortAll (W : Int) (a : Option Addr) (n c : Nat) (f : Nat → Int) (p v : Int) (w : World) (hn : n ≤ 9223372036854775807) (hf : IL w a n f) :
    Calls Try.prog 8 #[cel W a n c, .int .i64 p, .int .i64 v] w fun e w' => e = .returned (.bool true) ∧ Below w.heap.size w w' := by
  by_cases h : n ≤ 1048576
  · exact shortLaw W a n c f p v w h hf
  · exact shortLaw_long W a n c p v w (by omega) hn
end Go.Proofs.Ytfciecoigfnnhaa
