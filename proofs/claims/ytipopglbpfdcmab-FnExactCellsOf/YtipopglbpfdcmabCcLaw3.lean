/- The walk of the law on CellsOf. -/
import Derived.Test.YtipopglbpfdcmabCcCells
namespace Go.Proofs.Ytipopglbpfdcmab
open Go.RowKit
set_option maxHeartbeats 1000000 in
theorem heldCells_any (W : Int) (a : Option Addr) (n c k lo hi : Nat) (w : World) (hn : n ≤ 1048576) (hk : k ≤ 1048576) (h : LQ w lo hi a n (fun i => (k : Int) + (i : Int))) :
    Calls Try.prog 18 #[cel W a n c, .int .i64 (k : Int)] w fun e w' => e = .returned (.int .i64 ((k : Int) + (n : Int))) ∧ Below w.heap.size w w' := by
  have j1 : ¬ (k : Int) + (n : Int) < 0 := by omega
  have hb0 : Below w.heap.size w (w.alloc (celO W a n c 34)) := (Below.refl _ _).alloc (Nat.le_refl _) _
  go_enter Try.func18, Try.ntmps18
  go_wp2_with fail
  refine (heldQ a n c k lo hi _ hn (by omega) (h.on hb0)).mono ?_
  rintro e w1 ⟨rfl, hw1⟩
  have hs1 := hw1.symm
  clear hw1 h
  subst hs1
  go_wp2
  go_ret
  exact ⟨rfl, hb0⟩

set_option maxHeartbeats 2000000 in
theorem cofLaw (W : Int) (a b : Option Addr) (n c m d : Nat) (f g : Nat → Int) (w : World) (hsz : n + m ≤ 1048576) (hf : IL w a n f) (hg : IL w b m g) :
    Calls Try.prog 4 #[cnt W a n c b m d] w fun e w' => e = .returned (.bool true) ∧ Below w.heap.size w w' := by
  have hI := fun a b c d w h1 h2 => implCof W a b n c m d f g w (by omega) (by omega) h1 h2
  have hS := fun a b c d w h1 h2 => specCof W a b n c m d f g w (by omega) (by omega) h1 h2
  have hN : cofN n (cntB W n f m g) ≤ 1048576 := by unfold cofN; split <;> omega
  generalize cofN n (cntB W n f m g) = N at hN hI hS
  generalize cofW W (cntB W n f m g) = V at hI hS
  generalize (fun i => kd (f i) (g i)) = K at hI hS
  have j2 : ¬ (1 : Int) + (N : Int) < 0 := by omega
  have hn : n ≤ 1048576 := by omega
  have hm : m ≤ 1048576 := by omega
  have j : ¬ (1048576 : Int) - (n : Int) - (m : Int) < 0 := by omega
  have j0 : ¬ (1 : Int) + (n : Int) + (m : Int) < 0 := by omega
  go_enter Try.func4, Try.ntmps4
  have hB0 := Below.refl w.heap.size w
  have z1 := bx_new (w := w) [.int .i64 W, .slice a n c, .slice b m d] 24 rfl
  have hx2 : Below w.heap.size w (w.alloc (.cells #[.int .i64 W, .slice a n c, .slice b m d] 24)) := (Below.refl _ _).alloc (Nat.le_refl _) _
  have hB3 := stepA hB0 hx2
  clear hB0 hx2
  have x4 := z1.c0
  have x5 := z1.c1
  have x6 := z1.c2
  go_wp2_with fail
  refine (szCounts_in W a b n c m d _ hsz).mono ?_
  rintro e w7 ⟨rfl, hb8⟩
  have hs9 := hb8.size
  have z10 := z1.on hb8
  clear z1
  have hB11 := stepA hB3 hb8
  clear hB3 hb8
  try simp only [size_al] at hs9
  clear x4 x5 x6
  have x12 := z10.c0
  have x13 := z10.c1
  have x14 := z10.c2
  go_wp2_with fail
  refine (toCounts_any W a b n c m d f g _ hn hm (hf.below hB11) (hg.below hB11)).mono ?_
  rintro e w15 ⟨a2, b2, rfl, hL2, hb16⟩
  have hs17 := hb16.size
  have z18 := z10.on hb16
  clear z10
  have hB19 := stepA hB11 hb16
  clear hB11 hb16
  try simp only [size_al] at hs17
  try simp only [size_al] at hL2
  clear x12 x13 x14
  have x20 := z18.c0
  have x21 := z18.c1
  have x22 := z18.c2
  go_wp2_with fail
  refine (hS _ _ _ _ _ hL2.il1 hL2.il2).mono ?_
  rintro e w23 ⟨⟨a3, c3, rfl, hA3⟩, hb24⟩
  have hs25 := hb24.size
  have z26 := z18.on hb24
  have z27 := hL2.on hb24
  clear z18 hL2
  have hB28 := stepA hB19 hb24
  clear hB19 hb24
  try simp only [size_al] at hs25
  try simp only [size_al] at hA3
  have z29 := bx_new (w := w23) [.int .i64 V, .slice a3 N c3] 34 rfl
  have hx30 : Below w23.heap.size w23 (w23.alloc (.cells #[.int .i64 V, .slice a3 N c3] 34)) := (Below.refl _ _).alloc (Nat.le_refl _) _
  have z31 := z26.on hx30
  have z32 := z27.on hx30
  have z33 := hA3.on hx30
  clear z26 z27 hA3
  have hB34 := stepA hB28 hx30
  clear hB28 hx30
  clear z32
  clear x20 x21 x22
  have x35 := z31.c0
  have x36 := z31.c1
  have x37 := z31.c2
  have x38 := z29.c0
  have x39 := z29.c1
  go_wp2_with fail
  refine (toCounts_any W a b n c m d f g _ hn hm (hf.below hB34) (hg.below hB34)).mono ?_
  rintro e w40 ⟨a4, b4, rfl, hL4, hb41⟩
  have hs42 := hb41.size
  have z43 := z31.on hb41
  have z44 := z33.on hb41
  have z45 := z29.on hb41
  clear z31 z33 z29
  have hB46 := stepA hB34 hb41
  clear hB34 hb41
  try simp only [size_al] at hs42
  try simp only [size_al] at hL4
  have z47 := bx_new (w := w40) [.int .i64 W, .slice a4 n n, .slice b4 m m] 26 rfl
  have hx48 : Below w40.heap.size w40 (w40.alloc (.cells #[.int .i64 W, .slice a4 n n, .slice b4 m m] 26)) := (Below.refl _ _).alloc (Nat.le_refl _) _
  have z49 := z43.on hx48
  have z50 := z44.on hx48
  have z51 := z45.on hx48
  have z52 := hL4.on hx48
  clear z43 z44 z45 hL4
  have hB53 := stepA hB46 hx48
  clear hB46 hx48
  clear x35 x36 x37 x38 x39
  have x54 := z49.c0
  have x55 := z49.c1
  have x56 := z49.c2
  have x57 := z51.c0
  have x58 := z51.c1
  have x59 := z47.c0
  have x60 := z47.c1
  have x61 := z47.c2
  go_wp2_with fail
  refine (hI _ _ _ _ _ z52.il1 z52.il2).mono ?_
  rintro e w62 ⟨⟨a5, c5, rfl, hA5⟩, hb63⟩
  have hs64 := hb63.size
  have z65 := z49.on hb63
  have z66 := z50.on hb63
  have z67 := z51.on hb63
  have z68 := z52.on hb63
  have z69 := z47.on hb63
  clear z49 z50 z51 z52 z47
  have hB70 := stepA hB53 hb63
  clear hB53 hb63
  try simp only [size_al] at hs64
  try simp only [size_al] at hA5
  have z71 := bx_new (w := w62) [.int .i64 V, .slice a5 N c5] 34 rfl
  have hx72 : Below w62.heap.size w62 (w62.alloc (.cells #[.int .i64 V, .slice a5 N c5] 34)) := (Below.refl _ _).alloc (Nat.le_refl _) _
  have z73 := z65.on hx72
  have z74 := z66.on hx72
  have z75 := z67.on hx72
  have z76 := z68.on hx72
  have z77 := z69.on hx72
  have z78 := hA5.on hx72
  clear z65 z66 z67 z68 z69 hA5
  have hB79 := stepA hB70 hx72
  clear hB70 hx72
  clear x54 x55 x56 x57 x58 x59 x60 x61
  have x80 := z73.c0
  have x81 := z73.c1
  have x82 := z73.c2
  have x83 := z75.c0
  have x84 := z75.c1
  have x85 := z77.c0
  have x86 := z77.c1
  have x87 := z77.c2
  have x88 := z71.c0
  have x89 := z71.c1
  go_wp2_with fail
  refine (eqCells_any V a5 a3 N c5 c3 K _ hN z78.il z74.il).mono ?_
  rintro e w90 ⟨rfl, hb91⟩
  have hs92 := hb91.size
  have z93 := z73.on hb91
  have z94 := z74.on hb91
  have z95 := z75.on hb91
  have z96 := z76.on hb91
  have z97 := z77.on hb91
  have z98 := z78.on hb91
  have z99 := z71.on hb91
  clear z73 z74 z75 z76 z77 z78 z71
  have hB100 := stepA hB79 hb91
  clear hB79 hb91
  try simp only [size_al] at hs92
  clear x80 x81 x82 x83 x84 x85 x86 x87 x88 x89
  have x101 := z93.c0
  have x102 := z93.c1
  have x103 := z93.c2
  have x104 := z95.c0
  have x105 := z95.c1
  have x106 := z97.c0
  have x107 := z97.c1
  have x108 := z97.c2
  have x109 := z99.c0
  have x110 := z99.c1
  go_wp2_with fail
  have hw111 := Below.refl w90.heap.size w90
  go_region_held3 (fun w' => w'.cell? ⟨w.heap.size, 0, none⟩ = some (.int .i64 W) ∧ w'.cell? ⟨w.heap.size, 1, none⟩ = some (.slice a n c) ∧ w'.cell? ⟨w.heap.size, 2, none⟩ = some (.slice b m d) ∧ w'.cell? ⟨w40.heap.size, 0, none⟩ = some (.int .i64 W) ∧ w'.cell? ⟨w40.heap.size, 1, none⟩ = some (.slice a4 n n) ∧ w'.cell? ⟨w40.heap.size, 2, none⟩ = some (.slice b4 m m))
    (first | (exact ⟨(z93.on hw111.drew).c0, (z93.on hw111.drew).c1, (z93.on hw111.drew).c2, (z97.on hw111.drew).c0, (z97.on hw111.drew).c1, (z97.on hw111.drew).c2⟩) | (exact ⟨(z93.on hw114).c0, (z93.on hw114).c1, (z93.on hw114).c2, (z97.on hw114).c0, (z97.on hw114).c1, (z97.on hw114).c2⟩) | (exact ⟨(z93.on hw117).c0, (z93.on hw117).c1, (z93.on hw117).c2, (z97.on hw117).c0, (z97.on hw117).c1, (z97.on hw117).c2⟩) | (fail))
    (first | (go_at_call 9; refine (toCounts_any W a b n c m d f g _ hn hm (hf.below (stepA hB100 hw111.drew)) (hg.below (stepA hB100 hw111.drew))).mono ?_; rintro e w112 ⟨a9, b9, rfl, hL9, hb113⟩; have hw114 := stepA hw111.drew hb113; clear hb113) | (go_at_call 11; refine (eqCounts_any W _ _ _ _ n _ m _ _ _ f g _ hn hm (z96.on hw114).il1 (z96.on hw114).il2 hL9.il1 hL9.il2).mono ?_; rintro e w115 ⟨rfl, hb116⟩; have hw117 := stepA hw114 hb116; clear hb116) | (fail))
  have hs118 := hw117.size
  try simp only [size_al] at hs118
  have z119 := z93.on hw117
  have z120 := z94.on hw117
  have z121 := z95.on hw117
  have z122 := z96.on hw117
  have z123 := z97.on hw117
  have z124 := z98.on hw117
  have z125 := z99.on hw117
  clear z93 z94 z95 z96 z97 z98 z99
  have hB126 := stepA hB100 hw117
  clear hB100
  clear hL9
  clear x101 x102 x103 x104 x105 x106 x107 x108 x109 x110
  have x127 := z119.c0
  have x128 := z119.c1
  have x129 := z119.c2
  have x130 := z121.c0
  have x131 := z121.c1
  have x132 := z123.c0
  have x133 := z123.c1
  have x134 := z123.c2
  have x135 := z125.c0
  have x136 := z125.c1
  go_wp2_with fail
  refine (markCounts_any W a4 b4 n n m m 1 (w23.heap.size + 1) (w40.heap.size) f g _ hn hm (by omega) z122 (by first | omega | (simp only [size_al]; omega))).mono ?_
  rintro e w137 ⟨rfl, z139, ht138⟩
  have hs140 := ht138.size
  try simp only [size_al] at hs140
  have z141 := z119.turns ht138 (by first | omega | (simp only [size_al]; omega))
  have z142 := z120.turns ht138 (by first | omega | (simp only [size_al]; omega))
  have z143 := z121.turns ht138 (by first | omega | (simp only [size_al]; omega))
  have z144 := z123.turns ht138 (by first | omega | (simp only [size_al]; omega))
  have z145 := z124.turns ht138 (by first | omega | (simp only [size_al]; omega))
  have z146 := z125.turns ht138 (by first | omega | (simp only [size_al]; omega))
  clear z119 z120 z121 z123 z124 z125
  have hB147 := hB126.trans (ht138.below (by omega) (by first | omega | (simp only [size_al]; omega)))
  clear hB126 ht138 z122
  clear x127 x128 x129 x130 x131 x132 x133 x134 x135 x136
  have x148 := z141.c0
  have x149 := z141.c1
  have x150 := z141.c2
  have x151 := z143.c0
  have x152 := z143.c1
  have x153 := z144.c0
  have x154 := z144.c1
  have x155 := z144.c2
  have x156 := z146.c0
  have x157 := z146.c1
  go_wp2_with fail
  refine (eqCells_any V a5 a3 N c5 c3 K _ hN z145.il z142.il).mono ?_
  rintro e w158 ⟨rfl, hb159⟩
  have hs160 := hb159.size
  have z161 := z141.on hb159
  have z162 := z142.on hb159
  have z163 := z143.on hb159
  have z164 := z144.on hb159
  have z165 := z145.on hb159
  have z166 := z146.on hb159
  have z167 := z139.on hb159
  clear z141 z142 z143 z144 z145 z146 z139
  have hB168 := stepA hB147 hb159
  clear hB147 hb159
  try simp only [size_al] at hs160
  clear x148 x149 x150 x151 x152 x153 x154 x155 x156 x157
  have x169 := z161.c0
  have x170 := z161.c1
  have x171 := z161.c2
  have x172 := z163.c0
  have x173 := z163.c1
  have x174 := z164.c0
  have x175 := z164.c1
  have x176 := z164.c2
  have x177 := z166.c0
  have x178 := z166.c1
  go_wp2_with fail
  refine (markCells_any V a5 N c5 1 (w40.heap.size + 1) (w62.heap.size) K _ hN (by omega) z165).mono ?_
  rintro e w179 ⟨rfl, z181, ht180⟩
  have hs182 := ht180.size
  try simp only [size_al] at hs182
  have z183 := z161.turns ht180 (by first | omega | (simp only [size_al]; omega))
  have z184 := z162.turns ht180 (by first | omega | (simp only [size_al]; omega))
  have z185 := z163.turns ht180 (by first | omega | (simp only [size_al]; omega))
  have z186 := z164.turns ht180 (by first | omega | (simp only [size_al]; omega))
  have z187 := z166.turns ht180 (by first | omega | (simp only [size_al]; omega))
  have z188 := z167.turns ht180 (by first | omega | (simp only [size_al]; omega))
  clear z161 z162 z163 z164 z166 z167
  have hB189 := hB168.trans (ht180.below (by omega) (by first | omega | (simp only [size_al]; omega)))
  clear hB168 ht180 z165
  clear x169 x170 x171 x172 x173 x174 x175 x176 x177 x178
  have x190 := z183.c0
  have x191 := z183.c1
  have x192 := z183.c2
  have x193 := z185.c0
  have x194 := z185.c1
  have x195 := z186.c0
  have x196 := z186.c1
  have x197 := z186.c2
  have x198 := z187.c0
  have x199 := z187.c1
  go_wp2_with fail
  refine (heldCells_any V a5 N c5 1 (w40.heap.size + 1) (w62.heap.size) _ hN (by omega) z181).mono ?_
  rintro e w200 ⟨rfl, hb201⟩
  have hs202 := hb201.size
  have z203 := z183.on hb201
  have z204 := z184.on hb201
  have z205 := z185.on hb201
  have z206 := z186.on hb201
  have z207 := z187.on hb201
  have z208 := z188.on hb201
  have z209 := z181.on hb201
  clear z183 z184 z185 z186 z187 z188 z181
  have hB210 := stepA hB189 hb201
  clear hB189 hb201
  try simp only [size_al] at hs202
  clear x190 x191 x192 x193 x194 x195 x196 x197 x198 x199
  have x211 := z203.c0
  have x212 := z203.c1
  have x213 := z203.c2
  have x214 := z205.c0
  have x215 := z205.c1
  have x216 := z206.c0
  have x217 := z206.c1
  have x218 := z206.c2
  have x219 := z207.c0
  have x220 := z207.c1
  go_wp2_with fail
  refine (toCounts_any W a b n c m d f g _ hn hm (hf.below hB210) (hg.below hB210)).mono ?_
  rintro e w221 ⟨a6, b6, rfl, hL6, hb222⟩
  have hs223 := hb222.size
  have z224 := z203.on hb222
  have z225 := z204.on hb222
  have z226 := z205.on hb222
  have z227 := z206.on hb222
  have z228 := z207.on hb222
  have z229 := z208.on hb222
  have z230 := z209.on hb222
  clear z203 z204 z205 z206 z207 z208 z209
  have hB231 := stepA hB210 hb222
  clear hB210 hb222
  try simp only [size_al] at hs223
  try simp only [size_al] at hL6
  clear x211 x212 x213 x214 x215 x216 x217 x218 x219 x220
  have x232 := z224.c0
  have x233 := z224.c1
  have x234 := z224.c2
  have x235 := z226.c0
  have x236 := z226.c1
  have x237 := z227.c0
  have x238 := z227.c1
  have x239 := z227.c2
  have x240 := z228.c0
  have x241 := z228.c1
  go_wp2_with fail
  refine (hI _ _ _ _ _ hL6.il1 hL6.il2).mono ?_
  rintro e w242 ⟨⟨a7, c7, rfl, hA7⟩, hb243⟩
  have hs244 := hb243.size
  have z245 := z224.on hb243
  have z246 := z225.on hb243
  have z247 := z226.on hb243
  have z248 := z227.on hb243
  have z249 := z228.on hb243
  have z250 := z229.on hb243
  have z251 := z230.on hb243
  have z252 := hL6.on hb243
  clear z224 z225 z226 z227 z228 z229 z230 hL6
  have hB253 := stepA hB231 hb243
  clear hB231 hb243
  try simp only [size_al] at hs244
  try simp only [size_al] at hA7
  have z254 := bx_new (w := w242) [.int .i64 V, .slice a7 N c7] 34 rfl
  have hx255 : Below w242.heap.size w242 (w242.alloc (.cells #[.int .i64 V, .slice a7 N c7] 34)) := (Below.refl _ _).alloc (Nat.le_refl _) _
  have z256 := z245.on hx255
  have z257 := z246.on hx255
  have z258 := z247.on hx255
  have z259 := z248.on hx255
  have z260 := z249.on hx255
  have z261 := z250.on hx255
  have z262 := z251.on hx255
  have z263 := z252.on hx255
  have z264 := hA7.on hx255
  clear z245 z246 z247 z248 z249 z250 z251 z252 hA7
  have hB265 := stepA hB253 hx255
  clear hB253 hx255
  clear x232 x233 x234 x235 x236 x237 x238 x239 x240 x241
  have x266 := z256.c0
  have x267 := z256.c1
  have x268 := z256.c2
  have x269 := z258.c0
  have x270 := z258.c1
  have x271 := z259.c0
  have x272 := z259.c1
  have x273 := z259.c2
  have x274 := z260.c0
  have x275 := z260.c1
  have x276 := z254.c0
  have x277 := z254.c1
  go_wp2_with fail
  refine (eqCells_any V a7 a3 N c7 c3 K _ hN z264.il z257.il).mono ?_
  rintro e w278 ⟨rfl, hb279⟩
  have hs280 := hb279.size
  have z281 := z256.on hb279
  have z282 := z257.on hb279
  have z283 := z258.on hb279
  have z284 := z259.on hb279
  have z285 := z260.on hb279
  have z286 := z261.on hb279
  have z287 := z262.on hb279
  have z288 := z263.on hb279
  have z289 := z264.on hb279
  have z290 := z254.on hb279
  clear z256 z257 z258 z259 z260 z261 z262 z263 z264 z254
  have hB291 := stepA hB265 hb279
  clear hB265 hb279
  try simp only [size_al] at hs280
  clear x266 x267 x268 x269 x270 x271 x272 x273 x274 x275 x276 x277
  have x292 := z281.c0
  have x293 := z281.c1
  have x294 := z281.c2
  have x295 := z283.c0
  have x296 := z283.c1
  have x297 := z284.c0
  have x298 := z284.c1
  have x299 := z284.c2
  have x300 := z285.c0
  have x301 := z285.c1
  have x302 := z290.c0
  have x303 := z290.c1
  go_wp2_with fail
  refine (heldCells_any V a5 N c5 1 (w40.heap.size + 1) (w62.heap.size) _ hN (by omega) z287).mono ?_
  rintro e w304 ⟨rfl, hb305⟩
  have hs306 := hb305.size
  have z307 := z281.on hb305
  have z308 := z282.on hb305
  have z309 := z283.on hb305
  have z310 := z284.on hb305
  have z311 := z285.on hb305
  have z312 := z286.on hb305
  have z313 := z287.on hb305
  have z314 := z288.on hb305
  have z315 := z289.on hb305
  have z316 := z290.on hb305
  clear z281 z282 z283 z284 z285 z286 z287 z288 z289 z290
  have hB317 := stepA hB291 hb305
  clear hB291 hb305
  try simp only [size_al] at hs306
  clear x292 x293 x294 x295 x296 x297 x298 x299 x300 x301 x302 x303
  clear z307
  clear z308
  clear z309
  clear z310
  clear z311
  clear z312
  clear z313
  clear z314
  clear z315
  clear z316
  go_wp2
  go_ret
  exact ⟨rfl, hB317⟩
set_option maxHeartbeats 400000 in
theorem cofLaw_long (W : Int) (a b : Option Addr) (n c m d : Nat) (w : World) (h : 1048576 < n + m) (hn : n ≤ 9223372036854775807) (hm : m ≤ 9223372036854775807) :
    Calls Try.prog 4 #[cnt W a n c b m d] w fun e w' => e = .returned (.bool true) ∧ Below w.heap.size w w' := by
  have hB0 : Below w.heap.size w (w.alloc (cntO W a n c b m d 24)) := (Below.refl _ _).alloc (Nat.le_refl _) _
  go_enter Try.func4, Try.ntmps4
  go_wp2_with fail
  refine (szCounts_out W a b n c m d _ h hn hm).mono ?_
  rintro e w1 ⟨rfl, hb1⟩
  have hB1 := stepA hB0 hb1
  go_wp2
  go_ret
  exact ⟨rfl, hB1⟩
theorem cofAll (W : Int) (a b : Option Addr) (n c m d : Nat) (f g : Nat → Int) (w : World) (hn : n ≤ 9223372036854775807) (hm : m ≤ 9223372036854775807) (hf : IL w a n f) (hg : IL w b m g) :
    Calls Try.prog 4 #[cnt W a n c b m d] w fun e w' => e = .returned (.bool true) ∧ Below w.heap.size w w' := by
  by_cases h : n + m ≤ 1048576
  · exact cofLaw W a b n c m d f g w h hf hg
  · exact cofLaw_long W a b n c m d w (by omega) hn hm
end Go.Proofs.Ytipopglbpfdcmab
