/- The walk of the law on RunChart. -/
import Derived.Test.YtjefakfongehdaaRChRunS
import Derived.Test.YtjefakfongehdaaRChMark
import Derived.Test.YtjefakfongehdaaRLqMark
namespace Go.Proofs.YtjefakfongehdaaR
open Go.RowKit
theorem runN_le (n : Nat) (f : Nat → Int) (m : Nat) (g : Nat → Int) (q : Nat) (h : Nat → Int) : runN (runQ n f m g q h) q ≤ 61 := by
  cases e : runQ n f m g q h with
  | false => exact Nat.zero_le _
  | true =>
    unfold runQ evsB at e
    simp only [Bool.and_eq_true, decide_eq_true_eq] at e
    show q + 1 ≤ 61
    omega
set_option maxRecDepth 20000 in
set_option maxHeartbeats 8000000 in
theorem runLaw (a b x : Option Addr) (n c m d q r : Nat) (f g h : Nat → Int) (w : World) (h0 : n + m ≤ 1048576) (hq : q ≤ 1048576) (hf : IL w a (n * 2) f) (hg : IL w b (m * 3) g) (hh : IL w x q h)
    (hI : ∀ (a b x : Option Addr) (c d r : Nat) (w : World), n ≤ c → IL w a (n * 2) f → IL w b (m * 3) g → IL w x q h → Calls Try.prog 9 #[chv a n c b m d, .slice x q r] w fun e w' => AnsQb w w' e (runN (runQ n f m g q h) q) (runF n f m g h) (runQ n f m g q h) ∧ Below w.heap.size w w') :
    Calls Try.prog 7 #[chv a n c b m d, .slice x q r] w fun e w' => e = .returned (.bool true) ∧ Below w.heap.size w w' := by
  have hn : n ≤ 1048576 := by omega
  have hm : m ≤ 1048576 := by omega
  have j1 : ¬ (1048576 : Int) - (n : Int) - (m : Int) < 0 := by omega
  have hN : runN (runQ n f m g q h) q ≤ 1048576 := by have := runN_le n f m g q h; omega
  have hS := fun a b x c d r w h1 h2 h3 => sRunChart a b x n c m d q r f g h w hn hm hq h1 h2 h3
  generalize runN (runQ n f m g q h) q = N at hI hS hN
  generalize runF n f m g h = F at hI hS
  generalize runQ n f m g q h = T at hI hS
  have jq : ¬ (1048576 : Int) < (q : Int) := by omega
  have jk : ¬ (1 : Int) + (n : Int) * 2 + (m : Int) * 3 + (q : Int) < 0 := by omega
  have jn : ¬ (1 : Int) + (N : Int) < 0 := by omega
  go_enter Try.func7, Try.ntmps7
  have hB0 := Below.refl w.heap.size w
  have z1 := bx_new (b := w.heap.size) (w := w) [.slice a n c, .slice b m d] 43 (by first | rfl | simp only [size_al])
  have hx2 : Below w.heap.size w (w.alloc (.cells #[.slice a n c, .slice b m d] 43)) := (Below.refl _ _).alloc (Nat.le_refl _) _
  have hB3 := stepA hB0 hx2
  clear hB0 hx2
  have x4 := z1.c0
  have x5 := z1.c1
  go_wp2_with fail
  refine (szChart_in a b n c m d 1048576 _ (by omega) (by omega)).mono ?_
  rintro e w6 ⟨rfl, hb7⟩
  have hs8 := hb7.size
  have z9 := z1.on hb7
  clear z1
  have hB10 := stepA hB3 hb7
  clear hB3 hb7
  try simp only [size_al] at hs8
  clear x4 x5
  have x11 := z9.c0
  have x12 := z9.c1
  go_wp2_with fail
  refine (toChart_any a b n c m d f g _ hn hm (hf.below (hB10)) (hg.below (hB10))).mono ?_
  rintro e w13 ⟨p1, p2, rfl, hP, hb14⟩
  have hs15 := hb14.size
  have z16 := z9.on hb14
  clear z9
  have hB17 := stepA hB10 hb14
  clear hB10 hb14
  try simp only [size_al] at hs15
  try simp only [size_al] at hP
  clear x11 x12
  have x18 := z16.c0
  have x19 := z16.c1
  go_wp2_with fail
  refine (copyQ x q r h _ hq (hh.below hB17)).mono ?_
  rintro e w20 ⟨rfl, hE0, hE0s, hb21⟩
  have hs22 := hb21.size
  have z23 := z16.on hb21
  have z24 := hP.on hb21
  clear z16 hP
  have hB25 := stepA hB17 hb21
  clear hB17 hb21
  try simp only [size_al] at hs22
  try simp only [size_al] at hE0 hE0s
  clear x18 x19
  have x26 := z23.c0
  have x27 := z23.c1
  go_wp2_with fail
  refine (hS p1 p2 _ n m q _ z24.il1 z24.il2 hE0.il).mono ?_
  rintro e w28 ⟨⟨a3, c3, rfl, hA3⟩, hb29⟩
  have hs30 := hb29.size
  have z31 := z23.on hb29
  have z32 := z24.on hb29
  have z33 := hE0.on hb29
  clear z23 z24 hE0
  have hB34 := stepA hB25 hb29
  clear hB25 hb29
  try simp only [size_al] at hs30
  try simp only [size_al] at hA3
  clear z32
  clear z33
  clear x26 x27
  have x35 := z31.c0
  have x36 := z31.c1
  go_wp2_with fail
  refine (toChart_any a b n c m d f g _ hn hm (hf.below (hB34)) (hg.below (hB34))).mono ?_
  rintro e w37 ⟨q1, q2, rfl, hQ, hb38⟩
  have hs39 := hb38.size
  have z40 := z31.on hb38
  have z41 := hA3.on hb38
  clear z31 hA3
  have hB42 := stepA hB34 hb38
  clear hB34 hb38
  try simp only [size_al] at hs39
  try simp only [size_al] at hQ
  have z43 := bx_new (b := w37.heap.size) (w := w37) [.slice q1 n n, .slice q2 m m] 26 (by first | rfl | simp only [size_al])
  have hx44 : Below w37.heap.size w37 (w37.alloc (.cells #[.slice q1 n n, .slice q2 m m] 26)) := (Below.refl _ _).alloc (Nat.le_refl _) _
  have z45 := z40.on hx44
  have z46 := z41.on hx44
  have z47 := hQ.on hx44
  clear z40 z41 hQ
  have hB48 := stepA hB42 hx44
  clear hB42 hx44
  clear x35 x36
  have x49 := z45.c0
  have x50 := z45.c1
  have x51 := z43.c0
  have x52 := z43.c1
  go_wp2_with fail
  refine (copyQ x q r h _ hq (hh.below hB48)).mono ?_
  rintro e w53 ⟨rfl, hE1, hE1s, hb54⟩
  have hs55 := hb54.size
  have z56 := z45.on hb54
  have z57 := z46.on hb54
  have z58 := z47.on hb54
  have z59 := z43.on hb54
  clear z45 z46 z47 z43
  have hB60 := stepA hB48 hb54
  clear hB48 hb54
  try simp only [size_al] at hs55
  try simp only [size_al] at hE1 hE1s
  clear x49 x50 x51 x52
  have x61 := z56.c0
  have x62 := z56.c1
  have x63 := z59.c0
  have x64 := z59.c1
  go_wp2_with fail
  refine (hI q1 q2 _ n m q _ (Nat.le_refl _) z58.il1 z58.il2 hE1.il).mono ?_
  rintro e w65 ⟨⟨a5, c5, rfl, hA5⟩, hb66⟩
  have hs67 := hb66.size
  have z68 := z56.on hb66
  have z69 := z57.on hb66
  have z70 := z58.on hb66
  have z71 := z59.on hb66
  have z72 := hE1.on hb66
  clear z56 z57 z58 z59 hE1
  have hB73 := stepA hB60 hb66
  clear hB60 hb66
  try simp only [size_al] at hs67
  try simp only [size_al] at hA5
  clear x61 x62 x63 x64
  have x74 := z68.c0
  have x75 := z68.c1
  have x76 := z71.c0
  have x77 := z71.c1
  go_wp2_with fail
  refine (eqI_any a5 a3 N c5 c3 F _ hN hA5.il z69.il).mono ?_
  rintro e w78 ⟨rfl, hb79⟩
  have hs80 := hb79.size
  have z81 := z68.on hb79
  have z82 := z69.on hb79
  have z83 := z70.on hb79
  have z84 := z71.on hb79
  have z85 := z72.on hb79
  have z86 := hA5.on hb79
  clear z68 z69 z70 z71 z72 hA5
  have hB87 := stepA hB73 hb79
  clear hB73 hb79
  try simp only [size_al] at hs80
  clear x74 x75 x76 x77
  have x88 := z81.c0
  have x89 := z81.c1
  have x90 := z84.c0
  have x91 := z84.c1
  go_wp2_with fail
  have hw92 := Below.refl w78.heap.size w78
  go_region_held3 (fun w' => w'.cell? ⟨w.heap.size, 0, none⟩ = some (.slice a n c) ∧ w'.cell? ⟨w.heap.size, 1, none⟩ = some (.slice b m d) ∧ w'.cell? ⟨w37.heap.size, 0, none⟩ = some (.slice q1 n n) ∧ w'.cell? ⟨w37.heap.size, 1, none⟩ = some (.slice q2 m m))
    (first | (exact ⟨(z81.on hw92.drew).c0, (z81.on hw92.drew).c1, (z84.on hw92.drew).c0, (z84.on hw92.drew).c1⟩) | (exact ⟨(z81.on hw95).c0, (z81.on hw95).c1, (z84.on hw95).c0, (z84.on hw95).c1⟩) | (exact ⟨(z81.on hw98).c0, (z81.on hw98).c1, (z84.on hw98).c0, (z84.on hw98).c1⟩) | (fail))
    (first | (go_at_call 17; refine (toChart_any a b n c m d f g _ hn hm (hf.below (stepA hB87 (hw92.drew))) (hg.below (stepA hB87 (hw92.drew)))).mono ?_; rintro e w93 ⟨r11, r21, rfl, hR1, hb94⟩; have hw95 := stepA hw92.drew hb94; clear hb94) | (go_at_call 19; refine (eqChart_any _ _ _ _ n _ m _ _ _ f g _ hn hm (z83.on (hw95)).il1 (z83.on (hw95)).il2 hR1.il1 hR1.il2).mono ?_; rintro e w96 ⟨rfl, hb97⟩; have hw98 := stepA hw95 hb97; clear hb97) | (fail))
  have hs99 := hw98.size
  try simp only [size_al] at hs99
  have z100 := z81.on hw98
  have z101 := z82.on hw98
  have z102 := z83.on hw98
  have z103 := z84.on hw98
  have z104 := z85.on hw98
  have z105 := z86.on hw98
  clear z81 z82 z83 z84 z85 z86
  have hB106 := stepA hB87 hw98
  clear hB87
  clear hR1
  clear x88 x89 x90 x91
  have x107 := z100.c0
  have x108 := z100.c1
  have x109 := z103.c0
  have x110 := z103.c1
  go_wp2_with fail
  refine (copyQ x q r h _ hq (hh.below hB106)).mono ?_
  rintro e w111 ⟨rfl, hE2, hE2s, hb112⟩
  have hs113 := hb112.size
  have z114 := z100.on hb112
  have z115 := z101.on hb112
  have z116 := z102.on hb112
  have z117 := z103.on hb112
  have z118 := z104.on hb112
  have z119 := z105.on hb112
  clear z100 z101 z102 z103 z104 z105
  have hB120 := stepA hB106 hb112
  clear hB106 hb112
  try simp only [size_al] at hs113
  try simp only [size_al] at hE2 hE2s
  clear x107 x108 x109 x110
  have x121 := z114.c0
  have x122 := z114.c1
  have x123 := z117.c0
  have x124 := z117.c1
  go_wp2_with fail
  refine (eqI_any (some ⟨w37.heap.size + 1, 0, none⟩) (some ⟨w96.heap.size, 0, none⟩) q q q h _ hq z118.il hE2.il).mono ?_
  rintro e w125 ⟨rfl, hb126⟩
  have hs127 := hb126.size
  have z128 := z114.on hb126
  have z129 := z115.on hb126
  have z130 := z116.on hb126
  have z131 := z117.on hb126
  have z132 := z118.on hb126
  have z133 := z119.on hb126
  have z134 := hE2.on hb126
  clear z114 z115 z116 z117 z118 z119 hE2
  have hB135 := stepA hB120 hb126
  clear hB120 hb126
  try simp only [size_al] at hs127
  clear z134
  clear x121 x122 x123 x124
  have x136 := z128.c0
  have x137 := z128.c1
  have x138 := z131.c0
  have x139 := z131.c1
  go_wp2_with fail
  refine (markChart_any q1 q2 n n m m (w28.heap.size) (w37.heap.size) f g _ h0 z130 (by first | omega | (simp only [size_al]; omega))).mono ?_
  rintro e w140 ⟨rfl, z142, ht141⟩
  have hs143 := ht141.size
  try simp only [size_al] at hs143
  have z144 := z128.turns ht141 (by first | omega | (simp only [size_al]; omega))
  have z145 := z129.turns ht141 (by first | omega | (simp only [size_al]; omega))
  have z146 := z131.turns ht141 (by first | omega | (simp only [size_al]; omega))
  have z147 := z132.turns ht141 (by first | omega | (simp only [size_al]; omega))
  have z148 := z133.turns ht141 (by first | omega | (simp only [size_al]; omega))
  clear z128 z129 z131 z132 z133
  have hB149 := hB135.trans (ht141.below (by omega) (by first | omega | (simp only [size_al]; omega)))
  clear hB135 ht141 z130
  clear x136 x137 x138 x139
  have x150 := z144.c0
  have x151 := z144.c1
  have x152 := z146.c0
  have x153 := z146.c1
  go_wp2_with fail
  refine (markZ (some ⟨w37.heap.size + 1, 0, none⟩) q q (1 + (n : Int) * 2 + (m : Int) * 3) (w37.heap.size + 1) (w37.heap.size + 1 + 1) h _ hq (by omega) (by omega) z147).mono ?_
  rintro e w154 ⟨rfl, z156, ht155⟩
  have hs157 := ht155.size
  try simp only [size_al] at hs157
  have z158 := z144.turns ht155 (by first | omega | (simp only [size_al]; omega))
  have z159 := z145.turns ht155 (by first | omega | (simp only [size_al]; omega))
  have z160 := z146.turns ht155 (by first | omega | (simp only [size_al]; omega))
  have z161 := z148.turns ht155 (by first | omega | (simp only [size_al]; omega))
  have z162 := z142.turns ht155 (by first | omega | (simp only [size_al]; omega))
  clear z144 z145 z146 z148 z142
  have hB163 := hB149.trans (ht155.below (by omega) (by first | omega | (simp only [size_al]; omega)))
  clear hB149 ht155 z147
  clear x150 x151 x152 x153
  have x164 := z158.c0
  have x165 := z158.c1
  have x166 := z160.c0
  have x167 := z160.c1
  go_wp2_with fail
  refine (eqI_any a5 a3 N c5 c3 F _ hN z161.il z159.il).mono ?_
  rintro e w168 ⟨rfl, hb169⟩
  have hs170 := hb169.size
  have z171 := z158.on hb169
  have z172 := z159.on hb169
  have z173 := z160.on hb169
  have z174 := z161.on hb169
  have z175 := z162.on hb169
  have z176 := z156.on hb169
  clear z158 z159 z160 z161 z162 z156
  have hB177 := stepA hB163 hb169
  clear hB163 hb169
  try simp only [size_al] at hs170
  clear x164 x165 x166 x167
  have x178 := z171.c0
  have x179 := z171.c1
  have x180 := z173.c0
  have x181 := z173.c1
  go_wp2_with fail
  refine (markT a5 N c5 1 (w53.heap.size) (w65.heap.size) F _ hN (by omega) z174).mono ?_
  rintro e w182 ⟨rfl, z184, ht183⟩
  have hs185 := ht183.size
  try simp only [size_al] at hs185
  have z186 := z171.turns ht183 (by first | omega | (simp only [size_al]; omega))
  have z187 := z172.turns ht183 (by first | omega | (simp only [size_al]; omega))
  have z188 := z173.turns ht183 (by first | omega | (simp only [size_al]; omega))
  have z189 := z175.turns ht183 (by first | omega | (simp only [size_al]; omega))
  have z190 := z176.turns ht183 (by first | omega | (simp only [size_al]; omega))
  clear z171 z172 z173 z175 z176
  have hB191 := hB177.trans (ht183.below (by omega) (by first | omega | (simp only [size_al]; omega)))
  clear hB177 ht183 z174
  clear x178 x179 x180 x181
  have x192 := z186.c0
  have x193 := z186.c1
  have x194 := z188.c0
  have x195 := z188.c1
  go_wp2_with fail
  refine (heldQ a5 N c5 1 (w53.heap.size) (w65.heap.size) _ hN (by omega) z184).mono ?_
  rintro e w196 ⟨rfl, hb197⟩
  have hs' := hb197.symm
  clear hb197
  subst hs'
  clear x192 x193 x194 x195
  have x198 := z186.c0
  have x199 := z186.c1
  have x200 := z188.c0
  have x201 := z188.c1
  go_wp2_with fail
  refine (toChart_any a b n c m d f g _ hn hm (hf.below (hB191)) (hg.below (hB191))).mono ?_
  rintro e w202 ⟨r1, r2, rfl, hR, hb203⟩
  have hs204 := hb203.size
  have z205 := z186.on hb203
  have z206 := z187.on hb203
  have z207 := z188.on hb203
  have z208 := z189.on hb203
  have z209 := z190.on hb203
  have z210 := z184.on hb203
  clear z186 z187 z188 z189 z190 z184
  have hB211 := stepA hB191 hb203
  clear hB191 hb203
  try simp only [size_al] at hs204
  try simp only [size_al] at hR
  clear x198 x199 x200 x201
  have x212 := z205.c0
  have x213 := z205.c1
  have x214 := z207.c0
  have x215 := z207.c1
  go_wp2_with fail
  refine (copyQ x q r h _ hq (hh.below hB211)).mono ?_
  rintro e w216 ⟨rfl, hE3, hE3s, hb217⟩
  have hs218 := hb217.size
  have z219 := z205.on hb217
  have z220 := z206.on hb217
  have z221 := z207.on hb217
  have z222 := z208.on hb217
  have z223 := z209.on hb217
  have z224 := z210.on hb217
  have z225 := hR.on hb217
  clear z205 z206 z207 z208 z209 z210 hR
  have hB226 := stepA hB211 hb217
  clear hB211 hb217
  try simp only [size_al] at hs218
  try simp only [size_al] at hE3 hE3s
  clear x212 x213 x214 x215
  have x227 := z219.c0
  have x228 := z219.c1
  have x229 := z221.c0
  have x230 := z221.c1
  go_wp2_with fail
  refine (hI r1 r2 _ n m q _ (Nat.le_refl _) z225.il1 z225.il2 hE3.il).mono ?_
  rintro e w231 ⟨⟨a8, c8, rfl, hA8⟩, hb232⟩
  have hs233 := hb232.size
  have z234 := z219.on hb232
  have z235 := z220.on hb232
  have z236 := z221.on hb232
  have z237 := z222.on hb232
  have z238 := z223.on hb232
  have z239 := z224.on hb232
  have z240 := z225.on hb232
  have z241 := hE3.on hb232
  clear z219 z220 z221 z222 z223 z224 z225 hE3
  have hB242 := stepA hB226 hb232
  clear hB226 hb232
  try simp only [size_al] at hs233
  try simp only [size_al] at hA8
  clear x227 x228 x229 x230
  have x243 := z234.c0
  have x244 := z234.c1
  have x245 := z236.c0
  have x246 := z236.c1
  go_wp2_with fail
  refine (eqI_any a8 a3 N c8 c3 F _ hN hA8.il z235.il).mono ?_
  rintro e w247 ⟨rfl, hb248⟩
  have hs249 := hb248.size
  have z250 := z234.on hb248
  have z251 := z235.on hb248
  have z252 := z236.on hb248
  have z253 := z237.on hb248
  have z254 := z238.on hb248
  have z255 := z239.on hb248
  have z256 := z240.on hb248
  have z257 := z241.on hb248
  have z258 := hA8.on hb248
  clear z234 z235 z236 z237 z238 z239 z240 z241 hA8
  have hB259 := stepA hB242 hb248
  clear hB242 hb248
  try simp only [size_al] at hs249
  clear x243 x244 x245 x246
  have x260 := z250.c0
  have x261 := z250.c1
  have x262 := z252.c0
  have x263 := z252.c1
  go_wp2_with fail
  refine (heldQ a5 N c5 1 (w53.heap.size) (w65.heap.size) _ hN (by omega) z255).mono ?_
  rintro e w264 ⟨rfl, hb265⟩
  have hs' := hb265.symm
  clear hb265
  subst hs'
  clear x260 x261 x262 x263
  clear z250
  clear z251
  clear z252
  clear z253
  clear z254
  clear z255
  clear z256
  clear z257
  clear z258
  go_wp2
  go_ret
  exact ⟨rfl, hB259⟩
set_option maxHeartbeats 1000000 in
theorem runLaw_long (a b x : Option Addr) (n c m d q r : Nat) (w : World) (h : 1048576 < q) :
    Calls Try.prog 7 #[chv a n c b m d, .slice x q r] w fun e w' => e = .returned (.bool true) ∧ Below w.heap.size w w' := by
  have hB0 : Below w.heap.size w (w.alloc (chO a n c b m d 43)) := (Below.refl _ _).alloc (Nat.le_refl _) _
  have jq : (1048576 : Int) < (q : Int) := by omega
  go_enter Try.func7, Try.ntmps7
  go_wp2
  go_ret
  exact ⟨rfl, hB0⟩
set_option maxHeartbeats 1000000 in
theorem runLaw_long2 (a b x : Option Addr) (n c m d q r : Nat) (w : World) (hq : q ≤ 1048576) (h : 1048576 < n + m) (hn : n ≤ 9223372036854775807) (hm : m ≤ 9223372036854775807) :
    Calls Try.prog 7 #[chv a n c b m d, .slice x q r] w fun e w' => e = .returned (.bool true) ∧ Below w.heap.size w w' := by
  have hB0 : Below w.heap.size w (w.alloc (chO a n c b m d 43)) := (Below.refl _ _).alloc (Nat.le_refl _) _
  have b0 := bx_new (w := w) (chL a n c b m d) 43 rfl
  have x0 := b0.c0
  have x1 := b0.c1
  have jq : ¬ (1048576 : Int) < (q : Int) := by omega
  go_enter Try.func7, Try.ntmps7
  go_wp2_with fail
  refine (szChart_out a b n c m d 1048576 _ (by omega) (by omega) (by omega) hn hm).mono ?_
  rintro e w1 ⟨rfl, hb1⟩
  have hB1 := stepA hB0 hb1
  clear x0 x1
  go_wp2
  go_ret
  exact ⟨rfl, hB1⟩
theorem runAll (a b x : Option Addr) (n c m d q r : Nat) (f g h : Nat → Int) (w : World) (hn : n ≤ 9223372036854775807) (hm : m ≤ 9223372036854775807) (hf : IL w a (n * 2) f) (hg : IL w b (m * 3) g) (hh : IL w x q h)
    (hI : n ≤ 1048576 → m ≤ 1048576 → q ≤ 1048576 → ∀ (a b x : Option Addr) (c d r : Nat) (w : World), n ≤ c → IL w a (n * 2) f → IL w b (m * 3) g → IL w x q h → Calls Try.prog 9 #[chv a n c b m d, .slice x q r] w fun e w' => AnsQb w w' e (runN (runQ n f m g q h) q) (runF n f m g h) (runQ n f m g q h) ∧ Below w.heap.size w w') :
    Calls Try.prog 7 #[chv a n c b m d, .slice x q r] w fun e w' => e = .returned (.bool true) ∧ Below w.heap.size w w' := by
  by_cases hq : q ≤ 1048576
  · by_cases h0 : n + m ≤ 1048576
    · exact runLaw a b x n c m d q r f g h w h0 hq hf hg hh (hI (by omega) (by omega) hq)
    · exact runLaw_long2 a b x n c m d q r w hq (by omega) hn hm
  · exact runLaw_long a b x n c m d q r w (by omega)
end Go.Proofs.YtjefakfongehdaaR
