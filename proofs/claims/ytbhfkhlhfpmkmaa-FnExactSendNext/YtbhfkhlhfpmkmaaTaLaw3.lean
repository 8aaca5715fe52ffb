/- The walk of the law on SendNext (tools/gen_talaw3.py). -/
import Derived.Test.YtbhfkhlhfpmkmaaTaSnN
import Derived.Test.YtbhfkhlhfpmkmaaTaSnS
import Derived.Test.YtbhfkhlhfpmkmaaTaSnI
import Derived.Test.YtbhfkhlhfpmkmaaTaPar
namespace Go.Proofs.Ytbhfkhlhfpmkmaa
open Go.RowKit
def AnsG (w w' : World) (e : Ending) (K X : Int) (N : Nat) (A T : Int) (Q : Bool) (f : Nat → Int) : Prop := ∃ (a : Option Addr) (c : Nat), e = .returned (.tuple #[pcv K X, snv a N c A T, .bool Q]) ∧ LQ w' w.heap.size w'.heap.size a N f
theorem send_both (n : Nat) (k t d : Int) (f : Nat → Int) : ∃ (K X : Int) (N : Nat) (A T : Int) (Q : Bool), N ≤ 1048576 ∧
    (∀ (b c : Nat) (w : World), IL w (some ⟨b, 0, none⟩) n f → Calls Try.prog 19 #[snv (some ⟨b, 0, none⟩) n c k t, .int .i64 d] w fun e w' => AnsG w w' e K X N A T Q f ∧ Below w.heap.size w w') ∧
    ∀ (b c : Nat) (w : World), IL w (some ⟨b, 0, none⟩) n f → Calls Try.prog 21 #[snv (some ⟨b, 0, none⟩) n c k t, .int .i64 d] w fun e w' => AnsG w w' e K X N A T Q f ∧ Below w.heap.size w w' := by
  refine ⟨if snQ n k t d then snK n k t d else 0, if snQ n k t d then f (snK n k t d).toNat else 0, if snQ n k t d then n else 0, if snQ n k t d then k else 0, if snQ n k t d then snT t else 0, snQ n k t d, ?_, fun b c w h => ?_, fun b c w h => ?_⟩
  · split
    · next h =>
      simp only [snQ, Bool.and_eq_true] at h
      have := (gsB_parts h.1.1.1).1
      omega
    · omega
  · cases e : snQ n k t d with
    | true => have := sSend_yes b n c k t d f w e h; unfold AnsSn at this; rw [e] at this; exact this
    | false => have := sSend_no (some ⟨b, 0, none⟩) n c k t d f w e; unfold AnsSn at this; rw [e] at this; exact this
  · cases e : snQ n k t d with
    | true => have := iSend_yes b n c k t d f w e h; unfold AnsSn at this; rw [e] at this; exact this
    | false => have := iSend_no (some ⟨b, 0, none⟩) n c k t d f w e; unfold AnsSn at this; rw [e] at this; exact this
set_option maxRecDepth 20000 in
set_option maxHeartbeats 4000000 in
theorem sendLaw (a : Option Addr) (n c : Nat) (k t d : Int) (f : Nat → Int) (w : World) (hn : n ≤ 1048576) (hf : IL w a n f) :
    Calls Try.prog 5 #[snv a n c k t, .int .i64 d] w fun e w' => e = .returned (.bool true) ∧ Below w.heap.size w w' := by
  obtain ⟨K, X, N, A, T, Q, hN, hS, hI⟩ := send_both n k t d f
  have j : ¬ (1048576 : Int) - (n : Int) < 0 := by omega
  have j1 : ¬ (1 : Int) + (n : Int) < 0 := by omega
  have j2 : ¬ (1 : Int) + (N : Int) < 0 := by omega
  go_enter Try.func5, Try.ntmps5
  have hB0 := Below.refl w.heap.size w
  have z1 := bx_new (b := w.heap.size) (w := w) [.slice a n c, .int .i64 k, .int .i64 t] 40 (by first | rfl | simp only [size_al])
  have hx2 : Below w.heap.size w (w.alloc (.cells #[.slice a n c, .int .i64 k, .int .i64 t] 40)) := (Below.refl _ _).alloc (Nat.le_refl _) _
  have hB3 := stepA hB0 hx2
  clear hB0 hx2
  have x4 := z1.c0
  have x5 := z1.c1
  have x6 := z1.c2
  go_wp2_with fail
  refine (szSender_in a n c k t _ hn).mono ?_
  rintro e w7 ⟨rfl, hb8⟩
  have hs9 := hb8.size
  have z10 := z1.on hb8
  clear z1
  have hB11 := stepA hB3 hb8
  clear hB3 hb8
  try simp only [size_al] at hs9
  clear x4 x5 x6
  have x12 := z10.c0
  have x13 := z10.c1
  have x14 := z10.c2
  go_wp2_with fail
  refine (toSender_any a n c k t f _ hn (hf.below hB11)).mono ?_
  rintro e w15 ⟨b2, rfl, hL2, hb16⟩
  have hs17 := hb16.size
  have z18 := z10.on hb16
  clear z10
  have hB19 := stepA hB11 hb16
  clear hB11 hb16
  try simp only [size_al] at hs17
  try simp only [size_al] at hL2
  clear x12 x13 x14
  have x20 := z18.c0
  have x21 := z18.c1
  have x22 := z18.c2
  go_wp2_with fail
  refine (hS _ _ _ hL2.il).mono ?_
  rintro e w23 ⟨⟨a3, c3, rfl, hA3⟩, hb24⟩
  have hs25 := hb24.size
  have z26 := z18.on hb24
  have z27 := hL2.on hb24
  clear z18 hL2
  have hB28 := stepA hB19 hb24
  clear hB19 hb24
  try simp only [size_al] at hs25
  try simp only [size_al] at hA3
  have z29 := bx_new (b := w23.heap.size) (w := w23) [.int .i64 K, .int .i64 X] 43 (by first | rfl | simp only [size_al])
  have hx30 : Below w23.heap.size w23 (w23.alloc (.cells #[.int .i64 K, .int .i64 X] 43)) := (Below.refl _ _).alloc (Nat.le_refl _) _
  have z31 := z26.on hx30
  have z32 := z27.on hx30
  have z33 := hA3.on hx30
  clear z26 z27 hA3
  have hB34 := stepA hB28 hx30
  clear hB28 hx30
  have z35 := bx_new (b := w23.heap.size + 1) (w := (w23.alloc (.cells #[.int .i64 K, .int .i64 X] 43))) [.slice a3 N c3, .int .i64 A, .int .i64 T] 44 (by first | rfl | simp only [size_al])
  have hx36 : Below (w23.alloc (.cells #[.int .i64 K, .int .i64 X] 43)).heap.size (w23.alloc (.cells #[.int .i64 K, .int .i64 X] 43)) ((w23.alloc (.cells #[.int .i64 K, .int .i64 X] 43)).alloc (.cells #[.slice a3 N c3, .int .i64 A, .int .i64 T] 44)) := (Below.refl _ _).alloc (Nat.le_refl _) _
  have z37 := z31.on hx36
  have z38 := z32.on hx36
  have z39 := z33.on hx36
  have z40 := z29.on hx36
  clear z31 z32 z33 z29
  have hB41 := stepA hB34 hx36
  clear hB34 hx36
  clear z38
  clear x20 x21 x22
  have x42 := z37.c0
  have x43 := z37.c1
  have x44 := z37.c2
  have x45 := z40.c0
  have x46 := z40.c1
  have x47 := z35.c0
  have x48 := z35.c1
  have x49 := z35.c2
  go_wp2_with fail
  refine (toSender_any a n c k t f _ hn (hf.below hB41)).mono ?_
  rintro e w50 ⟨b4, rfl, hL4, hb51⟩
  have hs52 := hb51.size
  have z53 := z37.on hb51
  have z54 := z39.on hb51
  have z55 := z40.on hb51
  have z56 := z35.on hb51
  clear z37 z39 z40 z35
  have hB57 := stepA hB41 hb51
  clear hB41 hb51
  try simp only [size_al] at hs52
  try simp only [size_al] at hL4
  have z58 := bx_new (b := w50.heap.size) (w := w50) [.slice (some ⟨b4, 0, none⟩) n n, .int .i64 k, .int .i64 t] 44 (by first | rfl | simp only [size_al])
  have hx59 : Below w50.heap.size w50 (w50.alloc (.cells #[.slice (some ⟨b4, 0, none⟩) n n, .int .i64 k, .int .i64 t] 44)) := (Below.refl _ _).alloc (Nat.le_refl _) _
  have z60 := z53.on hx59
  have z61 := z54.on hx59
  have z62 := z55.on hx59
  have z63 := z56.on hx59
  have z64 := hL4.on hx59
  clear z53 z54 z55 z56 hL4
  have hB65 := stepA hB57 hx59
  clear hB57 hx59
  clear x42 x43 x44 x45 x46 x47 x48 x49
  have x66 := z60.c0
  have x67 := z60.c1
  have x68 := z60.c2
  have x69 := z62.c0
  have x70 := z62.c1
  have x71 := z63.c0
  have x72 := z63.c1
  have x73 := z63.c2
  have x74 := z58.c0
  have x75 := z58.c1
  have x76 := z58.c2
  go_wp2_with fail
  refine (hI _ _ _ z64.il).mono ?_
  rintro e w77 ⟨⟨a5, c5, rfl, hA5⟩, hb78⟩
  have hs79 := hb78.size
  have z80 := z60.on hb78
  have z81 := z61.on hb78
  have z82 := z62.on hb78
  have z83 := z63.on hb78
  have z84 := z64.on hb78
  have z85 := z58.on hb78
  clear z60 z61 z62 z63 z64 z58
  have hB86 := stepA hB65 hb78
  clear hB65 hb78
  try simp only [size_al] at hs79
  try simp only [size_al] at hA5
  have z87 := bx_new (b := w77.heap.size) (w := w77) [.int .i64 K, .int .i64 X] 43 (by first | rfl | simp only [size_al])
  have hx88 : Below w77.heap.size w77 (w77.alloc (.cells #[.int .i64 K, .int .i64 X] 43)) := (Below.refl _ _).alloc (Nat.le_refl _) _
  have z89 := z80.on hx88
  have z90 := z81.on hx88
  have z91 := z82.on hx88
  have z92 := z83.on hx88
  have z93 := z84.on hx88
  have z94 := z85.on hx88
  have z95 := hA5.on hx88
  clear z80 z81 z82 z83 z84 z85 hA5
  have hB96 := stepA hB86 hx88
  clear hB86 hx88
  have z97 := bx_new (b := w77.heap.size + 1) (w := (w77.alloc (.cells #[.int .i64 K, .int .i64 X] 43))) [.slice a5 N c5, .int .i64 A, .int .i64 T] 44 (by first | rfl | simp only [size_al])
  have hx98 : Below (w77.alloc (.cells #[.int .i64 K, .int .i64 X] 43)).heap.size (w77.alloc (.cells #[.int .i64 K, .int .i64 X] 43)) ((w77.alloc (.cells #[.int .i64 K, .int .i64 X] 43)).alloc (.cells #[.slice a5 N c5, .int .i64 A, .int .i64 T] 44)) := (Below.refl _ _).alloc (Nat.le_refl _) _
  have z99 := z89.on hx98
  have z100 := z90.on hx98
  have z101 := z91.on hx98
  have z102 := z92.on hx98
  have z103 := z93.on hx98
  have z104 := z94.on hx98
  have z105 := z95.on hx98
  have z106 := z87.on hx98
  clear z89 z90 z91 z92 z93 z94 z95 z87
  have hB107 := stepA hB96 hx98
  clear hB96 hx98
  clear x66 x67 x68 x69 x70 x71 x72 x73 x74 x75 x76
  have x108 := z99.c0
  have x109 := z99.c1
  have x110 := z99.c2
  have x111 := z101.c0
  have x112 := z101.c1
  have x113 := z102.c0
  have x114 := z102.c1
  have x115 := z102.c2
  have x116 := z104.c0
  have x117 := z104.c1
  have x118 := z104.c2
  have x119 := z106.c0
  have x120 := z106.c1
  have x121 := z97.c0
  have x122 := z97.c1
  have x123 := z97.c2
  go_wp2_with fail
  refine (eqParcel_any K X _).mono ?_
  rintro e w124 ⟨rfl, hb125⟩
  have hs126 := hb125.size
  have z127 := z99.on hb125
  have z128 := z100.on hb125
  have z129 := z101.on hb125
  have z130 := z102.on hb125
  have z131 := z103.on hb125
  have z132 := z104.on hb125
  have z133 := z105.on hb125
  have z134 := z106.on hb125
  have z135 := z97.on hb125
  clear z99 z100 z101 z102 z103 z104 z105 z106 z97
  have hB136 := stepA hB107 hb125
  clear hB107 hb125
  try simp only [size_al] at hs126
  clear x108 x109 x110 x111 x112 x113 x114 x115 x116 x117 x118 x119 x120 x121 x122 x123
  have x137 := z127.c0
  have x138 := z127.c1
  have x139 := z127.c2
  have x140 := z129.c0
  have x141 := z129.c1
  have x142 := z130.c0
  have x143 := z130.c1
  have x144 := z130.c2
  have x145 := z132.c0
  have x146 := z132.c1
  have x147 := z132.c2
  have x148 := z134.c0
  have x149 := z134.c1
  have x150 := z135.c0
  have x151 := z135.c1
  have x152 := z135.c2
  go_wp2_with fail
  refine (eqSender_any a5 a3 N c5 c3 A T f _ hN z133.il z128.il).mono ?_
  rintro e w153 ⟨rfl, hb154⟩
  have hs155 := hb154.size
  have z156 := z127.on hb154
  have z157 := z128.on hb154
  have z158 := z129.on hb154
  have z159 := z130.on hb154
  have z160 := z131.on hb154
  have z161 := z132.on hb154
  have z162 := z133.on hb154
  have z163 := z134.on hb154
  have z164 := z135.on hb154
  clear z127 z128 z129 z130 z131 z132 z133 z134 z135
  have hB165 := stepA hB136 hb154
  clear hB136 hb154
  try simp only [size_al] at hs155
  clear x137 x138 x139 x140 x141 x142 x143 x144 x145 x146 x147 x148 x149 x150 x151 x152
  have x166 := z156.c0
  have x167 := z156.c1
  have x168 := z156.c2
  have x169 := z158.c0
  have x170 := z158.c1
  have x171 := z159.c0
  have x172 := z159.c1
  have x173 := z159.c2
  have x174 := z161.c0
  have x175 := z161.c1
  have x176 := z161.c2
  have x177 := z163.c0
  have x178 := z163.c1
  have x179 := z164.c0
  have x180 := z164.c1
  have x181 := z164.c2
  go_wp2_with fail
  have hw182 := Below.refl w153.heap.size w153
  go_region_held3 (fun w' => w'.cell? ⟨w.heap.size, 0, none⟩ = some (.slice a n c) ∧ w'.cell? ⟨w.heap.size, 1, none⟩ = some (.int .i64 k) ∧ w'.cell? ⟨w.heap.size, 2, none⟩ = some (.int .i64 t) ∧ w'.cell? ⟨w50.heap.size, 0, none⟩ = some (.slice (some ⟨b4, 0, none⟩) n n) ∧ w'.cell? ⟨w50.heap.size, 1, none⟩ = some (.int .i64 k) ∧ w'.cell? ⟨w50.heap.size, 2, none⟩ = some (.int .i64 t))
    (first | (exact ⟨(z156.on hw182.drew).c0, (z156.on hw182.drew).c1, (z156.on hw182.drew).c2, (z161.on hw182.drew).c0, (z161.on hw182.drew).c1, (z161.on hw182.drew).c2⟩) | (exact ⟨(z156.on hw185).c0, (z156.on hw185).c1, (z156.on hw185).c2, (z161.on hw185).c0, (z161.on hw185).c1, (z161.on hw185).c2⟩) | (exact ⟨(z156.on hw188).c0, (z156.on hw188).c1, (z156.on hw188).c2, (z161.on hw188).c0, (z161.on hw188).c1, (z161.on hw188).c2⟩) | (fail))
    (first | (go_at_call 20; refine (toSender_any a n c k t f _ hn (hf.below (stepA hB165 hw182.drew))).mono ?_; rintro e w183 ⟨b9, rfl, hL9, hb184⟩; have hw185 := stepA hw182.drew hb184; clear hb184) | (go_at_call 23; refine (eqSender_any _ _ n _ _ k t f _ hn (z160.on hw185).il hL9.il).mono ?_; rintro e w186 ⟨rfl, hb187⟩; have hw188 := stepA hw185 hb187; clear hb187) | (fail))
  have hs189 := hw188.size
  try simp only [size_al] at hs189
  have z190 := z156.on hw188
  have z191 := z157.on hw188
  have z192 := z158.on hw188
  have z193 := z159.on hw188
  have z194 := z160.on hw188
  have z195 := z161.on hw188
  have z196 := z162.on hw188
  have z197 := z163.on hw188
  have z198 := z164.on hw188
  clear z156 z157 z158 z159 z160 z161 z162 z163 z164
  have hB199 := stepA hB165 hw188
  clear hB165
  clear hL9
  clear x166 x167 x168 x169 x170 x171 x172 x173 x174 x175 x176 x177 x178 x179 x180 x181
  have x200 := z190.c0
  have x201 := z190.c1
  have x202 := z190.c2
  have x203 := z192.c0
  have x204 := z192.c1
  have x205 := z193.c0
  have x206 := z193.c1
  have x207 := z193.c2
  have x208 := z195.c0
  have x209 := z195.c1
  have x210 := z195.c2
  have x211 := z197.c0
  have x212 := z197.c1
  have x213 := z198.c0
  have x214 := z198.c1
  have x215 := z198.c2
  go_wp2_with fail
  refine (markSender_any (some ⟨b4, 0, none⟩) n n 1 (w23.heap.size + 1 + 1) (w50.heap.size) k t f _ hn (by omega) z194).mono ?_
  rintro e w216 ⟨rfl, z218, ht217⟩
  have hs219 := ht217.size
  try simp only [size_al] at hs219
  have z220 := z190.turns ht217 (by first | omega | (simp only [size_al]; omega))
  have z221 := z191.turns ht217 (by first | omega | (simp only [size_al]; omega))
  have z222 := z192.turns ht217 (by first | omega | (simp only [size_al]; omega))
  have z223 := z193.turns ht217 (by first | omega | (simp only [size_al]; omega))
  have z224 := z195.turns ht217 (by first | omega | (simp only [size_al]; omega))
  have z225 := z196.turns ht217 (by first | omega | (simp only [size_al]; omega))
  have z226 := z197.turns ht217 (by first | omega | (simp only [size_al]; omega))
  have z227 := z198.turns ht217 (by first | omega | (simp only [size_al]; omega))
  clear z190 z191 z192 z193 z195 z196 z197 z198
  have hB228 := hB199.trans (ht217.below (by omega) (by first | omega | (simp only [size_al]; omega)))
  clear hB199 ht217 z194
  clear x200 x201 x202 x203 x204 x205 x206 x207 x208 x209 x210 x211 x212 x213 x214 x215
  have x229 := z220.c0
  have x230 := z220.c1
  have x231 := z220.c2
  have x232 := z222.c0
  have x233 := z222.c1
  have x234 := z223.c0
  have x235 := z223.c1
  have x236 := z223.c2
  have x237 := z224.c0
  have x238 := z224.c1
  have x239 := z224.c2
  have x240 := z226.c0
  have x241 := z226.c1
  have x242 := z227.c0
  have x243 := z227.c1
  have x244 := z227.c2
  go_wp2_with fail
  refine (eqParcel_any K X _).mono ?_
  rintro e w245 ⟨rfl, hb246⟩
  have hs247 := hb246.size
  have z248 := z220.on hb246
  have z249 := z221.on hb246
  have z250 := z222.on hb246
  have z251 := z223.on hb246
  have z252 := z224.on hb246
  have z253 := z225.on hb246
  have z254 := z226.on hb246
  have z255 := z227.on hb246
  have z256 := z218.on hb246
  clear z220 z221 z222 z223 z224 z225 z226 z227 z218
  have hB257 := stepA hB228 hb246
  clear hB228 hb246
  try simp only [size_al] at hs247
  clear x229 x230 x231 x232 x233 x234 x235 x236 x237 x238 x239 x240 x241 x242 x243 x244
  have x258 := z248.c0
  have x259 := z248.c1
  have x260 := z248.c2
  have x261 := z250.c0
  have x262 := z250.c1
  have x263 := z251.c0
  have x264 := z251.c1
  have x265 := z251.c2
  have x266 := z252.c0
  have x267 := z252.c1
  have x268 := z252.c2
  have x269 := z254.c0
  have x270 := z254.c1
  have x271 := z255.c0
  have x272 := z255.c1
  have x273 := z255.c2
  go_wp2_with fail
  refine (eqSender_any a5 a3 N c5 c3 A T f _ hN z253.il z249.il).mono ?_
  rintro e w274 ⟨rfl, hb275⟩
  have hs276 := hb275.size
  have z277 := z248.on hb275
  have z278 := z249.on hb275
  have z279 := z250.on hb275
  have z280 := z251.on hb275
  have z281 := z252.on hb275
  have z282 := z253.on hb275
  have z283 := z254.on hb275
  have z284 := z255.on hb275
  have z285 := z256.on hb275
  clear z248 z249 z250 z251 z252 z253 z254 z255 z256
  have hB286 := stepA hB257 hb275
  clear hB257 hb275
  try simp only [size_al] at hs276
  clear x258 x259 x260 x261 x262 x263 x264 x265 x266 x267 x268 x269 x270 x271 x272 x273
  have x287 := z277.c0
  have x288 := z277.c1
  have x289 := z277.c2
  have x290 := z279.c0
  have x291 := z279.c1
  have x292 := z280.c0
  have x293 := z280.c1
  have x294 := z280.c2
  have x295 := z281.c0
  have x296 := z281.c1
  have x297 := z281.c2
  have x298 := z283.c0
  have x299 := z283.c1
  have x300 := z284.c0
  have x301 := z284.c1
  have x302 := z284.c2
  go_wp2_with fail
  refine (markSender_any a5 N c5 1 (w50.heap.size + 1) (w77.heap.size) A T f _ hN (by omega) z282).mono ?_
  rintro e w303 ⟨rfl, z305, ht304⟩
  have hs306 := ht304.size
  try simp only [size_al] at hs306
  have z307 := z277.turns ht304 (by first | omega | (simp only [size_al]; omega))
  have z308 := z278.turns ht304 (by first | omega | (simp only [size_al]; omega))
  have z309 := z279.turns ht304 (by first | omega | (simp only [size_al]; omega))
  have z310 := z280.turns ht304 (by first | omega | (simp only [size_al]; omega))
  have z311 := z281.turns ht304 (by first | omega | (simp only [size_al]; omega))
  have z312 := z283.turns ht304 (by first | omega | (simp only [size_al]; omega))
  have z313 := z284.turns ht304 (by first | omega | (simp only [size_al]; omega))
  have z314 := z285.turns ht304 (by first | omega | (simp only [size_al]; omega))
  clear z277 z278 z279 z280 z281 z283 z284 z285
  have hB315 := hB286.trans (ht304.below (by omega) (by first | omega | (simp only [size_al]; omega)))
  clear hB286 ht304 z282
  clear x287 x288 x289 x290 x291 x292 x293 x294 x295 x296 x297 x298 x299 x300 x301 x302
  have x316 := z307.c0
  have x317 := z307.c1
  have x318 := z307.c2
  have x319 := z309.c0
  have x320 := z309.c1
  have x321 := z310.c0
  have x322 := z310.c1
  have x323 := z310.c2
  have x324 := z311.c0
  have x325 := z311.c1
  have x326 := z311.c2
  have x327 := z312.c0
  have x328 := z312.c1
  have x329 := z313.c0
  have x330 := z313.c1
  have x331 := z313.c2
  go_wp2_with fail
  refine (heldSender_any a5 N c5 1 (w50.heap.size + 1) (w77.heap.size) A T _ hN (by omega) z305).mono ?_
  rintro e w332 ⟨rfl, hb333⟩
  have hs334 := hb333.size
  have z335 := z307.on hb333
  have z336 := z308.on hb333
  have z337 := z309.on hb333
  have z338 := z310.on hb333
  have z339 := z311.on hb333
  have z340 := z312.on hb333
  have z341 := z313.on hb333
  have z342 := z314.on hb333
  have z343 := z305.on hb333
  clear z307 z308 z309 z310 z311 z312 z313 z314 z305
  have hB344 := stepA hB315 hb333
  clear hB315 hb333
  try simp only [size_al] at hs334
  clear x316 x317 x318 x319 x320 x321 x322 x323 x324 x325 x326 x327 x328 x329 x330 x331
  have x345 := z335.c0
  have x346 := z335.c1
  have x347 := z335.c2
  have x348 := z337.c0
  have x349 := z337.c1
  have x350 := z338.c0
  have x351 := z338.c1
  have x352 := z338.c2
  have x353 := z339.c0
  have x354 := z339.c1
  have x355 := z339.c2
  have x356 := z340.c0
  have x357 := z340.c1
  have x358 := z341.c0
  have x359 := z341.c1
  have x360 := z341.c2
  go_wp2_with fail
  refine (toSender_any a n c k t f _ hn (hf.below hB344)).mono ?_
  rintro e w361 ⟨b7, rfl, hL7, hb362⟩
  have hs363 := hb362.size
  have z364 := z335.on hb362
  have z365 := z336.on hb362
  have z366 := z337.on hb362
  have z367 := z338.on hb362
  have z368 := z339.on hb362
  have z369 := z340.on hb362
  have z370 := z341.on hb362
  have z371 := z342.on hb362
  have z372 := z343.on hb362
  clear z335 z336 z337 z338 z339 z340 z341 z342 z343
  have hB373 := stepA hB344 hb362
  clear hB344 hb362
  try simp only [size_al] at hs363
  try simp only [size_al] at hL7
  clear x345 x346 x347 x348 x349 x350 x351 x352 x353 x354 x355 x356 x357 x358 x359 x360
  have x374 := z364.c0
  have x375 := z364.c1
  have x376 := z364.c2
  have x377 := z366.c0
  have x378 := z366.c1
  have x379 := z367.c0
  have x380 := z367.c1
  have x381 := z367.c2
  have x382 := z368.c0
  have x383 := z368.c1
  have x384 := z368.c2
  have x385 := z369.c0
  have x386 := z369.c1
  have x387 := z370.c0
  have x388 := z370.c1
  have x389 := z370.c2
  go_wp2_with fail
  refine (hI _ _ _ hL7.il).mono ?_
  rintro e w390 ⟨⟨a8, c8, rfl, hA8⟩, hb391⟩
  have hs392 := hb391.size
  have z393 := z364.on hb391
  have z394 := z365.on hb391
  have z395 := z366.on hb391
  have z396 := z367.on hb391
  have z397 := z368.on hb391
  have z398 := z369.on hb391
  have z399 := z370.on hb391
  have z400 := z371.on hb391
  have z401 := z372.on hb391
  have z402 := hL7.on hb391
  clear z364 z365 z366 z367 z368 z369 z370 z371 z372 hL7
  have hB403 := stepA hB373 hb391
  clear hB373 hb391
  try simp only [size_al] at hs392
  try simp only [size_al] at hA8
  have z404 := bx_new (b := w390.heap.size) (w := w390) [.int .i64 K, .int .i64 X] 43 (by first | rfl | simp only [size_al])
  have hx405 : Below w390.heap.size w390 (w390.alloc (.cells #[.int .i64 K, .int .i64 X] 43)) := (Below.refl _ _).alloc (Nat.le_refl _) _
  have z406 := z393.on hx405
  have z407 := z394.on hx405
  have z408 := z395.on hx405
  have z409 := z396.on hx405
  have z410 := z397.on hx405
  have z411 := z398.on hx405
  have z412 := z399.on hx405
  have z413 := z400.on hx405
  have z414 := z401.on hx405
  have z415 := z402.on hx405
  have z416 := hA8.on hx405
  clear z393 z394 z395 z396 z397 z398 z399 z400 z401 z402 hA8
  have hB417 := stepA hB403 hx405
  clear hB403 hx405
  have z418 := bx_new (b := w390.heap.size + 1) (w := (w390.alloc (.cells #[.int .i64 K, .int .i64 X] 43))) [.slice a8 N c8, .int .i64 A, .int .i64 T] 44 (by first | rfl | simp only [size_al])
  have hx419 : Below (w390.alloc (.cells #[.int .i64 K, .int .i64 X] 43)).heap.size (w390.alloc (.cells #[.int .i64 K, .int .i64 X] 43)) ((w390.alloc (.cells #[.int .i64 K, .int .i64 X] 43)).alloc (.cells #[.slice a8 N c8, .int .i64 A, .int .i64 T] 44)) := (Below.refl _ _).alloc (Nat.le_refl _) _
  have z420 := z406.on hx419
  have z421 := z407.on hx419
  have z422 := z408.on hx419
  have z423 := z409.on hx419
  have z424 := z410.on hx419
  have z425 := z411.on hx419
  have z426 := z412.on hx419
  have z427 := z413.on hx419
  have z428 := z414.on hx419
  have z429 := z415.on hx419
  have z430 := z416.on hx419
  have z431 := z404.on hx419
  clear z406 z407 z408 z409 z410 z411 z412 z413 z414 z415 z416 z404
  have hB432 := stepA hB417 hx419
  clear hB417 hx419
  clear x374 x375 x376 x377 x378 x379 x380 x381 x382 x383 x384 x385 x386 x387 x388 x389
  have x433 := z420.c0
  have x434 := z420.c1
  have x435 := z420.c2
  have x436 := z422.c0
  have x437 := z422.c1
  have x438 := z423.c0
  have x439 := z423.c1
  have x440 := z423.c2
  have x441 := z424.c0
  have x442 := z424.c1
  have x443 := z424.c2
  have x444 := z425.c0
  have x445 := z425.c1
  have x446 := z426.c0
  have x447 := z426.c1
  have x448 := z426.c2
  have x449 := z431.c0
  have x450 := z431.c1
  have x451 := z418.c0
  have x452 := z418.c1
  have x453 := z418.c2
  go_wp2_with fail
  refine (eqParcel_any K X _).mono ?_
  rintro e w454 ⟨rfl, hb455⟩
  have hs456 := hb455.size
  have z457 := z420.on hb455
  have z458 := z421.on hb455
  have z459 := z422.on hb455
  have z460 := z423.on hb455
  have z461 := z424.on hb455
  have z462 := z425.on hb455
  have z463 := z426.on hb455
  have z464 := z427.on hb455
  have z465 := z428.on hb455
  have z466 := z429.on hb455
  have z467 := z430.on hb455
  have z468 := z431.on hb455
  have z469 := z418.on hb455
  clear z420 z421 z422 z423 z424 z425 z426 z427 z428 z429 z430 z431 z418
  have hB470 := stepA hB432 hb455
  clear hB432 hb455
  try simp only [size_al] at hs456
  clear x433 x434 x435 x436 x437 x438 x439 x440 x441 x442 x443 x444 x445 x446 x447 x448 x449 x450 x451 x452 x453
  have x471 := z457.c0
  have x472 := z457.c1
  have x473 := z457.c2
  have x474 := z459.c0
  have x475 := z459.c1
  have x476 := z460.c0
  have x477 := z460.c1
  have x478 := z460.c2
  have x479 := z461.c0
  have x480 := z461.c1
  have x481 := z461.c2
  have x482 := z462.c0
  have x483 := z462.c1
  have x484 := z463.c0
  have x485 := z463.c1
  have x486 := z463.c2
  have x487 := z468.c0
  have x488 := z468.c1
  have x489 := z469.c0
  have x490 := z469.c1
  have x491 := z469.c2
  go_wp2_with fail
  refine (eqSender_any a8 a3 N c8 c3 A T f _ hN z467.il z458.il).mono ?_
  rintro e w492 ⟨rfl, hb493⟩
  have hs494 := hb493.size
  have z495 := z457.on hb493
  have z496 := z458.on hb493
  have z497 := z459.on hb493
  have z498 := z460.on hb493
  have z499 := z461.on hb493
  have z500 := z462.on hb493
  have z501 := z463.on hb493
  have z502 := z464.on hb493
  have z503 := z465.on hb493
  have z504 := z466.on hb493
  have z505 := z467.on hb493
  have z506 := z468.on hb493
  have z507 := z469.on hb493
  clear z457 z458 z459 z460 z461 z462 z463 z464 z465 z466 z467 z468 z469
  have hB508 := stepA hB470 hb493
  clear hB470 hb493
  try simp only [size_al] at hs494
  clear x471 x472 x473 x474 x475 x476 x477 x478 x479 x480 x481 x482 x483 x484 x485 x486 x487 x488 x489 x490 x491
  have x509 := z495.c0
  have x510 := z495.c1
  have x511 := z495.c2
  have x512 := z497.c0
  have x513 := z497.c1
  have x514 := z498.c0
  have x515 := z498.c1
  have x516 := z498.c2
  have x517 := z499.c0
  have x518 := z499.c1
  have x519 := z499.c2
  have x520 := z500.c0
  have x521 := z500.c1
  have x522 := z501.c0
  have x523 := z501.c1
  have x524 := z501.c2
  have x525 := z506.c0
  have x526 := z506.c1
  have x527 := z507.c0
  have x528 := z507.c1
  have x529 := z507.c2
  go_wp2_with fail
  refine (heldSender_any a5 N c5 1 (w50.heap.size + 1) (w77.heap.size) A T _ hN (by omega) z503).mono ?_
  rintro e w530 ⟨rfl, hb531⟩
  have hs532 := hb531.size
  have z533 := z495.on hb531
  have z534 := z496.on hb531
  have z535 := z497.on hb531
  have z536 := z498.on hb531
  have z537 := z499.on hb531
  have z538 := z500.on hb531
  have z539 := z501.on hb531
  have z540 := z502.on hb531
  have z541 := z503.on hb531
  have z542 := z504.on hb531
  have z543 := z505.on hb531
  have z544 := z506.on hb531
  have z545 := z507.on hb531
  clear z495 z496 z497 z498 z499 z500 z501 z502 z503 z504 z505 z506 z507
  have hB546 := stepA hB508 hb531
  clear hB508 hb531
  try simp only [size_al] at hs532
  clear x509 x510 x511 x512 x513 x514 x515 x516 x517 x518 x519 x520 x521 x522 x523 x524 x525 x526 x527 x528 x529
  clear z533
  clear z534
  clear z535
  clear z536
  clear z537
  clear z538
  clear z539
  clear z540
  clear z541
  clear z542
  clear z543
  clear z544
  clear z545
  go_wp2
  go_ret
  exact ⟨rfl, hB546⟩
set_option maxHeartbeats 400000 in
theorem sendLaw_long (a : Option Addr) (n c : Nat) (k t d : Int) (w : World) (h : 1048576 < n) (hn : n ≤ 9223372036854775807) :
    Calls Try.prog 5 #[snv a n c k t, .int .i64 d] w fun e w' => e = .returned (.bool true) ∧ Below w.heap.size w w' := by
  have hB0 : Below w.heap.size w (w.alloc (snO a n c k t 40)) := (Below.refl _ _).alloc (Nat.le_refl _) _
  go_enter Try.func5, Try.ntmps5
  go_wp2_with fail
  refine (szSender_out a n c k t _ h hn).mono ?_
  rintro e w1 ⟨rfl, hb1⟩
  have hB1 := stepA hB0 hb1
  go_wp2
  go_ret
  exact ⟨rfl, hB1⟩
theorem sendAll (a : Option Addr) (n c : Nat) (k t d : Int) (f : Nat → Int) (w : World) (hn : n ≤ 9223372036854775807) (hf : IL w a n f) :
    Calls Try.prog 5 #[snv a n c k t, .int .i64 d] w fun e w' => e = .returned (.bool true) ∧ Below w.heap.size w w' := by
  by_cases h : n ≤ 1048576
  · exact sendLaw a n c k t d f w h hf
  · exact sendLaw_long a n c k t d w (by omega) hn
end Go.Proofs.Ytbhfkhlhfpmkmaa
