/- The walk of the law on AddRay. -/
import Derived.Test.YtnoaonflphameaaRySpecB
import Derived.Deep.RegionHeld3
namespace Go.Proofs.Ytnoaonflphameaa
open Go.RowKit
def AnsV (w w' : World) (e : Ending) (V : Int) (N : Nat) (F G : Nat → Int) (q : Bool) : Prop :=
  ∃ a c b d, e = .returned (.tuple #[cnt V a N c b N d, .bool q]) ∧ CP w' w.heap.size w'.heap.size a N F b N G
theorem AnsA.v {w w' : World} {e : Ending} {W : Int} {n : Nat} {F G : Nat → Int} {q : Bool} (h : AnsA w w' e W n F G q) : AnsV w w' e (qW W q) (qN n q) F G q := h
theorem implRayV (W : Int) (a b : Option Addr) (n c m d : Nat) (f g : Nat → Int) (x1 y1 x2 y2 : Int) (hit : Bool) (w : World) (hn : n ≤ 1048576) (hm : m ≤ 1048576) (hf : IL w a n f) (hg : IL w b m g) :
    Calls Try.prog 9 #[cnt W a n c b m d, .int .i64 x1, .int .i64 y1, .int .i64 x2, .int .i64 y2, .bool hit] w fun e w' => AnsV w w' e (qW W (rayQ W n f m g x1 y1 x2 y2 hit)) (qN n (rayQ W n f m g x1 y1 x2 y2 hit)) (rayF f (rid W x1 y1 x2 y2) (rN x1 y1 x2 y2) hit) (rayG g (rid W x1 y1 x2 y2) (rN x1 y1 x2 y2) hit) (rayQ W n f m g x1 y1 x2 y2 hit) ∧ Below w.heap.size w w' :=
  (implRay W a b n c m d f g x1 y1 x2 y2 hit w hn hm hf hg).mono fun _ _ h => ⟨h.1.v, h.2⟩
theorem specRayV (W : Int) (a b : Option Addr) (n c m d : Nat) (f g : Nat → Int) (x1 y1 x2 y2 : Int) (hit : Bool) (w : World) (hn : n ≤ 1048576) (hm : m ≤ 1048576) (hf : IL w a n f) (hg : IL w b m g) :
    Calls Try.prog 10 #[cnt W a n c b m d, .int .i64 x1, .int .i64 y1, .int .i64 x2, .int .i64 y2, .bool hit] w fun e w' => AnsV w w' e (qW W (rayQ W n f m g x1 y1 x2 y2 hit)) (qN n (rayQ W n f m g x1 y1 x2 y2 hit)) (rayF f (rid W x1 y1 x2 y2) (rN x1 y1 x2 y2) hit) (rayG g (rid W x1 y1 x2 y2) (rN x1 y1 x2 y2) hit) (rayQ W n f m g x1 y1 x2 y2 hit) ∧ Below w.heap.size w w' :=
  (specRay W a b n c m d f g x1 y1 x2 y2 hit w hn hm hf hg).mono fun _ _ h => ⟨h.1.v, h.2⟩

set_option maxHeartbeats 4000000 in
theorem rayLaw (W : Int) (a b : Option Addr) (n c m d : Nat) (f g : Nat → Int) (x1 y1 x2 y2 : Int) (hit : Bool) (w : World) (hsz : n + m ≤ 1048576) (hf : IL w a n f) (hg : IL w b m g) :
    Calls Try.prog 5 #[cnt W a n c b m d, .int .i64 x1, .int .i64 y1, .int .i64 x2, .int .i64 y2, .bool hit] w fun e w' => e = .returned (.bool true) ∧ Below w.heap.size w w' := by
  have hI := fun a b c d w h1 h2 => implRayV W a b n c m d f g x1 y1 x2 y2 hit w (by omega) (by omega) h1 h2
  have hS := fun a b c d w h1 h2 => specRayV W a b n c m d f g x1 y1 x2 y2 hit w (by omega) (by omega) h1 h2
  generalize rayQ W n f m g x1 y1 x2 y2 hit = Q at hI hS
  generalize rayF f (rid W x1 y1 x2 y2) (rN x1 y1 x2 y2) hit = F at hI hS
  generalize rayG g (rid W x1 y1 x2 y2) (rN x1 y1 x2 y2) hit = G at hI hS
  have hN : qN n Q ≤ 1048576 := by unfold qN; split <;> omega
  generalize qN n Q = N at hN hI hS
  generalize qW W Q = V at hI hS
  have j2 : ¬ (1 : Int) + (N : Int) + (N : Int) < 0 := by omega
  have hn : n ≤ 1048576 := by omega
  have hm : m ≤ 1048576 := by omega
  have j : ¬ (1048576 : Int) - (n : Int) - (m : Int) < 0 := by omega
  have j0 : ¬ (1 : Int) + (n : Int) + (m : Int) < 0 := by omega
  go_enter Try.func5, Try.ntmps5
  have hB0 := Below.refl w.heap.size w
  have z1 := bx_new (b := w.heap.size) (w := w) [.int .i64 W, .slice a n c, .slice b m d] 46 (by first | rfl | simp only [size_al])
  have hx2 : Below w.heap.size w (w.alloc (.cells #[.int .i64 W, .slice a n c, .slice b m d] 46)) := (Below.refl _ _).alloc (Nat.le_refl _) _
  have hB3 := stepA hB0 hx2
  clear hB0 hx2
  have x4 := z1.c0
  have x5 := z1.c1
  have x6 := z1.c2
  go_wp2_with fail
  refine (szCounts_in W a b n c m d _ hsz).mono ?_
  rintro e w7 ⟨rfl, hb8⟩
  have hs9 := hb8.size
  have z10 := z1.on hb8
  clear z1
  have hB11 := stepA hB3 hb8
  clear hB3 hb8
  try simp only [size_al] at hs9
  clear x4 x5 x6
  have x12 := z10.c0
  have x13 := z10.c1
  have x14 := z10.c2
  go_wp2_with fail
  refine (toCounts_any W a b n c m d f g _ hn hm (hf.below hB11) (hg.below hB11)).mono ?_
  rintro e w15 ⟨a2, b2, rfl, hL2, hb16⟩
  have hs17 := hb16.size
  have z18 := z10.on hb16
  clear z10
  have hB19 := stepA hB11 hb16
  clear hB11 hb16
  try simp only [size_al] at hs17
  try simp only [size_al] at hL2
  clear x12 x13 x14
  have x20 := z18.c0
  have x21 := z18.c1
  have x22 := z18.c2
  go_wp2_with fail
  refine (hS _ _ _ _ _ hL2.il1 hL2.il2).mono ?_
  rintro e w23 ⟨⟨a3, c3, b3, d3, rfl, hA3⟩, hb24⟩
  have hs25 := hb24.size
  have z26 := z18.on hb24
  have z27 := hL2.on hb24
  clear z18 hL2
  have hB28 := stepA hB19 hb24
  clear hB19 hb24
  try simp only [size_al] at hs25
  try simp only [size_al] at hA3
  have z29 := bx_new (b := w23.heap.size) (w := w23) [.int .i64 V, .slice a3 N c3, .slice b3 N d3] 25 (by first | rfl | simp only [size_al])
  have hx30 : Below w23.heap.size w23 (w23.alloc (.cells #[.int .i64 V, .slice a3 N c3, .slice b3 N d3] 25)) := (Below.refl _ _).alloc (Nat.le_refl _) _
  have z31 := z26.on hx30
  have z32 := z27.on hx30
  have z33 := hA3.on hx30
  clear z26 z27 hA3
  have hB34 := stepA hB28 hx30
  clear hB28 hx30
  clear z32
  clear x20 x21 x22
  have x35 := z31.c0
  have x36 := z31.c1
  have x37 := z31.c2
  have x38 := z29.c0
  have x39 := z29.c1
  have x40 := z29.c2
  go_wp2_with fail
  refine (toCounts_any W a b n c m d f g _ hn hm (hf.below hB34) (hg.below hB34)).mono ?_
  rintro e w41 ⟨a4, b4, rfl, hL4, hb42⟩
  have hs43 := hb42.size
  have z44 := z31.on hb42
  have z45 := z33.on hb42
  have z46 := z29.on hb42
  clear z31 z33 z29
  have hB47 := stepA hB34 hb42
  clear hB34 hb42
  try simp only [size_al] at hs43
  try simp only [size_al] at hL4
  have z48 := bx_new (b := w41.heap.size) (w := w41) [.int .i64 W, .slice a4 n n, .slice b4 m m] 25 (by first | rfl | simp only [size_al])
  have hx49 : Below w41.heap.size w41 (w41.alloc (.cells #[.int .i64 W, .slice a4 n n, .slice b4 m m] 25)) := (Below.refl _ _).alloc (Nat.le_refl _) _
  have z50 := z44.on hx49
  have z51 := z45.on hx49
  have z52 := z46.on hx49
  have z53 := hL4.on hx49
  clear z44 z45 z46 hL4
  have hB54 := stepA hB47 hx49
  clear hB47 hx49
  clear x35 x36 x37 x38 x39 x40
  have x55 := z50.c0
  have x56 := z50.c1
  have x57 := z50.c2
  have x58 := z52.c0
  have x59 := z52.c1
  have x60 := z52.c2
  have x61 := z48.c0
  have x62 := z48.c1
  have x63 := z48.c2
  go_wp2_with fail
  refine (hI _ _ _ _ _ z53.il1 z53.il2).mono ?_
  rintro e w64 ⟨⟨a5, c5, b5, d5, rfl, hA5⟩, hb65⟩
  have hs66 := hb65.size
  have z67 := z50.on hb65
  have z68 := z51.on hb65
  have z69 := z52.on hb65
  have z70 := z53.on hb65
  have z71 := z48.on hb65
  clear z50 z51 z52 z53 z48
  have hB72 := stepA hB54 hb65
  clear hB54 hb65
  try simp only [size_al] at hs66
  try simp only [size_al] at hA5
  have z73 := bx_new (b := w64.heap.size) (w := w64) [.int .i64 V, .slice a5 N c5, .slice b5 N d5] 25 (by first | rfl | simp only [size_al])
  have hx74 : Below w64.heap.size w64 (w64.alloc (.cells #[.int .i64 V, .slice a5 N c5, .slice b5 N d5] 25)) := (Below.refl _ _).alloc (Nat.le_refl _) _
  have z75 := z67.on hx74
  have z76 := z68.on hx74
  have z77 := z69.on hx74
  have z78 := z70.on hx74
  have z79 := z71.on hx74
  have z80 := hA5.on hx74
  clear z67 z68 z69 z70 z71 hA5
  have hB81 := stepA hB72 hx74
  clear hB72 hx74
  clear x55 x56 x57 x58 x59 x60 x61 x62 x63
  have x82 := z75.c0
  have x83 := z75.c1
  have x84 := z75.c2
  have x85 := z77.c0
  have x86 := z77.c1
  have x87 := z77.c2
  have x88 := z79.c0
  have x89 := z79.c1
  have x90 := z79.c2
  have x91 := z73.c0
  have x92 := z73.c1
  have x93 := z73.c2
  go_wp2_with fail
  refine (eqCounts_any V a5 b5 a3 b3 N c5 N d5 c3 d3 F G _ hN hN z80.il1 z80.il2 z76.il1 z76.il2).mono ?_
  rintro e w94 ⟨rfl, hb95⟩
  have hs96 := hb95.size
  have z97 := z75.on hb95
  have z98 := z76.on hb95
  have z99 := z77.on hb95
  have z100 := z78.on hb95
  have z101 := z79.on hb95
  have z102 := z80.on hb95
  have z103 := z73.on hb95
  clear z75 z76 z77 z78 z79 z80 z73
  have hB104 := stepA hB81 hb95
  clear hB81 hb95
  try simp only [size_al] at hs96
  clear x82 x83 x84 x85 x86 x87 x88 x89 x90 x91 x92 x93
  have x105 := z97.c0
  have x106 := z97.c1
  have x107 := z97.c2
  have x108 := z99.c0
  have x109 := z99.c1
  have x110 := z99.c2
  have x111 := z101.c0
  have x112 := z101.c1
  have x113 := z101.c2
  have x114 := z103.c0
  have x115 := z103.c1
  have x116 := z103.c2
  go_wp2_with fail
  have hw117 := Below.refl w94.heap.size w94
  go_region_held3 (fun w' => w'.cell? ⟨w.heap.size, 0, none⟩ = some (.int .i64 W) ∧ w'.cell? ⟨w.heap.size, 1, none⟩ = some (.slice a n c) ∧ w'.cell? ⟨w.heap.size, 2, none⟩ = some (.slice b m d) ∧ w'.cell? ⟨w41.heap.size, 0, none⟩ = some (.int .i64 W) ∧ w'.cell? ⟨w41.heap.size, 1, none⟩ = some (.slice a4 n n) ∧ w'.cell? ⟨w41.heap.size, 2, none⟩ = some (.slice b4 m m))
    (first | (exact ⟨(z97.on hw117.drew).c0, (z97.on hw117.drew).c1, (z97.on hw117.drew).c2, (z101.on hw117.drew).c0, (z101.on hw117.drew).c1, (z101.on hw117.drew).c2⟩) | (exact ⟨(z97.on hw120).c0, (z97.on hw120).c1, (z97.on hw120).c2, (z101.on hw120).c0, (z101.on hw120).c1, (z101.on hw120).c2⟩) | (exact ⟨(z97.on hw123).c0, (z97.on hw123).c1, (z97.on hw123).c2, (z101.on hw123).c0, (z101.on hw123).c1, (z101.on hw123).c2⟩) | (fail))
    (first | (go_at_call 19; refine (toCounts_any W a b n c m d f g _ hn hm (hf.below (stepA hB104 hw117.drew)) (hg.below (stepA hB104 hw117.drew))).mono ?_; rintro e w118 ⟨a9, b9, rfl, hL9, hb119⟩; have hw120 := stepA hw117.drew hb119; clear hb119) | (go_at_call 20; refine (eqCounts_any W _ _ _ _ n _ m _ _ _ f g _ hn hm (z100.on hw120).il1 (z100.on hw120).il2 hL9.il1 hL9.il2).mono ?_; rintro e w121 ⟨rfl, hb122⟩; have hw123 := stepA hw120 hb122; clear hb122) | (fail))
  have hs124 := hw123.size
  try simp only [size_al] at hs124
  have z125 := z97.on hw123
  have z126 := z98.on hw123
  have z127 := z99.on hw123
  have z128 := z100.on hw123
  have z129 := z101.on hw123
  have z130 := z102.on hw123
  have z131 := z103.on hw123
  clear z97 z98 z99 z100 z101 z102 z103
  have hB132 := stepA hB104 hw123
  clear hB104
  clear hL9
  clear x105 x106 x107 x108 x109 x110 x111 x112 x113 x114 x115 x116
  have x133 := z125.c0
  have x134 := z125.c1
  have x135 := z125.c2
  have x136 := z127.c0
  have x137 := z127.c1
  have x138 := z127.c2
  have x139 := z129.c0
  have x140 := z129.c1
  have x141 := z129.c2
  have x142 := z131.c0
  have x143 := z131.c1
  have x144 := z131.c2
  go_wp2_with fail
  refine (markCounts_any W a4 b4 n n m m 1 (w23.heap.size + 1) (w41.heap.size) f g _ hn hm (by omega) z128 (by first | omega | (simp only [size_al]; omega))).mono ?_
  rintro e w145 ⟨rfl, z147, ht146⟩
  have hs148 := ht146.size
  try simp only [size_al] at hs148
  have z149 := z125.turns ht146 (by first | omega | (simp only [size_al]; omega))
  have z150 := z126.turns ht146 (by first | omega | (simp only [size_al]; omega))
  have z151 := z127.turns ht146 (by first | omega | (simp only [size_al]; omega))
  have z152 := z129.turns ht146 (by first | omega | (simp only [size_al]; omega))
  have z153 := z130.turns ht146 (by first | omega | (simp only [size_al]; omega))
  have z154 := z131.turns ht146 (by first | omega | (simp only [size_al]; omega))
  clear z125 z126 z127 z129 z130 z131
  have hB155 := hB132.trans (ht146.below (by omega) (by first | omega | (simp only [size_al]; omega)))
  clear hB132 ht146 z128
  clear x133 x134 x135 x136 x137 x138 x139 x140 x141 x142 x143 x144
  have x156 := z149.c0
  have x157 := z149.c1
  have x158 := z149.c2
  have x159 := z151.c0
  have x160 := z151.c1
  have x161 := z151.c2
  have x162 := z152.c0
  have x163 := z152.c1
  have x164 := z152.c2
  have x165 := z154.c0
  have x166 := z154.c1
  have x167 := z154.c2
  go_wp2_with fail
  refine (eqCounts_any V a5 b5 a3 b3 N c5 N d5 c3 d3 F G _ hN hN z153.il1 z153.il2 z150.il1 z150.il2).mono ?_
  rintro e w168 ⟨rfl, hb169⟩
  have hs170 := hb169.size
  have z171 := z149.on hb169
  have z172 := z150.on hb169
  have z173 := z151.on hb169
  have z174 := z152.on hb169
  have z175 := z153.on hb169
  have z176 := z154.on hb169
  have z177 := z147.on hb169
  clear z149 z150 z151 z152 z153 z154 z147
  have hB178 := stepA hB155 hb169
  clear hB155 hb169
  try simp only [size_al] at hs170
  clear x156 x157 x158 x159 x160 x161 x162 x163 x164 x165 x166 x167
  have x179 := z171.c0
  have x180 := z171.c1
  have x181 := z171.c2
  have x182 := z173.c0
  have x183 := z173.c1
  have x184 := z173.c2
  have x185 := z174.c0
  have x186 := z174.c1
  have x187 := z174.c2
  have x188 := z176.c0
  have x189 := z176.c1
  have x190 := z176.c2
  go_wp2_with fail
  refine (markCounts_any V a5 b5 N c5 N d5 1 (w41.heap.size + 1) (w64.heap.size) F G _ hN hN (by omega) z175 (by first | omega | (simp only [size_al]; omega))).mono ?_
  rintro e w191 ⟨rfl, z193, ht192⟩
  have hs194 := ht192.size
  try simp only [size_al] at hs194
  have z195 := z171.turns ht192 (by first | omega | (simp only [size_al]; omega))
  have z196 := z172.turns ht192 (by first | omega | (simp only [size_al]; omega))
  have z197 := z173.turns ht192 (by first | omega | (simp only [size_al]; omega))
  have z198 := z174.turns ht192 (by first | omega | (simp only [size_al]; omega))
  have z199 := z176.turns ht192 (by first | omega | (simp only [size_al]; omega))
  have z200 := z177.turns ht192 (by first | omega | (simp only [size_al]; omega))
  clear z171 z172 z173 z174 z176 z177
  have hB201 := hB178.trans (ht192.below (by omega) (by first | omega | (simp only [size_al]; omega)))
  clear hB178 ht192 z175
  clear x179 x180 x181 x182 x183 x184 x185 x186 x187 x188 x189 x190
  have x202 := z195.c0
  have x203 := z195.c1
  have x204 := z195.c2
  have x205 := z197.c0
  have x206 := z197.c1
  have x207 := z197.c2
  have x208 := z198.c0
  have x209 := z198.c1
  have x210 := z198.c2
  have x211 := z199.c0
  have x212 := z199.c1
  have x213 := z199.c2
  go_wp2_with fail
  refine (heldCounts_any V a5 b5 N c5 N d5 1 (w41.heap.size + 1) (w64.heap.size) _ hN hN (by omega) z193).mono ?_
  rintro e w214 ⟨rfl, hb215⟩
  have hs216 := hb215.size
  have z217 := z195.on hb215
  have z218 := z196.on hb215
  have z219 := z197.on hb215
  have z220 := z198.on hb215
  have z221 := z199.on hb215
  have z222 := z200.on hb215
  have z223 := z193.on hb215
  clear z195 z196 z197 z198 z199 z200 z193
  have hB224 := stepA hB201 hb215
  clear hB201 hb215
  try simp only [size_al] at hs216
  clear x202 x203 x204 x205 x206 x207 x208 x209 x210 x211 x212 x213
  have x225 := z217.c0
  have x226 := z217.c1
  have x227 := z217.c2
  have x228 := z219.c0
  have x229 := z219.c1
  have x230 := z219.c2
  have x231 := z220.c0
  have x232 := z220.c1
  have x233 := z220.c2
  have x234 := z221.c0
  have x235 := z221.c1
  have x236 := z221.c2
  go_wp2_with fail
  refine (toCounts_any W a b n c m d f g _ hn hm (hf.below hB224) (hg.below hB224)).mono ?_
  rintro e w237 ⟨a6, b6, rfl, hL6, hb238⟩
  have hs239 := hb238.size
  have z240 := z217.on hb238
  have z241 := z218.on hb238
  have z242 := z219.on hb238
  have z243 := z220.on hb238
  have z244 := z221.on hb238
  have z245 := z222.on hb238
  have z246 := z223.on hb238
  clear z217 z218 z219 z220 z221 z222 z223
  have hB247 := stepA hB224 hb238
  clear hB224 hb238
  try simp only [size_al] at hs239
  try simp only [size_al] at hL6
  clear x225 x226 x227 x228 x229 x230 x231 x232 x233 x234 x235 x236
  have x248 := z240.c0
  have x249 := z240.c1
  have x250 := z240.c2
  have x251 := z242.c0
  have x252 := z242.c1
  have x253 := z242.c2
  have x254 := z243.c0
  have x255 := z243.c1
  have x256 := z243.c2
  have x257 := z244.c0
  have x258 := z244.c1
  have x259 := z244.c2
  go_wp2_with fail
  refine (hI _ _ _ _ _ hL6.il1 hL6.il2).mono ?_
  rintro e w260 ⟨⟨a7, c7, b7, d7, rfl, hA7⟩, hb261⟩
  have hs262 := hb261.size
  have z263 := z240.on hb261
  have z264 := z241.on hb261
  have z265 := z242.on hb261
  have z266 := z243.on hb261
  have z267 := z244.on hb261
  have z268 := z245.on hb261
  have z269 := z246.on hb261
  have z270 := hL6.on hb261
  clear z240 z241 z242 z243 z244 z245 z246 hL6
  have hB271 := stepA hB247 hb261
  clear hB247 hb261
  try simp only [size_al] at hs262
  try simp only [size_al] at hA7
  have z272 := bx_new (b := w260.heap.size) (w := w260) [.int .i64 V, .slice a7 N c7, .slice b7 N d7] 25 (by first | rfl | simp only [size_al])
  have hx273 : Below w260.heap.size w260 (w260.alloc (.cells #[.int .i64 V, .slice a7 N c7, .slice b7 N d7] 25)) := (Below.refl _ _).alloc (Nat.le_refl _) _
  have z274 := z263.on hx273
  have z275 := z264.on hx273
  have z276 := z265.on hx273
  have z277 := z266.on hx273
  have z278 := z267.on hx273
  have z279 := z268.on hx273
  have z280 := z269.on hx273
  have z281 := z270.on hx273
  have z282 := hA7.on hx273
  clear z263 z264 z265 z266 z267 z268 z269 z270 hA7
  have hB283 := stepA hB271 hx273
  clear hB271 hx273
  clear x248 x249 x250 x251 x252 x253 x254 x255 x256 x257 x258 x259
  have x284 := z274.c0
  have x285 := z274.c1
  have x286 := z274.c2
  have x287 := z276.c0
  have x288 := z276.c1
  have x289 := z276.c2
  have x290 := z277.c0
  have x291 := z277.c1
  have x292 := z277.c2
  have x293 := z278.c0
  have x294 := z278.c1
  have x295 := z278.c2
  have x296 := z272.c0
  have x297 := z272.c1
  have x298 := z272.c2
  go_wp2_with fail
  refine (eqCounts_any V a7 b7 a3 b3 N c7 N d7 c3 d3 F G _ hN hN z282.il1 z282.il2 z275.il1 z275.il2).mono ?_
  rintro e w299 ⟨rfl, hb300⟩
  have hs301 := hb300.size
  have z302 := z274.on hb300
  have z303 := z275.on hb300
  have z304 := z276.on hb300
  have z305 := z277.on hb300
  have z306 := z278.on hb300
  have z307 := z279.on hb300
  have z308 := z280.on hb300
  have z309 := z281.on hb300
  have z310 := z282.on hb300
  have z311 := z272.on hb300
  clear z274 z275 z276 z277 z278 z279 z280 z281 z282 z272
  have hB312 := stepA hB283 hb300
  clear hB283 hb300
  try simp only [size_al] at hs301
  clear x284 x285 x286 x287 x288 x289 x290 x291 x292 x293 x294 x295 x296 x297 x298
  have x313 := z302.c0
  have x314 := z302.c1
  have x315 := z302.c2
  have x316 := z304.c0
  have x317 := z304.c1
  have x318 := z304.c2
  have x319 := z305.c0
  have x320 := z305.c1
  have x321 := z305.c2
  have x322 := z306.c0
  have x323 := z306.c1
  have x324 := z306.c2
  have x325 := z311.c0
  have x326 := z311.c1
  have x327 := z311.c2
  go_wp2_with fail
  refine (heldCounts_any V a5 b5 N c5 N d5 1 (w41.heap.size + 1) (w64.heap.size) _ hN hN (by omega) z308).mono ?_
  rintro e w328 ⟨rfl, hb329⟩
  have hs330 := hb329.size
  have z331 := z302.on hb329
  have z332 := z303.on hb329
  have z333 := z304.on hb329
  have z334 := z305.on hb329
  have z335 := z306.on hb329
  have z336 := z307.on hb329
  have z337 := z308.on hb329
  have z338 := z309.on hb329
  have z339 := z310.on hb329
  have z340 := z311.on hb329
  clear z302 z303 z304 z305 z306 z307 z308 z309 z310 z311
  have hB341 := stepA hB312 hb329
  clear hB312 hb329
  try simp only [size_al] at hs330
  clear x313 x314 x315 x316 x317 x318 x319 x320 x321 x322 x323 x324 x325 x326 x327
  clear z331
  clear z332
  clear z333
  clear z334
  clear z335
  clear z336
  clear z337
  clear z338
  clear z339
  clear z340
  go_wp2
  go_ret
  exact ⟨rfl, hB341⟩
set_option maxHeartbeats 400000 in
theorem rayLaw_long (W : Int) (a b : Option Addr) (n c m d : Nat) (x1 y1 x2 y2 : Int) (hit : Bool) (w : World) (h : 1048576 < n + m) (hn : n ≤ 9223372036854775807) (hm : m ≤ 9223372036854775807) :
    Calls Try.prog 5 #[cnt W a n c b m d, .int .i64 x1, .int .i64 y1, .int .i64 x2, .int .i64 y2, .bool hit] w fun e w' => e = .returned (.bool true) ∧ Below w.heap.size w w' := by
  have hB0 : Below w.heap.size w (w.alloc (cntO W a n c b m d 46)) := (Below.refl _ _).alloc (Nat.le_refl _) _
  go_enter Try.func5, Try.ntmps5
  go_wp2_with fail
  refine (szCounts_out W a b n c m d _ h hn hm).mono ?_
  rintro e w1 ⟨rfl, hb1⟩
  have hB1 := stepA hB0 hb1
  go_wp2
  go_ret
  exact ⟨rfl, hB1⟩
theorem rayAll (W : Int) (a b : Option Addr) (n c m d : Nat) (f g : Nat → Int) (x1 y1 x2 y2 : Int) (hit : Bool) (w : World) (hn : n ≤ 9223372036854775807) (hm : m ≤ 9223372036854775807) (hf : IL w a n f) (hg : IL w b m g) :
    Calls Try.prog 5 #[cnt W a n c b m d, .int .i64 x1, .int .i64 y1, .int .i64 x2, .int .i64 y2, .bool hit] w fun e w' => e = .returned (.bool true) ∧ Below w.heap.size w w' := by
  by_cases h : n + m ≤ 1048576
  · exact rayLaw W a b n c m d f g x1 y1 x2 y2 hit w h hf hg
  · exact rayLaw_long W a b n c m d x1 y1 x2 y2 hit w (by omega) hn hm
end Go.Proofs.Ytnoaonflphameaa
