/- The walk of the law on Strategy (tools/gen_whlaw8.py). -/
import Derived.Test.YtacnegfmdckpbabDoorWhSgS
import Derived.Test.YtacnegfmdckpbabDoorWhMkB
import Derived.Test.YtacnegfmdckpbabDoorLqCopy
import Derived.Test.YtacnegfmdckpbabDoorU8Shelf
namespace Go.Proofs.YtacnegfmdckpbabDoor
open Go.RowKit
theorem lefW_in {n : Nat} {f : Nat → ByteArray} {m : Nat} {g : Nat → ByteArray} {l : Int} (h : ¬ lefW n f m g l < 0) : (n : Int) ≤ l ∧ (∀ i, i < n → ((f i).size : Int) ≤ l) ∧ (m : Int) ≤ l ∧ (∀ i, i < m → ((g i).size : Int) ≤ l) := by
  unfold lefW at h
  by_cases h1 : lefB f n l < 0
  · rw [if_pos h1] at h; omega
  · rw [if_neg h1] at h
    obtain ⟨a1, a2, a3⟩ := lefB_in h1
    obtain ⟨b1, b2, _⟩ := lefB_in h
    exact ⟨a1, a2, by omega, fun i hi => by have := b2 i hi; omega⟩
theorem stV_len (n : Nat) (f : Nat → ByteArray) (m : Nat) (g : Nat → Bool) (p : Nat) (K : Nat → Nat) (R : Nat → Nat → Int) (rn : Nat) (re : Nat → ByteArray) (an : Nat) (av : Nat → ByteArray) (hn : n ≤ 1048576) : (oL (stV n f m g p K R rn re an av)).length ≤ 1048576 := by
  unfold stV
  split
  · show (fnL _ n).length ≤ _; rw [fnL_len]; exact hn
  · exact Nat.zero_le _
set_option maxRecDepth 200000 in
set_option maxHeartbeats 16000000 in
theorem planAll (a : Option Addr) (n c : Nat) (b : Option Addr) (m d : Nat) (x : Option Addr) (p q : Nat) (f : Nat → ByteArray) (g : Nat → Bool) (K : Nat → Nat) (R : Nat → Nat → Int) (ra : Option Addr) (rn rc : Nat) (re : Nat → ByteArray) (aa : Option Addr) (an ac : Nat) (av : Nat → ByteArray) (w : World) (hn0 : n ≤ 9223372036854775807) (hm0 : m ≤ 9223372036854775807) (hp0 : p ≤ 9223372036854775807) (hf0 : ∀ i, i < n → (f i).size ≤ 9223372036854775807) (hK0 : ∀ i, i < p → K i ≤ 9223372036854775807) (hrn0 : rn ≤ 9223372036854775807) (han0 : an ≤ 9223372036854775807) (hre0 : ∀ i, i < rn → (re i).size ≤ 9223372036854775807) (hav0 : ∀ i, i < an → (av i).size ≤ 9223372036854775807)
    (h : BD w a n f b m g x p K R) (hr : SL w ra rn re) (ha : SL w aa an av) (hT : U8 w)
    (hI0 : n ≤ 1048576 → m ≤ 1048576 → p ≤ 1048576 → (∀ i, i < n → (f i).size ≤ 1048576) → (∀ i, i < p → K i ≤ 1048576) → rn ≤ 1048576 → an ≤ 1048576 → (∀ i, i < rn → (re i).size ≤ 1048576) → (∀ i, i < an → (av i).size ≤ 1048576) → ∀ (a : Option Addr) (c : Nat) (b : Option Addr) (d : Nat) (x : Option Addr) (q : Nat) (ra : Option Addr) (rc : Nat) (aa : Option Addr) (ac : Nat) (w : World), n ≤ c → m ≤ d → p ≤ q → rn ≤ rc → an ≤ ac → BD w a n f b m g x p K R → SL w ra rn re → SL w aa an av → U8 w → Calls Tryd.prog 11 #[bdv a n c b m d x p q, wsv ra rn rc aa an ac] w fun e w' => AnsPb w w' e (stV n f m g p K R rn re an av) ∧ Below w.heap.size w w') :
    Calls Tryd.prog 3 #[bdv a n c b m d x p q, wsv ra rn rc aa an ac] w fun e w' => e = .returned (.bool true) ∧ Below w.heap.size w w' := by
  have HT : Hid (U8 w) := hT
  clear hT
  go_enter Tryd.func3, Tryd.ntmps3
  have hB0 := Below.refl w.heap.size w
  have z1 := bx_new (b := w.heap.size) (w := w) [.slice a n c, .slice b m d, .slice x p q] 26 (by first | rfl | simp only [size_al])
  have hx2 : Below w.heap.size w (w.alloc (.cells #[.slice a n c, .slice b m d, .slice x p q] 26)) := (Below.refl _ _).alloc (Nat.le_refl _) _
  have hB3 := stepA hB0 hx2
  clear hB0 hx2
  have z4 := bx_new (b := w.heap.size + 1) (w := (w.alloc (.cells #[.slice a n c, .slice b m d, .slice x p q] 26))) [.slice ra rn rc, .slice aa an ac] 28 (by first | rfl | simp only [size_al])
  have hx5 : Below (w.alloc (.cells #[.slice a n c, .slice b m d, .slice x p q] 26)).heap.size (w.alloc (.cells #[.slice a n c, .slice b m d, .slice x p q] 26)) ((w.alloc (.cells #[.slice a n c, .slice b m d, .slice x p q] 26)).alloc (.cells #[.slice ra rn rc, .slice aa an ac] 28)) := (Below.refl _ _).alloc (Nat.le_refl _) _
  have z6 := z1.on hx5
  clear z1
  have hB7 := stepA hB3 hx5
  clear hB3 hx5
  have x8 := z6.c0
  have x9 := z6.c1
  have x10 := z6.c2
  have x11 := z4.c0
  have x12 := z4.c1
  go_wp2_with fail
  refine (szBoard_any a n c b m d x p q f g K R 1048576 _ (by omega) (by omega) hn0 hm0 hp0 hf0 hK0 (h.below hB7)).mono ?_
  rintro e w13 ⟨y, rfl, hy, hb14⟩
  have hs15 := hb14.size
  have z16 := z6.on hb14
  have z17 := z4.on hb14
  clear z6 z4
  have hB18 := stepA hB7 hb14
  clear hB7 hb14
  try simp only [size_al] at hs15
  rcases hy with rfl | ⟨y0, y1, hn', hm', hp', hf', hK', hsK'⟩
  · go_wp2
    go_ret
    exact ⟨rfl, hB18⟩
  have hn : n ≤ 1048576 := by omega
  have hm : m ≤ 1048576 := by omega
  have hp : p ≤ 1048576 := by omega
  have hsK : sumK K p ≤ 1048576 := by omega
  have hf : ∀ i, i < n → (f i).size ≤ 1048576 := fun i hi => by have := hf' i hi; omega
  have hK : ∀ i, i < p → K i ≤ 1048576 := fun i hi => by have := hK' i hi; omega
  have y2 : ¬ y < 0 := by omega
  clear hn' hm' hp' hf' hK' hsK' hf0 hK0
  have HW : Hid (¬ lefW rn re an av y < 0 → (rn : Int) ≤ y ∧ (∀ i, i < rn → ((re i).size : Int) ≤ y) ∧ (an : Int) ≤ y ∧ (∀ i, i < an → ((av i).size : Int) ≤ y)) := fun h => lefW_in h
  have kZ := fun w h h' => szWish_any ra aa rn rc an ac re av y w y0 (by omega) hrn0 han0 hre0 hav0 h h'
  generalize lefW rn re an av y = z at *
  clear x8 x9 x10 x11 x12
  have x19 := z16.c0
  have x20 := z16.c1
  have x21 := z16.c2
  have x22 := z17.c0
  have x23 := z17.c1
  go_wp2_with fail
  refine (kZ _ (hr.below hB18) (ha.below hB18)).mono ?_
  rintro e w24 ⟨rfl, hb25⟩
  have hs26 := hb25.size
  have z27 := z16.on hb25
  have z28 := z17.on hb25
  clear z16 z17
  have hB29 := stepA hB18 hb25
  clear hB18 hb25
  try simp only [size_al] at hs26
  by_cases z0 : z < 0
  · clear HW kZ
    go_wp2
    go_ret
    exact ⟨rfl, hB29⟩
  obtain ⟨w1', w2', w3', w4'⟩ := HW.out (by omega)
  have hrn : rn ≤ 1048576 := by omega
  have han : an ≤ 1048576 := by omega
  have hre : ∀ i, i < rn → (re i).size ≤ 1048576 := fun i hi => by have := w2' i hi; omega
  have hav : ∀ i, i < an → (av i).size ≤ 1048576 := fun i hi => by have := w4' i hi; omega
  clear w1' w2' w3' w4' HW kZ hre0 hav0
  have hN : (oL (stV n f m g p K R rn re an av)).length ≤ 1048576 := stV_len n f m g p K R rn re an av hn
  have hS := fun a c b d x q ra rc aa ac w h1 h2 h h' h'' => sStrategy a n c b m d x p q f g K R ra rn rc re aa an ac av w hn hm hp hf hK hrn han h1 h2 hre hav h h' h''
  have hI := hI0 hn hm hp hf hK hrn han hre hav
  clear hI0
  simp only [AnsPb] at hI hS
  generalize (oL (stV n f m g p K R rn re an av)).length = N at hI hS hN
  generalize gl (oL (stV n f m g p K R rn re an av)) = F at hI hS
  generalize (stV n f m g p K R rn re an av).isSome = T at hI hS
  have ev2 : (T == T) = true := by simp
  have ev4 : (T != T) = false := by simp
  obtain ⟨kb, hkb⟩ : ∃ kb : Nat, kb = 1 + n + m + sumK K p := ⟨_, rfl⟩
  have hkb1 : kb ≤ 3145729 := by omega
  have kM := fun a c b d x q lo hi w h1 h2 => markBoard_any a n c b m d x p q lo hi f g K R w hn hm hp hsK h1 h2
  rw [← hkb] at kM
  clear hkb
  have jn : ¬ (1 : Int) + (N : Int) < 0 := by omega
  have jm : ((1 : Int) + (N : Int) == (1 : Int) + (N : Int)) = true := by simp
  obtain ⟨kc, hkc⟩ : ∃ kc : Nat, kc = kb + rn + an := ⟨_, rfl⟩
  have kN := fun a b c d lo hi w h1 h2 => markWish_any a b rn c an d kb lo hi re av w hrn han (by omega) h1 h2
  rw [← hkc] at kN
  clear hkc
  clear hf hre hav
  clear x19 x20 x21 x22 x23
  have x30 := z27.c0
  have x31 := z27.c1
  have x32 := z27.c2
  have x33 := z28.c0
  have x34 := z28.c1
  go_wp2_with fail
  have hw35 := Below.refl w24.heap.size w24
  go_region_held3 (fun w' => w'.cell? ⟨w.heap.size, 0, none⟩ = some (.slice a n c) ∧ w'.cell? ⟨w.heap.size, 1, none⟩ = some (.slice b m d) ∧ w'.cell? ⟨w.heap.size, 2, none⟩ = some (.slice x p q) ∧ w'.cell? ⟨w.heap.size + 1, 0, none⟩ = some (.slice ra rn rc) ∧ w'.cell? ⟨w.heap.size + 1, 1, none⟩ = some (.slice aa an ac))
    (first | (exact ⟨(z27.on hw35.drew).c0, (z27.on hw35.drew).c1, (z27.on hw35.drew).c2, (z28.on hw35.drew).c0, (z28.on hw35.drew).c1⟩) | (exact ⟨(z27.on hw38).c0, (z27.on hw38).c1, (z27.on hw38).c2, (z28.on hw38).c0, (z28.on hw38).c1⟩) | (exact ⟨(z27.on hw41).c0, (z27.on hw41).c1, (z27.on hw41).c2, (z28.on hw41).c0, (z28.on hw41).c1⟩) | (exact ⟨(z27.on hw44).c0, (z27.on hw44).c1, (z27.on hw44).c2, (z28.on hw44).c0, (z28.on hw44).c1⟩) | (fail))
    (first | (go_at_call 9; refine (toBoardP a n c b m d x p q f g K R _ hn hm hp hK (h.below (stepA hB29 (hw35.drew)))).mono ?_; rintro e w36 ⟨p1, p2, p3, rfl, hPp, hb37⟩; have hw38 := stepA hw35.drew hb37; have hRp : (w24).heap.size ≤ _ := hb37.size; clear hb37) | (go_at_call 10; refine (toWish_any ra aa rn rc an ac re av _ hrn han (hr.below (stepA hB29 (hw38))) (ha.below (stepA hB29 (hw38)))).mono ?_; rintro e w39 ⟨p4, p5, rfl, hVp, hb40⟩; have hw41 := stepA hw38 hb40; have hSp := hb40.size; have hTp := hb40; clear hb40) | (go_at_call 8; refine (hS p1 n p2 m p3 p p4 rn p5 an _ (Nat.le_refl _) (Nat.le_refl _) (hPp.on hTp).bd hVp.sl1 hVp.sl2).mono ?_; rintro e w42 ⟨⟨a3, c3, rfl, hA3⟩, hb43⟩; have hw44 := stepA hw41 hb43; have hA3 := hA3.wide (lo' := (w24).heap.size) (Nat.le_trans hRp hSp) (Nat.le_refl _); clear hb43) | (fail))
  have hs45 := hw44.size
  try simp only [size_al] at hs45
  have z46 := z27.on hw44
  have z47 := z28.on hw44
  clear z27 z28
  have hB48 := stepA hB29 hw44
  clear hB29
  try simp only [size_al] at hA3
  clear hPp hVp hRp hSp hTp
  clear hS
  clear x30 x31 x32 x33 x34
  have x49 := z46.c0
  have x50 := z46.c1
  have x51 := z46.c2
  have x52 := z47.c0
  have x53 := z47.c1
  go_wp2_with fail
  refine (toBoardP a n c b m d x p q f g K R _ hn hm hp hK (h.below (hB48))).mono ?_
  rintro e w54 ⟨q1, q2, q3, rfl, hBq, hb55⟩
  have hs56 := hb55.size
  have z57 := z46.on hb55
  have z58 := z47.on hb55
  have z59 := hA3.on hb55
  clear z46 z47 hA3
  have hB60 := stepA hB48 hb55
  clear hB48 hb55
  try simp only [size_al] at hs56
  try simp only [size_al] at hBq
  have z61 := bx_new (b := w54.heap.size) (w := w54) [.slice q1 n n, .slice q2 m m, .slice q3 p p] 34 (by first | rfl | simp only [size_al])
  have hx62 : Below w54.heap.size w54 (w54.alloc (.cells #[.slice q1 n n, .slice q2 m m, .slice q3 p p] 34)) := (Below.refl _ _).alloc (Nat.le_refl _) _
  have z63 := z57.on hx62
  have z64 := z58.on hx62
  have z65 := z59.on hx62
  have z66 := hBq.on hx62
  clear z57 z58 z59 hBq
  have hB67 := stepA hB60 hx62
  clear hB60 hx62
  clear x49 x50 x51 x52 x53
  have x68 := z63.c0
  have x69 := z63.c1
  have x70 := z63.c2
  have x71 := z64.c0
  have x72 := z64.c1
  have x73 := z61.c0
  have x74 := z61.c1
  have x75 := z61.c2
  go_wp2_with fail
  refine (toWish_any ra aa rn rc an ac re av _ hrn han (hr.below (hB67)) (ha.below (hB67))).mono ?_
  rintro e w76 ⟨q4, q5, rfl, hWq, hb77⟩
  have hs78 := hb77.size
  have z79 := z63.on hb77
  have z80 := z64.on hb77
  have z81 := z65.on hb77
  have z82 := z66.on hb77
  have z83 := z61.on hb77
  clear z63 z64 z65 z66 z61
  have hB84 := stepA hB67 hb77
  clear hB67 hb77
  try simp only [size_al] at hs78
  try simp only [size_al] at hWq
  have z85 := bx_new (b := w76.heap.size) (w := w76) [.slice q4 rn rn, .slice q5 an an] 36 (by first | rfl | simp only [size_al])
  have hx86 : Below w76.heap.size w76 (w76.alloc (.cells #[.slice q4 rn rn, .slice q5 an an] 36)) := (Below.refl _ _).alloc (Nat.le_refl _) _
  have z87 := z79.on hx86
  have z88 := z80.on hx86
  have z89 := z81.on hx86
  have z90 := z82.on hx86
  have z91 := z83.on hx86
  have z92 := hWq.on hx86
  clear z79 z80 z81 z82 z83 hWq
  have hB93 := stepA hB84 hx86
  clear hB84 hx86
  clear x68 x69 x70 x71 x72 x73 x74 x75
  have x94 := z87.c0
  have x95 := z87.c1
  have x96 := z87.c2
  have x97 := z88.c0
  have x98 := z88.c1
  have x99 := z91.c0
  have x100 := z91.c1
  have x101 := z91.c2
  have x102 := z85.c0
  have x103 := z85.c1
  go_wp2_with fail
  refine (hI q1 n q2 m q3 p q4 rn q5 an _ (Nat.le_refl _) (Nat.le_refl _) (Nat.le_refl _) (Nat.le_refl _) (Nat.le_refl _) z90.bd z92.sl1 z92.sl2 (HT.out.below hB93)).mono ?_
  rintro e w104 ⟨⟨a5, c5, rfl, hA5⟩, hb105⟩
  have hs106 := hb105.size
  have z107 := z87.on hb105
  have z108 := z88.on hb105
  have z109 := z89.on hb105
  have z110 := z90.on hb105
  have z111 := z91.on hb105
  have z112 := z92.on hb105
  have z113 := z85.on hb105
  clear z87 z88 z89 z90 z91 z92 z85
  have hB114 := stepA hB93 hb105
  clear hB93 hb105
  try simp only [size_al] at hs106
  try simp only [size_al] at hA5
  clear x94 x95 x96 x97 x98 x99 x100 x101 x102 x103
  have x115 := z107.c0
  have x116 := z107.c1
  have x117 := z107.c2
  have x118 := z108.c0
  have x119 := z108.c1
  have x120 := z111.c0
  have x121 := z111.c1
  have x122 := z111.c2
  have x123 := z113.c0
  have x124 := z113.c1
  go_wp2_with fail
  refine (eqI_any a5 a3 N c5 c3 F _ hN hA5.il z109.il).mono ?_
  rintro e w125 ⟨rfl, hb126⟩
  have hs127 := hb126.size
  have z128 := z107.on hb126
  have z129 := z108.on hb126
  have z130 := z109.on hb126
  have z131 := z110.on hb126
  have z132 := z111.on hb126
  have z133 := z112.on hb126
  have z134 := z113.on hb126
  have z135 := hA5.on hb126
  clear z107 z108 z109 z110 z111 z112 z113 hA5
  have hB136 := stepA hB114 hb126
  clear hB114 hb126
  try simp only [size_al] at hs127
  clear x115 x116 x117 x118 x119 x120 x121 x122 x123 x124
  have x137 := z128.c0
  have x138 := z128.c1
  have x139 := z128.c2
  have x140 := z129.c0
  have x141 := z129.c1
  have x142 := z132.c0
  have x143 := z132.c1
  have x144 := z132.c2
  have x145 := z134.c0
  have x146 := z134.c1
  go_wp2_with fail
  have hw147 := Below.refl w125.heap.size w125
  go_region_held3 (fun w' => w'.cell? ⟨w.heap.size, 0, none⟩ = some (.slice a n c) ∧ w'.cell? ⟨w.heap.size, 1, none⟩ = some (.slice b m d) ∧ w'.cell? ⟨w.heap.size, 2, none⟩ = some (.slice x p q) ∧ w'.cell? ⟨w54.heap.size, 0, none⟩ = some (.slice q1 n n) ∧ w'.cell? ⟨w54.heap.size, 1, none⟩ = some (.slice q2 m m) ∧ w'.cell? ⟨w54.heap.size, 2, none⟩ = some (.slice q3 p p))
    (first | (exact ⟨(z128.on hw147.drew).c0, (z128.on hw147.drew).c1, (z128.on hw147.drew).c2, (z132.on hw147.drew).c0, (z132.on hw147.drew).c1, (z132.on hw147.drew).c2⟩) | (exact ⟨(z128.on hw150).c0, (z128.on hw150).c1, (z128.on hw150).c2, (z132.on hw150).c0, (z132.on hw150).c1, (z132.on hw150).c2⟩) | (exact ⟨(z128.on hw153).c0, (z128.on hw153).c1, (z128.on hw153).c2, (z132.on hw153).c0, (z132.on hw153).c1, (z132.on hw153).c2⟩) | (fail))
    (first | (go_at_call 9; refine (toBoardP a n c b m d x p q f g K R _ hn hm hp hK (h.below (stepA hB136 (hw147.drew)))).mono ?_; rintro e w148 ⟨r11, r21, r31, rfl, hR1, hb149⟩; have hw150 := stepA hw147.drew hb149; clear hb149) | (go_at_call 13; refine (eqBoard_any _ _ n _ _ _ _ m _ _ _ _ p _ _ f g K R _ hn hm hp hK (z131.on (hw150)).bd hR1.bd).mono ?_; rintro e w151 ⟨rfl, hb152⟩; have hw153 := stepA hw150 hb152; clear hb152) | (fail))
  have hs154 := hw153.size
  try simp only [size_al] at hs154
  have z155 := z128.on hw153
  have z156 := z129.on hw153
  have z157 := z130.on hw153
  have z158 := z131.on hw153
  have z159 := z132.on hw153
  have z160 := z133.on hw153
  have z161 := z134.on hw153
  have z162 := z135.on hw153
  clear z128 z129 z130 z131 z132 z133 z134 z135
  have hB163 := stepA hB136 hw153
  clear hB136
  clear hR1
  clear x137 x138 x139 x140 x141 x142 x143 x144 x145 x146
  have x164 := z155.c0
  have x165 := z155.c1
  have x166 := z155.c2
  have x167 := z156.c0
  have x168 := z156.c1
  have x169 := z159.c0
  have x170 := z159.c1
  have x171 := z159.c2
  have x172 := z161.c0
  have x173 := z161.c1
  go_wp2_with fail
  have hw174 := Below.refl w151.heap.size w151
  go_region_held3 (fun w' => w'.cell? ⟨w.heap.size + 1, 0, none⟩ = some (.slice ra rn rc) ∧ w'.cell? ⟨w.heap.size + 1, 1, none⟩ = some (.slice aa an ac) ∧ w'.cell? ⟨w76.heap.size, 0, none⟩ = some (.slice q4 rn rn) ∧ w'.cell? ⟨w76.heap.size, 1, none⟩ = some (.slice q5 an an))
    (first | (exact ⟨(z156.on hw174.drew).c0, (z156.on hw174.drew).c1, (z161.on hw174.drew).c0, (z161.on hw174.drew).c1⟩) | (exact ⟨(z156.on hw177).c0, (z156.on hw177).c1, (z161.on hw177).c0, (z161.on hw177).c1⟩) | (exact ⟨(z156.on hw180).c0, (z156.on hw180).c1, (z161.on hw180).c0, (z161.on hw180).c1⟩) | (fail))
    (first | (go_at_call 10; refine (toWish_any ra aa rn rc an ac re av _ hrn han (hr.below (stepA hB163 (hw174.drew))) (ha.below (stepA hB163 (hw174.drew)))).mono ?_; rintro e w175 ⟨r12, r22, rfl, hR2, hb176⟩; have hw177 := stepA hw174.drew hb176; clear hb176) | (go_at_call 14; refine (eqWish_any _ _ _ _ rn _ an _ _ _ re av _ hrn han (z160.on (hw177)).sl1 (z160.on (hw177)).sl2 hR2.sl1 hR2.sl2).mono ?_; rintro e w178 ⟨rfl, hb179⟩; have hw180 := stepA hw177 hb179; clear hb179) | (fail))
  have hs181 := hw180.size
  try simp only [size_al] at hs181
  have z182 := z155.on hw180
  have z183 := z156.on hw180
  have z184 := z157.on hw180
  have z185 := z158.on hw180
  have z186 := z159.on hw180
  have z187 := z160.on hw180
  have z188 := z161.on hw180
  have z189 := z162.on hw180
  clear z155 z156 z157 z158 z159 z160 z161 z162
  have hB190 := stepA hB163 hw180
  clear hB163
  clear hR2
  clear x164 x165 x166 x167 x168 x169 x170 x171 x172 x173
  have x191 := z182.c0
  have x192 := z182.c1
  have x193 := z182.c2
  have x194 := z183.c0
  have x195 := z183.c1
  have x196 := z186.c0
  have x197 := z186.c1
  have x198 := z186.c2
  have x199 := z188.c0
  have x200 := z188.c1
  go_wp2_with fail
  refine (kM q1 n q2 m q3 p (w42.heap.size) (w54.heap.size) _ (by first | omega | (simp only [size_al]; omega)) z185).mono ?_
  rintro e w201 ⟨rfl, ht202⟩
  have hs203 := ht202.size
  try simp only [size_al] at hs203
  have z204 := z182.turns ht202 (by first | omega | (simp only [size_al]; omega))
  have z205 := z183.turns ht202 (by first | omega | (simp only [size_al]; omega))
  have z206 := z184.turns ht202 (by first | omega | (simp only [size_al]; omega))
  have z207 := z186.turns ht202 (by first | omega | (simp only [size_al]; omega))
  have z208 := z187.turns ht202 (by first | omega | (simp only [size_al]; omega))
  have z209 := z188.turns ht202 (by first | omega | (simp only [size_al]; omega))
  have z210 := z189.turns ht202 (by first | omega | (simp only [size_al]; omega))
  clear z182 z183 z184 z186 z187 z188 z189
  have hB211 := hB190.trans (ht202.below (by omega) (by first | omega | (simp only [size_al]; omega)))
  clear hB190 ht202 z185
  clear x191 x192 x193 x194 x195 x196 x197 x198 x199 x200
  have x212 := z204.c0
  have x213 := z204.c1
  have x214 := z204.c2
  have x215 := z205.c0
  have x216 := z205.c1
  have x217 := z207.c0
  have x218 := z207.c1
  have x219 := z207.c2
  have x220 := z209.c0
  have x221 := z209.c1
  go_wp2_with fail
  refine (kN q4 q5 rn an (w54.heap.size + 1) (w76.heap.size) _ (by first | omega | (simp only [size_al]; omega)) z208).mono ?_
  rintro e w222 ⟨rfl, ht223⟩
  have hs224 := ht223.size
  try simp only [size_al] at hs224
  have z225 := z204.turns ht223 (by first | omega | (simp only [size_al]; omega))
  have z226 := z205.turns ht223 (by first | omega | (simp only [size_al]; omega))
  have z227 := z206.turns ht223 (by first | omega | (simp only [size_al]; omega))
  have z228 := z207.turns ht223 (by first | omega | (simp only [size_al]; omega))
  have z229 := z209.turns ht223 (by first | omega | (simp only [size_al]; omega))
  have z230 := z210.turns ht223 (by first | omega | (simp only [size_al]; omega))
  clear z204 z205 z206 z207 z209 z210
  have hB231 := hB211.trans (ht223.below (by omega) (by first | omega | (simp only [size_al]; omega)))
  clear hB211 ht223 z208
  have jk : ¬ (kc : Int) < 0 := by omega
  clear x212 x213 x214 x215 x216 x217 x218 x219 x220 x221
  have x232 := z225.c0
  have x233 := z225.c1
  have x234 := z225.c2
  have x235 := z226.c0
  have x236 := z226.c1
  have x237 := z228.c0
  have x238 := z228.c1
  have x239 := z228.c2
  have x240 := z229.c0
  have x241 := z229.c1
  go_wp2_with fail
  refine (eqI_any a5 a3 N c5 c3 F _ hN z230.il z227.il).mono ?_
  rintro e w242 ⟨rfl, hb243⟩
  have hs244 := hb243.size
  have z245 := z225.on hb243
  have z246 := z226.on hb243
  have z247 := z227.on hb243
  have z248 := z228.on hb243
  have z249 := z229.on hb243
  have z250 := z230.on hb243
  clear z225 z226 z227 z228 z229 z230
  have hB251 := stepA hB231 hb243
  clear hB231 hb243
  try simp only [size_al] at hs244
  clear x232 x233 x234 x235 x236 x237 x238 x239 x240 x241
  have x252 := z245.c0
  have x253 := z245.c1
  have x254 := z245.c2
  have x255 := z246.c0
  have x256 := z246.c1
  have x257 := z248.c0
  have x258 := z248.c1
  have x259 := z248.c2
  have x260 := z249.c0
  have x261 := z249.c1
  go_wp2_with fail
  refine (markT a5 N c5 1 (w76.heap.size + 1) (w104.heap.size) F _ hN (by omega) z250).mono ?_
  rintro e w262 ⟨rfl, z264, ht263⟩
  have hs265 := ht263.size
  try simp only [size_al] at hs265
  have z266 := z245.turns ht263 (by first | omega | (simp only [size_al]; omega))
  have z267 := z246.turns ht263 (by first | omega | (simp only [size_al]; omega))
  have z268 := z247.turns ht263 (by first | omega | (simp only [size_al]; omega))
  have z269 := z248.turns ht263 (by first | omega | (simp only [size_al]; omega))
  have z270 := z249.turns ht263 (by first | omega | (simp only [size_al]; omega))
  clear z245 z246 z247 z248 z249
  have hB271 := hB251.trans (ht263.below (by omega) (by first | omega | (simp only [size_al]; omega)))
  clear hB251 ht263 z250
  clear x252 x253 x254 x255 x256 x257 x258 x259 x260 x261
  have x272 := z266.c0
  have x273 := z266.c1
  have x274 := z266.c2
  have x275 := z267.c0
  have x276 := z267.c1
  have x277 := z269.c0
  have x278 := z269.c1
  have x279 := z269.c2
  have x280 := z270.c0
  have x281 := z270.c1
  go_wp2_with fail
  refine (heldQ a5 N c5 1 (w76.heap.size + 1) (w104.heap.size) _ hN (by omega) z264).mono ?_
  rintro e w282 ⟨rfl, hb283⟩
  have hs' := hb283.symm
  clear hb283
  subst hs'
  clear x272 x273 x274 x275 x276 x277 x278 x279 x280 x281
  have x284 := z266.c0
  have x285 := z266.c1
  have x286 := z266.c2
  have x287 := z267.c0
  have x288 := z267.c1
  have x289 := z269.c0
  have x290 := z269.c1
  have x291 := z269.c2
  have x292 := z270.c0
  have x293 := z270.c1
  go_wp2_with fail
  have hw294 := Below.refl w262.heap.size w262
  go_region_held3 (fun w' => w'.cell? ⟨w.heap.size, 0, none⟩ = some (.slice a n c) ∧ w'.cell? ⟨w.heap.size, 1, none⟩ = some (.slice b m d) ∧ w'.cell? ⟨w.heap.size, 2, none⟩ = some (.slice x p q) ∧ w'.cell? ⟨w.heap.size + 1, 0, none⟩ = some (.slice ra rn rc) ∧ w'.cell? ⟨w.heap.size + 1, 1, none⟩ = some (.slice aa an ac))
    (first | (exact ⟨(z266.on hw294.drew).c0, (z266.on hw294.drew).c1, (z266.on hw294.drew).c2, (z267.on hw294.drew).c0, (z267.on hw294.drew).c1⟩) | (exact ⟨(z266.on hw297).c0, (z266.on hw297).c1, (z266.on hw297).c2, (z267.on hw297).c0, (z267.on hw297).c1⟩) | (exact ⟨(z266.on hw300).c0, (z266.on hw300).c1, (z266.on hw300).c2, (z267.on hw300).c0, (z267.on hw300).c1⟩) | (exact ⟨(z266.on hw303).c0, (z266.on hw303).c1, (z266.on hw303).c2, (z267.on hw303).c0, (z267.on hw303).c1⟩) | (fail))
    (first | (go_at_call 9; refine (toBoardP a n c b m d x p q f g K R _ hn hm hp hK (h.below (stepA hB271 (hw294.drew)))).mono ?_; rintro e w295 ⟨r1, r2, r3, rfl, hPr, hb296⟩; have hw297 := stepA hw294.drew hb296; have hRr : (w262).heap.size ≤ _ := hb296.size; clear hb296) | (go_at_call 10; refine (toWish_any ra aa rn rc an ac re av _ hrn han (hr.below (stepA hB271 (hw297))) (ha.below (stepA hB271 (hw297)))).mono ?_; rintro e w298 ⟨r4, r5, rfl, hVr, hb299⟩; have hw300 := stepA hw297 hb299; have hSr := hb299.size; have hTr := hb299; clear hb299) | (go_at_call 11; refine (hI r1 n r2 m r3 p r4 rn r5 an _ (Nat.le_refl _) (Nat.le_refl _) (Nat.le_refl _) (Nat.le_refl _) (Nat.le_refl _) (hPr.on hTr).bd hVr.sl1 hVr.sl2 (HT.out.below (stepA hB271 (hw300)))).mono ?_; rintro e w301 ⟨⟨a8, c8, rfl, hA8⟩, hb302⟩; have hw303 := stepA hw300 hb302; have hA8 := hA8.wide (lo' := (w262).heap.size) (Nat.le_trans hRr hSr) (Nat.le_refl _); clear hb302) | (fail))
  have hs304 := hw303.size
  try simp only [size_al] at hs304
  have z305 := z266.on hw303
  have z306 := z267.on hw303
  have z307 := z268.on hw303
  have z308 := z269.on hw303
  have z309 := z270.on hw303
  have z310 := z264.on hw303
  clear z266 z267 z268 z269 z270 z264
  have hB311 := stepA hB271 hw303
  clear hB271
  try simp only [size_al] at hA8
  clear hPr hVr hRr hSr hTr
  clear x284 x285 x286 x287 x288 x289 x290 x291 x292 x293
  have x312 := z305.c0
  have x313 := z305.c1
  have x314 := z305.c2
  have x315 := z306.c0
  have x316 := z306.c1
  have x317 := z308.c0
  have x318 := z308.c1
  have x319 := z308.c2
  have x320 := z309.c0
  have x321 := z309.c1
  go_wp2_with fail
  refine (eqI_any a8 a3 N c8 c3 F _ hN hA8.il z307.il).mono ?_
  rintro e w322 ⟨rfl, hb323⟩
  have hs324 := hb323.size
  have z325 := z305.on hb323
  have z326 := z306.on hb323
  have z327 := z307.on hb323
  have z328 := z308.on hb323
  have z329 := z309.on hb323
  have z330 := z310.on hb323
  have z331 := hA8.on hb323
  clear z305 z306 z307 z308 z309 z310 hA8
  have hB332 := stepA hB311 hb323
  clear hB311 hb323
  try simp only [size_al] at hs324
  clear x312 x313 x314 x315 x316 x317 x318 x319 x320 x321
  have x333 := z325.c0
  have x334 := z325.c1
  have x335 := z325.c2
  have x336 := z326.c0
  have x337 := z326.c1
  have x338 := z328.c0
  have x339 := z328.c1
  have x340 := z328.c2
  have x341 := z329.c0
  have x342 := z329.c1
  go_wp2_with fail
  refine (heldQ a5 N c5 1 (w76.heap.size + 1) (w104.heap.size) _ hN (by omega) z330).mono ?_
  rintro e w343 ⟨rfl, hb344⟩
  have hs' := hb344.symm
  clear hb344
  subst hs'
  clear x333 x334 x335 x336 x337 x338 x339 x340 x341 x342
  clear z325
  clear z326
  clear z327
  clear z328
  clear z329
  clear z330
  clear z331
  go_wp2
  go_ret
  exact ⟨rfl, hB332⟩
end Go.Proofs.YtacnegfmdckpbabDoor
