/- The walk of the law on WishMet (tools/gen_whlaw.py). -/
import Derived.Test.YtacnegfmdckpbabDoorWhMtS
import Derived.Test.YtacnegfmdckpbabDoorLqCopy
import Derived.Test.YtacnegfmdckpbabDoorU8Shelf
namespace Go.Proofs.YtacnegfmdckpbabDoor
open Go.RowKit
theorem lefW_in {n : Nat} {f : Nat → ByteArray} {m : Nat} {g : Nat → ByteArray} {l : Int} (h : ¬ lefW n f m g l < 0) : (n : Int) ≤ l ∧ (∀ i, i < n → ((f i).size : Int) ≤ l) ∧ (m : Int) ≤ l ∧ (∀ i, i < m → ((g i).size : Int) ≤ l) := by
  unfold lefW at h
  by_cases h1 : lefB f n l < 0
  · rw [if_pos h1] at h; omega
  · rw [if_neg h1] at h
    obtain ⟨a1, a2, a3⟩ := lefB_in h1
    obtain ⟨b1, b2, _⟩ := lefB_in h
    exact ⟨a1, a2, by omega, fun i hi => by have := b2 i hi; omega⟩
set_option maxHeartbeats 8000000 in
theorem metAll (a : Option Addr) (n c : Nat) (b : Option Addr) (m d : Nat) (x : Option Addr) (p q : Nat) (f : Nat → ByteArray) (g : Nat → Bool) (K : Nat → Nat) (R : Nat → Nat → Int) (ra : Option Addr) (rn rc : Nat) (re : Nat → ByteArray) (aa : Option Addr) (an ac : Nat) (av : Nat → ByteArray) (ta : Option Addr) (L tc : Nat) (P : Nat → Int) (w : World) (hn0 : n ≤ 9223372036854775807) (hm0 : m ≤ 9223372036854775807) (hp0 : p ≤ 9223372036854775807) (hf0 : ∀ i, i < n → (f i).size ≤ 9223372036854775807) (hK0 : ∀ i, i < p → K i ≤ 9223372036854775807) (hrn0 : rn ≤ 9223372036854775807) (han0 : an ≤ 9223372036854775807) (hre0 : ∀ i, i < rn → (re i).size ≤ 9223372036854775807) (hav0 : ∀ i, i < an → (av i).size ≤ 9223372036854775807) (hL0 : L ≤ 9223372036854775807)
    (h : BD w a n f b m g x p K R) (hr : SL w ra rn re) (ha : SL w aa an av) (ht : IL w ta L P) (hT : U8 w)
    (hI0 : n ≤ 1048576 → m ≤ 1048576 → p ≤ 1048576 → (∀ i, i < n → (f i).size ≤ 1048576) → (∀ i, i < p → K i ≤ 1048576) → rn ≤ 1048576 → an ≤ 1048576 → (∀ i, i < rn → (re i).size ≤ 1048576) → (∀ i, i < an → (av i).size ≤ 1048576) → L ≤ 1048576 → ∀ (a : Option Addr) (c : Nat) (b : Option Addr) (d : Nat) (x : Option Addr) (q : Nat) (ra : Option Addr) (rc : Nat) (aa : Option Addr) (ac : Nat) (ta : Option Addr) (tc : Nat) (w : World), n ≤ c → m ≤ d → p ≤ q → rn ≤ rc → an ≤ ac → L ≤ tc → BD w a n f b m g x p K R → SL w ra rn re → SL w aa an av → IL w ta L P → U8 w → Calls Tryd.prog 23 #[bdv a n c b m d x p q, wsv ra rn rc aa an ac, .slice ta L tc] w fun e w' => e = .returned (.tuple #[.bool (mtV n f m p K R rn re an av P L).1, .bool (mtV n f m p K R rn re an av P L).2]) ∧ Below w.heap.size w w') :
    Calls Tryd.prog 5 #[bdv a n c b m d x p q, wsv ra rn rc aa an ac, .slice ta L tc] w fun e w' => e = .returned (.bool true) ∧ Below w.heap.size w w' := by
  have HT : Hid (U8 w) := hT
  clear hT
  by_cases hL : L ≤ 1048576
  case neg =>
    have hj : (1048576 : Int) < (L : Int) := by omega
    have hB0 : Below w.heap.size w ((w.alloc (bdO a n c b m d x p q 26)).alloc (wsO ra rn rc aa an ac 28)) := ((Below.refl _ _).alloc (Nat.le_refl _) _).alloc (by simp) _
    go_enter Tryd.func5, Tryd.ntmps5
    go_wp2
    go_ret
    exact ⟨rfl, hB0⟩
  have hj : ¬ (1048576 : Int) < (L : Int) := by omega
  go_enter Tryd.func5, Tryd.ntmps5
  have hB0 := Below.refl w.heap.size w
  have z1 := bx_new (b := w.heap.size) (w := w) [.slice a n c, .slice b m d, .slice x p q] 26 (by first | rfl | simp only [size_al])
  have hx2 : Below w.heap.size w (w.alloc (.cells #[.slice a n c, .slice b m d, .slice x p q] 26)) := (Below.refl _ _).alloc (Nat.le_refl _) _
  have hB3 := stepA hB0 hx2
  clear hB0 hx2
  have z4 := bx_new (b := w.heap.size + 1) (w := (w.alloc (.cells #[.slice a n c, .slice b m d, .slice x p q] 26))) [.slice ra rn rc, .slice aa an ac] 28 (by first | rfl | simp only [size_al])
  have hx5 : Below (w.alloc (.cells #[.slice a n c, .slice b m d, .slice x p q] 26)).heap.size (w.alloc (.cells #[.slice a n c, .slice b m d, .slice x p q] 26)) ((w.alloc (.cells #[.slice a n c, .slice b m d, .slice x p q] 26)).alloc (.cells #[.slice ra rn rc, .slice aa an ac] 28)) := (Below.refl _ _).alloc (Nat.le_refl _) _
  have z6 := z1.on hx5
  clear z1
  have hB7 := stepA hB3 hx5
  clear hB3 hx5
  have x8 := z6.c0
  have x9 := z6.c1
  have x10 := z6.c2
  have x11 := z4.c0
  have x12 := z4.c1
  go_wp2_with fail
  refine (szBoard_any a n c b m d x p q f g K R 1048576 _ (by omega) (by omega) hn0 hm0 hp0 hf0 hK0 (h.below hB7)).mono ?_
  rintro e w13 ⟨y, rfl, hy, hb14⟩
  have hs15 := hb14.size
  have z16 := z6.on hb14
  have z17 := z4.on hb14
  clear z6 z4
  have hB18 := stepA hB7 hb14
  clear hB7 hb14
  try simp only [size_al] at hs15
  rcases hy with rfl | ⟨y0, y1, hn', hm', hp', hf', hK'⟩
  · go_wp2
    go_ret
    exact ⟨rfl, hB18⟩
  have hn : n ≤ 1048576 := by omega
  have hm : m ≤ 1048576 := by omega
  have hp : p ≤ 1048576 := by omega
  have hf : ∀ i, i < n → (f i).size ≤ 1048576 := fun i hi => by have := hf' i hi; omega
  have hK : ∀ i, i < p → K i ≤ 1048576 := fun i hi => by have := hK' i hi; omega
  have y2 : ¬ y < 0 := by omega
  clear hn' hm' hp' hf' hK' hf0 hK0
  have HW : Hid (¬ lefW rn re an av y < 0 → (rn : Int) ≤ y ∧ (∀ i, i < rn → ((re i).size : Int) ≤ y) ∧ (an : Int) ≤ y ∧ (∀ i, i < an → ((av i).size : Int) ≤ y)) := fun h => lefW_in h
  have kZ := fun w h h' => szWish_any ra aa rn rc an ac re av y w y0 (by omega) hrn0 han0 hre0 hav0 h h'
  generalize lefW rn re an av y = z at *
  clear x8 x9 x10 x11 x12
  have x19 := z16.c0
  have x20 := z16.c1
  have x21 := z16.c2
  have x22 := z17.c0
  have x23 := z17.c1
  go_wp2_with fail
  refine (kZ _ (hr.below hB18) (ha.below hB18)).mono ?_
  rintro e w24 ⟨rfl, hb25⟩
  have hs26 := hb25.size
  have z27 := z16.on hb25
  have z28 := z17.on hb25
  clear z16 z17
  have hB29 := stepA hB18 hb25
  clear hB18 hb25
  try simp only [size_al] at hs26
  by_cases z0 : z < 0
  · clear HW kZ
    go_wp2
    go_ret
    exact ⟨rfl, hB29⟩
  obtain ⟨w1', w2', w3', w4'⟩ := HW.out (by omega)
  have hrn : rn ≤ 1048576 := by omega
  have han : an ≤ 1048576 := by omega
  have hre : ∀ i, i < rn → (re i).size ≤ 1048576 := fun i hi => by have := w2' i hi; omega
  have hav : ∀ i, i < an → (av i).size ≤ 1048576 := fun i hi => by have := w4' i hi; omega
  clear w1' w2' w3' w4' HW kZ hre0 hav0
  have hS := fun a c b d x q ra rc aa ac ta tc w h1 h2 h h' h'' h3 => sWishMet a n c b m d x p q f g K R ra rn rc re aa an ac av ta L tc P w hn hm hp hf hK hrn han h1 h2 hre hav hL h h' h'' h3
  have hI := hI0 hn hm hp hf hK hrn han hre hav hL
  clear hI0 hf hre hav
  generalize mtV n f m p K R rn re an av P L = V at hI hS
  obtain ⟨V1, V2⟩ := V
  dsimp only at hI hS
  have ev1 : (V1 == V1) = true := by simp
  have ev2 : (V2 == V2) = true := by simp
  have ev3 : (V1 != V1) = false := by simp
  have ev4 : (V2 != V2) = false := by simp
  clear x19 x20 x21 x22 x23
  have x30 := z27.c0
  have x31 := z27.c1
  have x32 := z27.c2
  have x33 := z28.c0
  have x34 := z28.c1
  go_wp2_with fail
  have hw35 := Below.refl w24.heap.size w24
  go_region_held3 (fun w' => w'.cell? ⟨w.heap.size, 0, none⟩ = some (.slice a n c) ∧ w'.cell? ⟨w.heap.size, 1, none⟩ = some (.slice b m d) ∧ w'.cell? ⟨w.heap.size, 2, none⟩ = some (.slice x p q) ∧ w'.cell? ⟨w.heap.size + 1, 0, none⟩ = some (.slice ra rn rc) ∧ w'.cell? ⟨w.heap.size + 1, 1, none⟩ = some (.slice aa an ac))
    (first | (exact ⟨(z27.on hw35.drew).c0, (z27.on hw35.drew).c1, (z27.on hw35.drew).c2, (z28.on hw35.drew).c0, (z28.on hw35.drew).c1⟩) | (exact ⟨(z27.on hw38).c0, (z27.on hw38).c1, (z27.on hw38).c2, (z28.on hw38).c0, (z28.on hw38).c1⟩) | (exact ⟨(z27.on hw41).c0, (z27.on hw41).c1, (z27.on hw41).c2, (z28.on hw41).c0, (z28.on hw41).c1⟩) | (exact ⟨(z27.on hw44).c0, (z27.on hw44).c1, (z27.on hw44).c2, (z28.on hw44).c0, (z28.on hw44).c1⟩) | (exact ⟨(z27.on hw47).c0, (z27.on hw47).c1, (z27.on hw47).c2, (z28.on hw47).c0, (z28.on hw47).c1⟩) | (fail))
    (first | (go_at_call 9; refine (toBoard_any a n c b m d x p q f g K R _ hn hm hp hK (h.below (stepA hB29 (hw35.drew)))).mono ?_; rintro e w36 ⟨p1, p2, p3, rfl, hP, hb37⟩; have hw38 := stepA hw35.drew hb37; have hP1 := hb37; clear hb37) | (go_at_call 10; refine (toWish_any ra aa rn rc an ac re av _ hrn han (hr.below (stepA hB29 (hw38))) (ha.below (stepA hB29 (hw38)))).mono ?_; rintro e w39 ⟨p4, p5, rfl, hP4, hb40⟩; have hw41 := stepA hw38 hb40; have hP2 := hb40; clear hb40) | (go_at_call 20; refine (copyQ ta L tc P _ hL (ht.below (stepA hB29 (hw41)))).mono ?_; rintro e w42 ⟨rfl, hP6, -, hb43⟩; have hw44 := stepA hw41 hb43; have hP3 := hb43; clear hb43) | (go_at_call 22; refine (hS p1 n p2 m p3 p p4 rn p5 an _ L _ (Nat.le_refl _) (Nat.le_refl _) ((hP.on hP2).on hP3) ((hP4.on hP3).sl1) ((hP4.on hP3).sl2) hP6.il).mono ?_; rintro e w45 ⟨rfl, hb46⟩; have hw47 := stepA hw44 hb46; clear hb46) | (fail))
  have hs48 := hw47.size
  try simp only [size_al] at hs48
  have z49 := z27.on hw47
  have z50 := z28.on hw47
  clear z27 z28
  have hB51 := stepA hB29 hw47
  clear hB29
  clear hP hP1 hP2 hP3 hP4 hP6
  clear x30 x31 x32 x33 x34
  have x52 := z49.c0
  have x53 := z49.c1
  have x54 := z49.c2
  have x55 := z50.c0
  have x56 := z50.c1
  go_wp2_with fail
  refine (toBoard_any a n c b m d x p q f g K R _ hn hm hp hK (h.below (hB51))).mono ?_
  rintro e w57 ⟨q1, q2, q3, rfl, hQ, hb58⟩
  have hs59 := hb58.size
  have z60 := z49.on hb58
  have z61 := z50.on hb58
  clear z49 z50
  have hB62 := stepA hB51 hb58
  clear hB51 hb58
  try simp only [size_al] at hs59
  have z63 := bx_new (b := w57.heap.size) (w := w57) [.slice q1 n n, .slice q2 m m, .slice q3 p p] 34 (by first | rfl | simp only [size_al])
  have hx64 : Below w57.heap.size w57 (w57.alloc (.cells #[.slice q1 n n, .slice q2 m m, .slice q3 p p] 34)) := (Below.refl _ _).alloc (Nat.le_refl _) _
  have z65 := z60.on hx64
  have z66 := z61.on hx64
  have z67 := hQ.on hx64
  clear z60 z61 hQ
  have hB68 := stepA hB62 hx64
  clear hB62 hx64
  clear x52 x53 x54 x55 x56
  have x69 := z65.c0
  have x70 := z65.c1
  have x71 := z65.c2
  have x72 := z66.c0
  have x73 := z66.c1
  have x74 := z63.c0
  have x75 := z63.c1
  have x76 := z63.c2
  go_wp2_with fail
  refine (toWish_any ra aa rn rc an ac re av _ hrn han (hr.below (hB68)) (ha.below (hB68))).mono ?_
  rintro e w77 ⟨q4, q5, rfl, hQ4, hb78⟩
  have hs79 := hb78.size
  have z80 := z65.on hb78
  have z81 := z66.on hb78
  have z82 := z67.on hb78
  have z83 := z63.on hb78
  clear z65 z66 z67 z63
  have hB84 := stepA hB68 hb78
  clear hB68 hb78
  try simp only [size_al] at hs79
  have z85 := bx_new (b := w77.heap.size) (w := w77) [.slice q4 rn rn, .slice q5 an an] 36 (by first | rfl | simp only [size_al])
  have hx86 : Below w77.heap.size w77 (w77.alloc (.cells #[.slice q4 rn rn, .slice q5 an an] 36)) := (Below.refl _ _).alloc (Nat.le_refl _) _
  have z87 := z80.on hx86
  have z88 := z81.on hx86
  have z89 := z82.on hx86
  have z90 := z83.on hx86
  have z91 := hQ4.on hx86
  clear z80 z81 z82 z83 hQ4
  have hB92 := stepA hB84 hx86
  clear hB84 hx86
  clear x69 x70 x71 x72 x73 x74 x75 x76
  have x93 := z87.c0
  have x94 := z87.c1
  have x95 := z87.c2
  have x96 := z88.c0
  have x97 := z88.c1
  have x98 := z90.c0
  have x99 := z90.c1
  have x100 := z90.c2
  have x101 := z85.c0
  have x102 := z85.c1
  go_wp2_with fail
  refine (copyQ ta L tc P _ hL (ht.below (hB92))).mono ?_
  rintro e w103 ⟨rfl, hQ6, -, hb104⟩
  have hs105 := hb104.size
  have z106 := z87.on hb104
  have z107 := z88.on hb104
  have z108 := z89.on hb104
  have z109 := z90.on hb104
  have z110 := z91.on hb104
  have z111 := z85.on hb104
  clear z87 z88 z89 z90 z91 z85
  have hB112 := stepA hB92 hb104
  clear hB92 hb104
  try simp only [size_al] at hs105
  try simp only [size_al] at hQ6
  clear x93 x94 x95 x96 x97 x98 x99 x100 x101 x102
  have x113 := z106.c0
  have x114 := z106.c1
  have x115 := z106.c2
  have x116 := z107.c0
  have x117 := z107.c1
  have x118 := z109.c0
  have x119 := z109.c1
  have x120 := z109.c2
  have x121 := z111.c0
  have x122 := z111.c1
  go_wp2_with fail
  refine (hI q1 n q2 m q3 p q4 rn q5 an _ L _ (Nat.le_refl _) (Nat.le_refl _) (Nat.le_refl _) (Nat.le_refl _) (Nat.le_refl _) (Nat.le_refl _) z108 z110.sl1 z110.sl2 hQ6.il (HT.out.below hB112)).mono ?_
  rintro e w123 ⟨rfl, hb124⟩
  have hs125 := hb124.size
  have z126 := z106.on hb124
  have z127 := z107.on hb124
  have z128 := z108.on hb124
  have z129 := z109.on hb124
  have z130 := z110.on hb124
  have z131 := z111.on hb124
  have z132 := hQ6.on hb124
  clear z106 z107 z108 z109 z110 z111 hQ6
  have hB133 := stepA hB112 hb124
  clear hB112 hb124
  try simp only [size_al] at hs125
  clear x113 x114 x115 x116 x117 x118 x119 x120 x121 x122
  have x134 := z126.c0
  have x135 := z126.c1
  have x136 := z126.c2
  have x137 := z127.c0
  have x138 := z127.c1
  have x139 := z129.c0
  have x140 := z129.c1
  have x141 := z129.c2
  have x142 := z131.c0
  have x143 := z131.c1
  go_wp2_with fail
  have hw144 := Below.refl w123.heap.size w123
  go_region_held3 (fun w' => w'.cell? ⟨w.heap.size, 0, none⟩ = some (.slice a n c) ∧ w'.cell? ⟨w.heap.size, 1, none⟩ = some (.slice b m d) ∧ w'.cell? ⟨w.heap.size, 2, none⟩ = some (.slice x p q) ∧ w'.cell? ⟨w57.heap.size, 0, none⟩ = some (.slice q1 n n) ∧ w'.cell? ⟨w57.heap.size, 1, none⟩ = some (.slice q2 m m) ∧ w'.cell? ⟨w57.heap.size, 2, none⟩ = some (.slice q3 p p))
    (first | (exact ⟨(z126.on hw144.drew).c0, (z126.on hw144.drew).c1, (z126.on hw144.drew).c2, (z129.on hw144.drew).c0, (z129.on hw144.drew).c1, (z129.on hw144.drew).c2⟩) | (exact ⟨(z126.on hw147).c0, (z126.on hw147).c1, (z126.on hw147).c2, (z129.on hw147).c0, (z129.on hw147).c1, (z129.on hw147).c2⟩) | (exact ⟨(z126.on hw150).c0, (z126.on hw150).c1, (z126.on hw150).c2, (z129.on hw150).c0, (z129.on hw150).c1, (z129.on hw150).c2⟩) | (fail))
    (first | (go_at_call 9; refine (toBoard_any a n c b m d x p q f g K R _ hn hm hp hK (h.below (stepA hB133 (hw144.drew)))).mono ?_; rintro e w145 ⟨r11, r21, r31, rfl, hR1, hb146⟩; have hw147 := stepA hw144.drew hb146; clear hb146) | (go_at_call 13; refine (eqBoard_any _ _ n _ _ _ _ m _ _ _ _ p _ _ f g K R _ hn hm hp hK (z128.on (hw147)) hR1).mono ?_; rintro e w148 ⟨rfl, hb149⟩; have hw150 := stepA hw147 hb149; clear hb149) | (fail))
  have hs151 := hw150.size
  try simp only [size_al] at hs151
  have z152 := z126.on hw150
  have z153 := z127.on hw150
  have z154 := z128.on hw150
  have z155 := z129.on hw150
  have z156 := z130.on hw150
  have z157 := z131.on hw150
  have z158 := z132.on hw150
  clear z126 z127 z128 z129 z130 z131 z132
  have hB159 := stepA hB133 hw150
  clear hB133
  clear hR1
  clear x134 x135 x136 x137 x138 x139 x140 x141 x142 x143
  have x160 := z152.c0
  have x161 := z152.c1
  have x162 := z152.c2
  have x163 := z153.c0
  have x164 := z153.c1
  have x165 := z155.c0
  have x166 := z155.c1
  have x167 := z155.c2
  have x168 := z157.c0
  have x169 := z157.c1
  go_wp2_with fail
  have hw170 := Below.refl w148.heap.size w148
  go_region_held3 (fun w' => w'.cell? ⟨w.heap.size + 1, 0, none⟩ = some (.slice ra rn rc) ∧ w'.cell? ⟨w.heap.size + 1, 1, none⟩ = some (.slice aa an ac) ∧ w'.cell? ⟨w77.heap.size, 0, none⟩ = some (.slice q4 rn rn) ∧ w'.cell? ⟨w77.heap.size, 1, none⟩ = some (.slice q5 an an))
    (first | (exact ⟨(z153.on hw170.drew).c0, (z153.on hw170.drew).c1, (z157.on hw170.drew).c0, (z157.on hw170.drew).c1⟩) | (exact ⟨(z153.on hw173).c0, (z153.on hw173).c1, (z157.on hw173).c0, (z157.on hw173).c1⟩) | (exact ⟨(z153.on hw176).c0, (z153.on hw176).c1, (z157.on hw176).c0, (z157.on hw176).c1⟩) | (fail))
    (first | (go_at_call 10; refine (toWish_any ra aa rn rc an ac re av _ hrn han (hr.below (stepA hB159 (hw170.drew))) (ha.below (stepA hB159 (hw170.drew)))).mono ?_; rintro e w171 ⟨r12, r22, rfl, hR2, hb172⟩; have hw173 := stepA hw170.drew hb172; clear hb172) | (go_at_call 14; refine (eqWish_any _ _ _ _ rn _ an _ _ _ re av _ hrn han (z156.on (hw173)).sl1 (z156.on (hw173)).sl2 hR2.sl1 hR2.sl2).mono ?_; rintro e w174 ⟨rfl, hb175⟩; have hw176 := stepA hw173 hb175; clear hb175) | (fail))
  have hs177 := hw176.size
  try simp only [size_al] at hs177
  have z178 := z152.on hw176
  have z179 := z153.on hw176
  have z180 := z154.on hw176
  have z181 := z155.on hw176
  have z182 := z156.on hw176
  have z183 := z157.on hw176
  have z184 := z158.on hw176
  clear z152 z153 z154 z155 z156 z157 z158
  have hB185 := stepA hB159 hw176
  clear hB159
  clear hR2
  clear x160 x161 x162 x163 x164 x165 x166 x167 x168 x169
  have x186 := z178.c0
  have x187 := z178.c1
  have x188 := z178.c2
  have x189 := z179.c0
  have x190 := z179.c1
  have x191 := z181.c0
  have x192 := z181.c1
  have x193 := z181.c2
  have x194 := z183.c0
  have x195 := z183.c1
  go_wp2_with fail
  refine (copyQ ta L tc P _ hL (ht.below (hB185))).mono ?_
  rintro e w196 ⟨rfl, hQ7, -, hb197⟩
  have hs198 := hb197.size
  have z199 := z178.on hb197
  have z200 := z179.on hb197
  have z201 := z180.on hb197
  have z202 := z181.on hb197
  have z203 := z182.on hb197
  have z204 := z183.on hb197
  have z205 := z184.on hb197
  clear z178 z179 z180 z181 z182 z183 z184
  have hB206 := stepA hB185 hb197
  clear hB185 hb197
  try simp only [size_al] at hs198
  try simp only [size_al] at hQ7
  clear x186 x187 x188 x189 x190 x191 x192 x193 x194 x195
  have x207 := z199.c0
  have x208 := z199.c1
  have x209 := z199.c2
  have x210 := z200.c0
  have x211 := z200.c1
  have x212 := z202.c0
  have x213 := z202.c1
  have x214 := z202.c2
  have x215 := z204.c0
  have x216 := z204.c1
  go_wp2_with fail
  refine (eqI_any _ _ L _ _ P _ hL z205.il hQ7.il).mono ?_
  rintro e w217 ⟨rfl, hb218⟩
  have hs219 := hb218.size
  have z220 := z199.on hb218
  have z221 := z200.on hb218
  have z222 := z201.on hb218
  have z223 := z202.on hb218
  have z224 := z203.on hb218
  have z225 := z204.on hb218
  have z226 := z205.on hb218
  have z227 := hQ7.on hb218
  clear z199 z200 z201 z202 z203 z204 z205 hQ7
  have hB228 := stepA hB206 hb218
  clear hB206 hb218
  try simp only [size_al] at hs219
  clear x207 x208 x209 x210 x211 x212 x213 x214 x215 x216
  clear z220
  clear z221
  clear z222
  clear z223
  clear z224
  clear z225
  clear z226
  clear z227
  go_wp2
  go_ret
  exact ⟨rfl, hB228⟩
end Go.Proofs.YtacnegfmdckpbabDoor
