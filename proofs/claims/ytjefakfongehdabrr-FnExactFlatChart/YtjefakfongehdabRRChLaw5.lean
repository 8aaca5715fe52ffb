/- The walk of the law on FlatChart. -/
import Derived.Test.YtjefakfongehdabRRChFlS
import Derived.Test.YtjefakfongehdabRRChMark
namespace Go.Proofs.YtjefakfongehdabRR
open Go.RowKit
theorem flN_le (n : Nat) (f : Nat → Int) (m : Nat) (g : Nat → Int) : flN (gchB n f m g) n ≤ 12 := by
  cases e : gchB n f m g with
  | false => exact Nat.zero_le _
  | true => exact (gchB_iff.1 e).n12
set_option maxRecDepth 20000 in
set_option maxHeartbeats 8000000 in
theorem tableLaw (a b : Option Addr) (n c m d : Nat) (f g : Nat → Int) (w : World) (h0 : n + m ≤ 1048576) (hf : IL w a (n * 2) f) (hg : IL w b (m * 3) g)
    (hI : ∀ (a b : Option Addr) (c d : Nat) (w : World), n ≤ c → IL w a (n * 2) f → IL w b (m * 3) g → Calls Try.prog 9 #[chv a n c b m d] w fun e w' => AnsT w w' e (flN (gchB n f m g) n) (flK f) (flR n f m g) (gchB n f m g) ∧ Below w.heap.size w w') :
    Calls Try.prog 3 #[chv a n c b m d] w fun e w' => e = .returned (.bool true) ∧ Below w.heap.size w w' := by
  have hn : n ≤ 1048576 := by omega
  have hm : m ≤ 1048576 := by omega
  have j1 : ¬ (1048576 : Int) - (n : Int) - (m : Int) < 0 := by omega
  have hN12 : flN (gchB n f m g) n ≤ 12 := flN_le n f m g
  have hS := fun a b c d w h1 h2 => sFlatChart a b n c m d f g w hn hm h1 h2
  have hsm : sumK (flK f) (flN (gchB n f m g) n) ≤ 72 := by have := flK_sum f (flN (gchB n f m g) n); omega
  generalize flN (gchB n f m g) n = N at hI hS hN12 hsm
  generalize flK f = K at hI hS hsm
  generalize flR n f m g = R at hI hS
  generalize gchB n f m g = T at hI hS
  have hN : N ≤ 1048576 := by omega
  have hK : ∀ i, i < N → K i ≤ 1048576 := fun i hi => by have := sumK_le K N i hi; omega
  have jk : ¬ (1 : Int) + (n : Int) * 2 + (m : Int) * 3 < 0 := by omega
  have hmk := fun a c lo hi w (h : RK w lo hi a N K R) => markK a N c 1 lo hi K R w hN (by omega) (by omega) h
  have hhd := fun a c lo hi w (h : RK w lo hi a N K (mkK 1 K)) => heldK a N c 1 lo hi K w hN (by omega) (by omega) h
  obtain ⟨M, hM⟩ : ∃ M : Int, M = ((1 + sumK K N : Nat) : Int) := ⟨_, rfl⟩
  have jM : ¬ M < 0 := by omega
  rw [← hM] at hmk hhd
  clear hM
  go_enter Try.func3, Try.ntmps3
  have hB0 := Below.refl w.heap.size w
  have z1 := bx_new (b := w.heap.size) (w := w) [.slice a n c, .slice b m d] 25 (by first | rfl | simp only [size_al])
  have hx2 : Below w.heap.size w (w.alloc (.cells #[.slice a n c, .slice b m d] 25)) := (Below.refl _ _).alloc (Nat.le_refl _) _
  have hB3 := stepA hB0 hx2
  clear hB0 hx2
  have x4 := z1.c0
  have x5 := z1.c1
  go_wp2_with fail
  refine (szChart_in a b n c m d 1048576 _ (by omega) (by omega)).mono ?_
  rintro e w6 ⟨rfl, hb7⟩
  have hs8 := hb7.size
  have z9 := z1.on hb7
  clear z1
  have hB10 := stepA hB3 hb7
  clear hB3 hb7
  try simp only [size_al] at hs8
  clear x4 x5
  have x11 := z9.c0
  have x12 := z9.c1
  go_wp2_with fail
  refine (toChart_any a b n c m d f g _ hn hm (hf.below (hB10)) (hg.below (hB10))).mono ?_
  rintro e w13 ⟨p1, p2, rfl, hP, hb14⟩
  have hs15 := hb14.size
  have z16 := z9.on hb14
  clear z9
  have hB17 := stepA hB10 hb14
  clear hB10 hb14
  try simp only [size_al] at hs15
  try simp only [size_al] at hP
  clear x11 x12
  have x18 := z16.c0
  have x19 := z16.c1
  go_wp2_with fail
  refine (hS p1 p2 n m _ hP.il1 hP.il2).mono ?_
  rintro e w20 ⟨⟨a3, c3, rfl, hA3⟩, hb21⟩
  have hs22 := hb21.size
  have z23 := z16.on hb21
  have z24 := hP.on hb21
  clear z16 hP
  have hB25 := stepA hB17 hb21
  clear hB17 hb21
  try simp only [size_al] at hs22
  try simp only [size_al] at hA3
  clear z24
  clear x18 x19
  have x26 := z23.c0
  have x27 := z23.c1
  go_wp2_with fail
  refine (toChart_any a b n c m d f g _ hn hm (hf.below (hB25)) (hg.below (hB25))).mono ?_
  rintro e w28 ⟨q1, q2, rfl, hQ, hb29⟩
  have hs30 := hb29.size
  have z31 := z23.on hb29
  have z32 := hA3.on hb29
  clear z23 hA3
  have hB33 := stepA hB25 hb29
  clear hB25 hb29
  try simp only [size_al] at hs30
  try simp only [size_al] at hQ
  have z34 := bx_new (b := w28.heap.size) (w := w28) [.slice q1 n n, .slice q2 m m] 33 (by first | rfl | simp only [size_al])
  have hx35 : Below w28.heap.size w28 (w28.alloc (.cells #[.slice q1 n n, .slice q2 m m] 33)) := (Below.refl _ _).alloc (Nat.le_refl _) _
  have z36 := z31.on hx35
  have z37 := z32.on hx35
  have z38 := hQ.on hx35
  clear z31 z32 hQ
  have hB39 := stepA hB33 hx35
  clear hB33 hx35
  clear x26 x27
  have x40 := z36.c0
  have x41 := z36.c1
  have x42 := z34.c0
  have x43 := z34.c1
  go_wp2_with fail
  refine (hI q1 q2 n m _ (Nat.le_refl _) z38.il1 z38.il2).mono ?_
  rintro e w44 ⟨⟨a5, c5, rfl, hA5⟩, hb45⟩
  have hs46 := hb45.size
  have z47 := z36.on hb45
  have z48 := z37.on hb45
  have z49 := z38.on hb45
  have z50 := z34.on hb45
  clear z36 z37 z38 z34
  have hB51 := stepA hB39 hb45
  clear hB39 hb45
  try simp only [size_al] at hs46
  try simp only [size_al] at hA5
  clear x40 x41 x42 x43
  have x52 := z47.c0
  have x53 := z47.c1
  have x54 := z50.c0
  have x55 := z50.c1
  go_wp2_with fail
  refine (eqR_any a5 a3 N c5 c3 K R _ hN hK hA5.rr z48.rr).mono ?_
  rintro e w56 ⟨rfl, hb57⟩
  have hs58 := hb57.size
  have z59 := z47.on hb57
  have z60 := z48.on hb57
  have z61 := z49.on hb57
  have z62 := z50.on hb57
  have z63 := hA5.on hb57
  clear z47 z48 z49 z50 hA5
  have hB64 := stepA hB51 hb57
  clear hB51 hb57
  try simp only [size_al] at hs58
  clear x52 x53 x54 x55
  have x65 := z59.c0
  have x66 := z59.c1
  have x67 := z62.c0
  have x68 := z62.c1
  go_wp2_with fail
  have hw69 := Below.refl w56.heap.size w56
  go_region_held3 (fun w' => w'.cell? ⟨w.heap.size, 0, none⟩ = some (.slice a n c) ∧ w'.cell? ⟨w.heap.size, 1, none⟩ = some (.slice b m d) ∧ w'.cell? ⟨w28.heap.size, 0, none⟩ = some (.slice q1 n n) ∧ w'.cell? ⟨w28.heap.size, 1, none⟩ = some (.slice q2 m m))
    (first | (exact ⟨(z59.on hw69.drew).c0, (z59.on hw69.drew).c1, (z62.on hw69.drew).c0, (z62.on hw69.drew).c1⟩) | (exact ⟨(z59.on hw72).c0, (z59.on hw72).c1, (z62.on hw72).c0, (z62.on hw72).c1⟩) | (exact ⟨(z59.on hw75).c0, (z59.on hw75).c1, (z62.on hw75).c0, (z62.on hw75).c1⟩) | (fail))
    (first | (go_at_call 8; refine (toChart_any a b n c m d f g _ hn hm (hf.below (stepA hB64 (hw69.drew))) (hg.below (stepA hB64 (hw69.drew)))).mono ?_; rintro e w70 ⟨r11, r21, rfl, hR1, hb71⟩; have hw72 := stepA hw69.drew hb71; clear hb71) | (go_at_call 11; refine (eqChart_any _ _ _ _ n _ m _ _ _ f g _ hn hm (z61.on (hw72)).il1 (z61.on (hw72)).il2 hR1.il1 hR1.il2).mono ?_; rintro e w73 ⟨rfl, hb74⟩; have hw75 := stepA hw72 hb74; clear hb74) | (fail))
  have hs76 := hw75.size
  try simp only [size_al] at hs76
  have z77 := z59.on hw75
  have z78 := z60.on hw75
  have z79 := z61.on hw75
  have z80 := z62.on hw75
  have z81 := z63.on hw75
  clear z59 z60 z61 z62 z63
  have hB82 := stepA hB64 hw75
  clear hB64
  clear hR1
  clear x65 x66 x67 x68
  have x83 := z77.c0
  have x84 := z77.c1
  have x85 := z80.c0
  have x86 := z80.c1
  go_wp2_with fail
  refine (markChart_any q1 q2 n n m m (w20.heap.size) (w28.heap.size) f g _ h0 z79 (by first | omega | (simp only [size_al]; omega))).mono ?_
  rintro e w87 ⟨rfl, z89, ht88⟩
  have hs90 := ht88.size
  try simp only [size_al] at hs90
  have z91 := z77.turns ht88 (by first | omega | (simp only [size_al]; omega))
  have z92 := z78.turns ht88 (by first | omega | (simp only [size_al]; omega))
  have z93 := z80.turns ht88 (by first | omega | (simp only [size_al]; omega))
  have z94 := z81.turns ht88 (by first | omega | (simp only [size_al]; omega))
  clear z77 z78 z80 z81
  have hB95 := hB82.trans (ht88.below (by omega) (by first | omega | (simp only [size_al]; omega)))
  clear hB82 ht88 z79
  clear x83 x84 x85 x86
  have x96 := z91.c0
  have x97 := z91.c1
  have x98 := z93.c0
  have x99 := z93.c1
  go_wp2_with fail
  refine (eqR_any a5 a3 N c5 c3 K R _ hN hK z94.rr z92.rr).mono ?_
  rintro e w100 ⟨rfl, hb101⟩
  have hs102 := hb101.size
  have z103 := z91.on hb101
  have z104 := z92.on hb101
  have z105 := z93.on hb101
  have z106 := z94.on hb101
  have z107 := z89.on hb101
  clear z91 z92 z93 z94 z89
  have hB108 := stepA hB95 hb101
  clear hB95 hb101
  try simp only [size_al] at hs102
  clear x96 x97 x98 x99
  have x109 := z103.c0
  have x110 := z103.c1
  have x111 := z105.c0
  have x112 := z105.c1
  go_wp2_with fail
  refine (hmk a5 c5 (w28.heap.size + 1) (w44.heap.size) _ z106).mono ?_
  rintro e w113 ⟨rfl, z115, ht114⟩
  have hs116 := ht114.size
  try simp only [size_al] at hs116
  have z117 := z103.turns ht114 (by first | omega | (simp only [size_al]; omega))
  have z118 := z104.turns ht114 (by first | omega | (simp only [size_al]; omega))
  have z119 := z105.turns ht114 (by first | omega | (simp only [size_al]; omega))
  have z120 := z107.turns ht114 (by first | omega | (simp only [size_al]; omega))
  clear z103 z104 z105 z107
  have hB121 := hB108.trans (ht114.below (by omega) (by first | omega | (simp only [size_al]; omega)))
  clear hB108 ht114 z106
  clear x109 x110 x111 x112
  have x122 := z117.c0
  have x123 := z117.c1
  have x124 := z119.c0
  have x125 := z119.c1
  go_wp2_with fail
  refine (hhd a5 c5 (w28.heap.size + 1) (w44.heap.size) _ z115).mono ?_
  rintro e w126 ⟨rfl, hb127⟩
  have hs' := hb127.symm
  clear hb127
  subst hs'
  clear x122 x123 x124 x125
  have x128 := z117.c0
  have x129 := z117.c1
  have x130 := z119.c0
  have x131 := z119.c1
  go_wp2_with fail
  refine (toChart_any a b n c m d f g _ hn hm (hf.below (hB121)) (hg.below (hB121))).mono ?_
  rintro e w132 ⟨r1, r2, rfl, hR, hb133⟩
  have hs134 := hb133.size
  have z135 := z117.on hb133
  have z136 := z118.on hb133
  have z137 := z119.on hb133
  have z138 := z120.on hb133
  have z139 := z115.on hb133
  clear z117 z118 z119 z120 z115
  have hB140 := stepA hB121 hb133
  clear hB121 hb133
  try simp only [size_al] at hs134
  try simp only [size_al] at hR
  clear x128 x129 x130 x131
  have x141 := z135.c0
  have x142 := z135.c1
  have x143 := z137.c0
  have x144 := z137.c1
  go_wp2_with fail
  refine (hI r1 r2 n m _ (Nat.le_refl _) hR.il1 hR.il2).mono ?_
  rintro e w145 ⟨⟨a8, c8, rfl, hA8⟩, hb146⟩
  have hs147 := hb146.size
  have z148 := z135.on hb146
  have z149 := z136.on hb146
  have z150 := z137.on hb146
  have z151 := z138.on hb146
  have z152 := z139.on hb146
  have z153 := hR.on hb146
  clear z135 z136 z137 z138 z139 hR
  have hB154 := stepA hB140 hb146
  clear hB140 hb146
  try simp only [size_al] at hs147
  try simp only [size_al] at hA8
  clear x141 x142 x143 x144
  have x155 := z148.c0
  have x156 := z148.c1
  have x157 := z150.c0
  have x158 := z150.c1
  go_wp2_with fail
  refine (eqR_any a8 a3 N c8 c3 K R _ hN hK hA8.rr z149.rr).mono ?_
  rintro e w159 ⟨rfl, hb160⟩
  have hs161 := hb160.size
  have z162 := z148.on hb160
  have z163 := z149.on hb160
  have z164 := z150.on hb160
  have z165 := z151.on hb160
  have z166 := z152.on hb160
  have z167 := z153.on hb160
  have z168 := hA8.on hb160
  clear z148 z149 z150 z151 z152 z153 hA8
  have hB169 := stepA hB154 hb160
  clear hB154 hb160
  try simp only [size_al] at hs161
  clear x155 x156 x157 x158
  have x170 := z162.c0
  have x171 := z162.c1
  have x172 := z164.c0
  have x173 := z164.c1
  go_wp2_with fail
  refine (hhd a5 c5 (w28.heap.size + 1) (w44.heap.size) _ z166).mono ?_
  rintro e w174 ⟨rfl, hb175⟩
  have hs' := hb175.symm
  clear hb175
  subst hs'
  clear x170 x171 x172 x173
  clear z162
  clear z163
  clear z164
  clear z165
  clear z166
  clear z167
  clear z168
  go_wp2
  go_ret
  exact ⟨rfl, hB169⟩
set_option maxHeartbeats 1000000 in
theorem tableLaw_long (a b : Option Addr) (n c m d : Nat) (w : World) (h : 1048576 < n + m) (hn : n ≤ 9223372036854775807) (hm : m ≤ 9223372036854775807) :
    Calls Try.prog 3 #[chv a n c b m d] w fun e w' => e = .returned (.bool true) ∧ Below w.heap.size w w' := by
  have hB0 : Below w.heap.size w (w.alloc (chO a n c b m d 25)) := (Below.refl _ _).alloc (Nat.le_refl _) _
  go_enter Try.func3, Try.ntmps3
  go_wp2_with fail
  refine (szChart_out a b n c m d 1048576 _ (by omega) (by omega) (by omega) hn hm).mono ?_
  rintro e w1 ⟨rfl, hb1⟩
  have hB1 := stepA hB0 hb1
  go_wp2
  go_ret
  exact ⟨rfl, hB1⟩
theorem tableAll (a b : Option Addr) (n c m d : Nat) (f g : Nat → Int) (w : World) (hn : n ≤ 9223372036854775807) (hm : m ≤ 9223372036854775807) (hf : IL w a (n * 2) f) (hg : IL w b (m * 3) g)
    (hI : n ≤ 1048576 → m ≤ 1048576 → ∀ (a b : Option Addr) (c d : Nat) (w : World), n ≤ c → IL w a (n * 2) f → IL w b (m * 3) g → Calls Try.prog 9 #[chv a n c b m d] w fun e w' => AnsT w w' e (flN (gchB n f m g) n) (flK f) (flR n f m g) (gchB n f m g) ∧ Below w.heap.size w w') :
    Calls Try.prog 3 #[chv a n c b m d] w fun e w' => e = .returned (.bool true) ∧ Below w.heap.size w w' := by
  by_cases h : n + m ≤ 1048576
  · exact tableLaw a b n c m d f g w h hf hg (hI (by omega) (by omega))
  · exact tableLaw_long a b n c m d w (by omega) hn hm
end Go.Proofs.YtjefakfongehdabRR
