/- The walk of the law on HandOver (tools/gen_aslaw.py). -/
import Derived.Test.YtjmdghkhapajiabHoI
import Derived.Test.YtjmdghkhapajiabHoS
import Derived.Test.YtjmdghkhapajiabChRk
namespace Go.Proofs.Ytjmdghkhapajiab
open Go.RowKit
set_option maxRecDepth 20000 in
set_option maxHeartbeats 8000000 in
theorem handOverLaw (a x : Option Addr) (n c q r : Nat) (K : Nat → Nat) (F : Nat → Nat → Int) (g : Nat → Int) (dg : Int) (w : World) (Q : Bool) (N : Nat) (KG : Nat → Nat) (G : Nat → Nat → Int) (hN : N ≤ 1000) (hKG : ∀ i, i < N → KG i ≤ 1048576) (hsG : sumK KG N ≤ 1048576) (h0 : n + sumK K n ≤ 1048576) (hq : q ≤ 1048576) (hA : RR w a n K F) (hh : IL w x q g)
    (hS : ∀ (a x : Option Addr) (c r : Nat) (w : World), RR w a n K F → IL w x q g → Calls Try.prog 5 #[.slice a n c, .slice x q r, .int .i64 dg] w fun e w' => AnsRb w w' e N KG G Q ∧ Below w.heap.size w w')
    (hI : ∀ (a x : Option Addr) (c r : Nat) (w : World), RR w a n K F → IL w x q g → Calls Try.prog 8 #[.slice a n c, .slice x q r, .int .i64 dg] w fun e w' => AnsRb w w' e N KG G Q ∧ Below w.heap.size w w') :
    Calls Try.prog 3 #[.slice a n c, .slice x q r, .int .i64 dg] w fun e w' => e = .returned (.bool true) ∧ Below w.heap.size w w' := by
  have hn : n ≤ 1048576 := by omega
  have hsm : sumK K n ≤ 1048576 := by omega
  have hK : ∀ i, i < n → K i ≤ 1048576 := fun i hi => by have := sumK_le K n i hi; omega
  have j1 : ¬ (1048576 : Int) - (n : Int) - ((sumK K n : Nat) : Int) < 0 := by omega
  have hszK := szK_in a n c K F 1048576 w (by omega) (by omega) hA
  obtain ⟨M2, hM2⟩ : ∃ M2 : Int, M2 = (1048576 : Int) - (n : Int) - ((sumK K n : Nat) : Int) := ⟨_, rfl⟩
  rw [← hM2] at j1 hszK
  clear hM2
  have j2 : (Q != Q) = false := by simp
  have jq : ¬ (1048576 : Int) < (q : Int) := by omega
  have hmk := fun a lo hi w (h : RK w lo hi a n K F) => markK a n n 1 lo hi K F w hn (by omega) hsm h
  obtain ⟨M, hM⟩ : ∃ M : Int, M = ((1 + sumK K n : Nat) : Int) := ⟨_, rfl⟩
  have hmz := fun a lo hi w (h9 : LQ w lo hi a q g) => markZ a q q ((1 + sumK K n : Nat) : Int) lo hi g w hq (by omega) (by omega) h9
  have jk : ¬ M + (q : Int) < 0 := by omega
  rw [← hM] at hmk hmz
  clear hM
  have hmG := fun a cap lo hi w (h : RK w lo hi a N KG G) => markK a N cap 1 lo hi KG G w (by omega) (by omega) (by omega) h
  have hhG := fun a cap lo hi w (h : RK w lo hi a N KG (mkK 1 KG)) => heldK a N cap 1 lo hi KG w (by omega) (by omega) (by omega) h
  obtain ⟨M3, hM3⟩ : ∃ M : Int, M = ((1 + sumK KG N : Nat) : Int) := ⟨_, rfl⟩
  rw [← hM3] at hmG hhG
  have jg : ¬ M3 < 0 := by omega
  have jh : (M3 != M3) = false := by simp
  clear hM3
  go_enter Try.func3, Try.ntmps3
  have hB0 := Below.refl w.heap.size w
  go_wp2_with fail
  refine (hszK).mono ?_
  rintro e w1 ⟨rfl, hb2⟩
  have hs' := hb2.symm
  clear hb2
  subst hs'
  clear hszK
  go_wp2_with fail
  refine (copyK a n c K F _ hn hK (hA.below hB0)).mono ?_
  rintro e w3 ⟨rfl, hP0, hb4⟩
  have hs5 := hb4.size
  have hB6 := stepA hB0 hb4
  clear hB0 hb4
  try simp only [size_al] at hs5
  try simp only [size_al] at hP0
  go_wp2_with fail
  refine (copyQ x q r g _ hq (hh.below hB6)).mono ?_
  rintro e w7 ⟨rfl, hE0, hE0s, hb8⟩
  have hs9 := hb8.size
  have z10 := hP0.on hb8
  clear hP0
  have hB11 := stepA hB6 hb8
  clear hB6 hb8
  try simp only [size_al] at hs9
  try simp only [size_al] at hE0 hE0s
  go_wp2_with fail
  refine (hS _ _ _ _ _ z10.rr hE0.il).mono ?_
  rintro e w12 ⟨⟨a1, c1, rfl, hA1⟩, hb13⟩
  have hs14 := hb13.size
  have z15 := z10.on hb13
  have z16 := hE0.on hb13
  clear z10 hE0
  have hB17 := stepA hB11 hb13
  clear hB11 hb13
  try simp only [size_al] at hs14
  try simp only [size_al] at hA1
  clear z15
  clear z16
  go_wp2_with fail
  refine (copyK a n c K F _ hn hK (hA.below hB17)).mono ?_
  rintro e w18 ⟨rfl, hP1, hb19⟩
  have hs20 := hb19.size
  have z21 := hA1.on hb19
  clear hA1
  have hB22 := stepA hB17 hb19
  clear hB17 hb19
  try simp only [size_al] at hs20
  try simp only [size_al] at hP1
  go_wp2_with fail
  refine (copyQ x q r g _ hq (hh.below hB22)).mono ?_
  rintro e w23 ⟨rfl, hE1, hE1s, hb24⟩
  have hs25 := hb24.size
  have z26 := z21.on hb24
  have z27 := hP1.on hb24
  clear z21 hP1
  have hB28 := stepA hB22 hb24
  clear hB22 hb24
  try simp only [size_al] at hs25
  try simp only [size_al] at hE1 hE1s
  go_wp2_with fail
  refine (hI _ _ _ _ _ z27.rr hE1.il).mono ?_
  rintro e w29 ⟨⟨a2, c2, rfl, hA2⟩, hb30⟩
  have hs31 := hb30.size
  have z32 := z26.on hb30
  have z33 := z27.on hb30
  have z34 := hE1.on hb30
  clear z26 z27 hE1
  have hB35 := stepA hB28 hb30
  clear hB28 hb30
  try simp only [size_al] at hs31
  try simp only [size_al] at hA2
  go_wp2_with fail
  refine (eqR_any a2 a1 N c2 c1 KG G _ (by omega) hKG hA2.rr z32.rr).mono ?_
  rintro e w36 ⟨rfl, hb37⟩
  have hs38 := hb37.size
  have z39 := z32.on hb37
  have z40 := z33.on hb37
  have z41 := z34.on hb37
  have z42 := hA2.on hb37
  clear z32 z33 z34 hA2
  have hB43 := stepA hB35 hb37
  clear hB35 hb37
  try simp only [size_al] at hs38
  go_wp2_with fail
  refine (copyK a n c K F _ hn hK (hA.below hB43)).mono ?_
  rintro e w44 ⟨rfl, hY, hb45⟩
  have hs46 := hb45.size
  have z47 := z39.on hb45
  have z48 := z40.on hb45
  have z49 := z41.on hb45
  have z50 := z42.on hb45
  clear z39 z40 z41 z42
  have hB51 := stepA hB43 hb45
  clear hB43 hb45
  try simp only [size_al] at hs46
  try simp only [size_al] at hY
  go_wp2_with fail
  refine (eqR_any (some ⟨w12.heap.size, 0, none⟩) (some ⟨w36.heap.size, 0, none⟩) n n n K F _ hn hK z48.rr hY.rr).mono ?_
  rintro e w52 ⟨rfl, hb53⟩
  have hs54 := hb53.size
  have z55 := z47.on hb53
  have z56 := z48.on hb53
  have z57 := z49.on hb53
  have z58 := z50.on hb53
  have z59 := hY.on hb53
  clear z47 z48 z49 z50 hY
  have hB60 := stepA hB51 hb53
  clear hB51 hb53
  try simp only [size_al] at hs54
  clear z59
  go_wp2_with fail
  refine (copyQ x q r g _ hq (hh.below hB60)).mono ?_
  rintro e w61 ⟨rfl, hZ, hZs, hb62⟩
  have hs63 := hb62.size
  have z64 := z55.on hb62
  have z65 := z56.on hb62
  have z66 := z57.on hb62
  have z67 := z58.on hb62
  clear z55 z56 z57 z58
  have hB68 := stepA hB60 hb62
  clear hB60 hb62
  try simp only [size_al] at hs63
  try simp only [size_al] at hZ hZs
  go_wp2_with fail
  refine (eqI_any (some ⟨w18.heap.size, 0, none⟩) (some ⟨w52.heap.size, 0, none⟩) q q q g _ hq z66.il hZ.il).mono ?_
  rintro e w69 ⟨rfl, hb70⟩
  have hs71 := hb70.size
  have z72 := z64.on hb70
  have z73 := z65.on hb70
  have z74 := z66.on hb70
  have z75 := z67.on hb70
  have z76 := hZ.on hb70
  clear z64 z65 z66 z67 hZ
  have hB77 := stepA hB68 hb70
  clear hB68 hb70
  try simp only [size_al] at hs71
  clear z76
  go_wp2_with fail
  refine (hmk (some ⟨w12.heap.size, 0, none⟩) (w12.heap.size) (w18.heap.size) _ z73).mono ?_
  rintro e w78 ⟨rfl, z80, ht79⟩
  have hs81 := ht79.size
  try simp only [size_al] at hs81
  have z82 := z72.turns ht79 (by first | omega | (simp only [size_al]; omega))
  have z83 := z74.turns ht79 (by first | omega | (simp only [size_al]; omega))
  have z84 := z75.turns ht79 (by first | omega | (simp only [size_al]; omega))
  clear z72 z74 z75
  have hB85 := hB77.trans (ht79.below (by omega) (by first | omega | (simp only [size_al]; omega)))
  clear hB77 ht79 z73
  go_wp2_with fail
  refine (hmz (some ⟨w18.heap.size, 0, none⟩) (w18.heap.size) (w18.heap.size + 1) _ z83).mono ?_
  rintro e w86 ⟨rfl, z88, ht87⟩
  have hs89 := ht87.size
  try simp only [size_al] at hs89
  have z90 := z82.turns ht87 (by first | omega | (simp only [size_al]; omega))
  have z91 := z84.turns ht87 (by first | omega | (simp only [size_al]; omega))
  have z92 := z80.turns ht87 (by first | omega | (simp only [size_al]; omega))
  clear z82 z84 z80
  have hB93 := hB85.trans (ht87.below (by omega) (by first | omega | (simp only [size_al]; omega)))
  clear hB85 ht87 z83
  go_wp2_with fail
  refine (eqR_any a2 a1 N c2 c1 KG G _ (by omega) hKG z91.rr z90.rr).mono ?_
  rintro e w94 ⟨rfl, hb95⟩
  have hs96 := hb95.size
  have z97 := z90.on hb95
  have z98 := z91.on hb95
  have z99 := z92.on hb95
  have z100 := z88.on hb95
  clear z90 z91 z92 z88
  have hB101 := stepA hB93 hb95
  clear hB93 hb95
  try simp only [size_al] at hs96
  go_wp2_with fail
  refine (hmG a2 c2 (w23.heap.size) (w29.heap.size) _ z98).mono ?_
  rintro e w102 ⟨rfl, z104, ht103⟩
  have hs105 := ht103.size
  try simp only [size_al] at hs105
  have z106 := z97.turns ht103 (by first | omega | (simp only [size_al]; omega))
  have z107 := z99.turns ht103 (by first | omega | (simp only [size_al]; omega))
  have z108 := z100.turns ht103 (by first | omega | (simp only [size_al]; omega))
  clear z97 z99 z100
  have hB109 := hB101.trans (ht103.below (by omega) (by first | omega | (simp only [size_al]; omega)))
  clear hB101 ht103 z98
  go_wp2_with fail
  refine (hhG a2 c2 (w23.heap.size) (w29.heap.size) _ z104).mono ?_
  rintro e w110 ⟨rfl, hb111⟩
  have hs' := hb111.symm
  clear hb111
  subst hs'
  go_wp2_with fail
  refine (copyK a n c K F _ hn hK (hA.below hB109)).mono ?_
  rintro e w112 ⟨rfl, hP2, hb113⟩
  have hs114 := hb113.size
  have z115 := z106.on hb113
  have z116 := z107.on hb113
  have z117 := z108.on hb113
  have z118 := z104.on hb113
  clear z106 z107 z108 z104
  have hB119 := stepA hB109 hb113
  clear hB109 hb113
  try simp only [size_al] at hs114
  try simp only [size_al] at hP2
  go_wp2_with fail
  refine (copyQ x q r g _ hq (hh.below hB119)).mono ?_
  rintro e w120 ⟨rfl, hE2, hE2s, hb121⟩
  have hs122 := hb121.size
  have z123 := z115.on hb121
  have z124 := z116.on hb121
  have z125 := z117.on hb121
  have z126 := z118.on hb121
  have z127 := hP2.on hb121
  clear z115 z116 z117 z118 hP2
  have hB128 := stepA hB119 hb121
  clear hB119 hb121
  try simp only [size_al] at hs122
  try simp only [size_al] at hE2 hE2s
  go_wp2_with fail
  refine (hI _ _ _ _ _ z127.rr hE2.il).mono ?_
  rintro e w129 ⟨⟨a3, c3, rfl, hA3⟩, hb130⟩
  have hs131 := hb130.size
  have z132 := z123.on hb130
  have z133 := z124.on hb130
  have z134 := z125.on hb130
  have z135 := z126.on hb130
  have z136 := z127.on hb130
  have z137 := hE2.on hb130
  clear z123 z124 z125 z126 z127 hE2
  have hB138 := stepA hB128 hb130
  clear hB128 hb130
  try simp only [size_al] at hs131
  try simp only [size_al] at hA3
  go_wp2_with fail
  refine (eqR_any a3 a1 N c3 c1 KG G _ (by omega) hKG hA3.rr z132.rr).mono ?_
  rintro e w139 ⟨rfl, hb140⟩
  have hs141 := hb140.size
  have z142 := z132.on hb140
  have z143 := z133.on hb140
  have z144 := z134.on hb140
  have z145 := z135.on hb140
  have z146 := z136.on hb140
  have z147 := z137.on hb140
  have z148 := hA3.on hb140
  clear z132 z133 z134 z135 z136 z137 hA3
  have hB149 := stepA hB138 hb140
  clear hB138 hb140
  try simp only [size_al] at hs141
  go_wp2_with fail
  refine (hhG a2 c2 (w23.heap.size) (w29.heap.size) _ z145).mono ?_
  rintro e w150 ⟨rfl, hb151⟩
  have hs' := hb151.symm
  clear hb151
  subst hs'
  clear z142
  clear z143
  clear z144
  clear z145
  clear z146
  clear z147
  clear z148
  go_wp2
  go_ret
  exact ⟨rfl, hB149⟩
set_option maxHeartbeats 1000000 in
theorem handOverLong (a x : Option Addr) (n c q r : Nat) (dg : Int) (w : World) (h : 1048576 < q) :
    Calls Try.prog 3 #[.slice a n c, .slice x q r, .int .i64 dg] w fun e w' => e = .returned (.bool true) ∧ Below w.heap.size w w' := by
  have jq : (1048576 : Int) < (q : Int) := by omega
  go_enter Try.func3, Try.ntmps3
  go_wp2
  go_ret
  exact ⟨rfl, Below.refl _ _⟩
set_option maxHeartbeats 1000000 in
theorem handOverLong2 (a x : Option Addr) (n c q r : Nat) (K : Nat → Nat) (F : Nat → Nat → Int) (dg : Int) (w : World) (hq : q ≤ 1048576) (h1 : 1048576 < n + sumK K n) (hn : n ≤ 9223372036854775807) (hK : ∀ i, i < n → K i ≤ 9223372036854775807) (hA : RR w a n K F) :
    Calls Try.prog 3 #[.slice a n c, .slice x q r, .int .i64 dg] w fun e w' => e = .returned (.bool true) ∧ Below w.heap.size w w' := by
  have jq : ¬ (1048576 : Int) < (q : Int) := by omega
  have hszK := szK_out a n c K F 1048576 w (by omega) (by omega) (by omega) hn hK hA
  go_enter Try.func3, Try.ntmps3
  go_wp2_with fail
  refine hszK.mono ?_
  rintro e w1 ⟨rfl, hw1⟩
  have hs1 := hw1.symm
  clear hw1
  subst hs1
  go_wp2
  go_ret
  exact ⟨rfl, Below.refl _ _⟩
theorem handOverAll (a x : Option Addr) (n c q r : Nat) (K : Nat → Nat) (F : Nat → Nat → Int) (g : Nat → Int) (dg : Int) (w : World) (hn : n ≤ 9223372036854775807) (hK : ∀ i, i < n → K i ≤ 9223372036854775807) (hA : RR w a n K F) (hh : IL w x q g) :
    Calls Try.prog 3 #[.slice a n c, .slice x q r, .int .i64 dg] w fun e w' => e = .returned (.bool true) ∧ Below w.heap.size w w' := by
  by_cases hq : q ≤ 1048576
  rotate_left
  · exact handOverLong a x n c q r dg w (by omega)
  by_cases h0 : n + sumK K n ≤ 1048576
  rotate_left
  · exact handOverLong2 a x n c q r K F dg w hq (by omega) hn hK hA
  have hn1 : n ≤ 1048576 := by omega
  have hK1 : ∀ i, i < n → K i ≤ 1048576 := fun i hi => by have := sumK_le K n i hi; omega
  cases e : hoB n q K F g dg with
  | false => exact handOverLaw a x n c q r K F g dg w false 0 (fun _ => 0) (fun _ _ => 0) (by omega) (fun i hi => by omega) (by simp [sumK]) h0 hq hA hh (fun a x c r w h h2 => sHand_no a x n c q r K F g dg w hn1 hK1 hq h h2 e) (fun a x c r w h h2 => iHand_no a x n c q r K F g dg w hn1 hK1 hq h h2 e)
  | true =>
    have e' := e
    unfold hoB at e'
    simp only [Bool.and_eq_true, decide_eq_true_eq] at e'
    obtain ⟨⟨⟨eg, e0⟩, e1⟩, e2⟩ := e'
    have hqn := (gaB_t eg).len
    subst hqn
    obtain ⟨G0, rfl⟩ := Int.eq_ofNat_of_zero_le e0
    have hG : G0 < q := by omega
    have h6 := (gaB_t eg).gp.hi
    exact handOverLaw a x q c q r K F g (G0 : Int) w true q _ _ (by omega) (fun i _ => Nat.le_trans (hoK_le G0 (hoH q F (g G0).toNat G0) i) (by omega)) (by have := hoK_sum G0 (hoH q F (g G0).toNat G0) q; omega) h0 hq hA hh (fun a x c r w h h2 => sHand_in a x q c r K F g G0 w hn1 hK1 h h2 eg hG e2) (fun a x c r w h h2 => iHand_in a x q c r K F g G0 w hn1 hK1 h h2 eg hG e2)
end Go.Proofs.Ytjmdghkhapajiab
