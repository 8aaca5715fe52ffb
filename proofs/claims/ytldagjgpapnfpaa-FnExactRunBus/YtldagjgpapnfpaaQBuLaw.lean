/- The walk of the law on RunBus (tools/gen_bulaw.py). -/
import Derived.Test.YtldagjgpapnfpaaQBuAl
import Derived.Test.YtldagjgpapnfpaaQBuMi
import Derived.Test.YtldagjgpapnfpaaQBuLs
namespace Go.Proofs.Ytldagjgpapnfpaa
open Go.RowKit
/-- from W0 to w what W0 had stands -/
def StB (W0 w : World) : Prop := Below W0.heap.size W0 w
theorem StB.on {W0 w w' : World} (h : StB W0 w) (k : Below w.heap.size w w') : StB W0 w' := stepA h k
theorem StB.turns {W0 w w' : World} {lo hi : Nat} (h : StB W0 w) (k : Turns lo hi w w') (hl : W0.heap.size ≤ lo) : StB W0 w' := Below.trans h (k.below hl (Below.size h))
set_option maxRecDepth 200000 in
set_option maxHeartbeats 16000000 in
theorem runBusAll (a : Option Addr) (n c : Nat) (t : Tks) (S : Nat → Nat → Nat → Int) (R W : Int) (sa : Option Addr) (sn sc : Nat) (sf : Nat → Int) (w : World) (hn0 : n ≤ 9223372036854775807) (hq0 : ∀ i, i < n → t.qm i ≤ 9223372036854775807) (hN0 : ∀ i, i < n → ∀ j, j < t.qm i → t.N i j ≤ 9223372036854775807)
    (hT : TkH w a n t) (hY : ∀ i, i < n → ∀ j, j < t.qm i → YL w (t.A i j) (t.N i j) (S i j)) (hS : IL w sa sn sf) :
    Calls Try.prog 4 #[.slice a n c, .int .i64 R, .int .i64 W, .slice sa sn sc] w fun e w' => e = .returned (.bool true) ∧ Below w.heap.size w w' := by
  have HT : Hid (TkH w a n t) := hT
  have HY : Hid (∀ i, i < n → ∀ j, j < t.qm i → YL w (t.A i j) (t.N i j) (S i j)) := hY
  have HS : Hid (IL w sa sn sf) := hS
  clear hT hY hS
  by_cases hs : sn ≤ 1048576
  case neg =>
    have hj : (1048576 : Int) < (sn : Int) := by omega
    go_enter Try.func4, Try.ntmps4
    go_wp2
    go_ret
    exact ⟨rfl, Below.refl _ _⟩
  have hjs : ¬ (1048576 : Int) < (sn : Int) := by omega
  have kZ := fun w h => szTalkerS_any a n c t 1048576 w (by omega) (by omega) hn0 hq0 hN0 h
  have kA := fun h => szTk_all (t := t) (n := n) (l := 1048576) (by omega) h
  have kB := fun h => tkK_bd (t := t) (n := n) (l := 1048576) (by omega) h
  generalize szTk t n 1048576 = y at kZ kA kB
  clear hq0 hN0
  go_enter Try.func4, Try.ntmps4
  have hB0 := Below.refl w.heap.size w
  go_wp2_with fail
  refine (kZ _ (HT.out.below hB0)).mono ?_
  rintro e w1 ⟨rfl, hb2⟩
  have hs3 := hb2.size
  have hB4 := stepA hB0 hb2
  clear hB0 hb2
  try simp only [size_al] at hs3
  clear kZ
  by_cases hy : y < 0
  · clear kA kB
    go_wp2
    go_ret
    exact ⟨rfl, hB4⟩
  obtain ⟨hn, hA⟩ := kA (by omega)
  have hkb := kB (by omega)
  clear kA kB
  have hq : ∀ i, i < n → t.qm i ≤ 1048576 := fun i hi => (hA i hi).1
  have hN : ∀ i, i < n → ∀ j, j < t.qm i → t.N i j ≤ 1048576 := fun i hi => (hA i hi).2.1
  have kM := fun (b : Option Addr) (lo hi : Nat) (w : World) h => (markTk b n n 1 lo hi t S w hn hq hN (fun i hi => (hA i hi).2.2 1 (by omega)) h).mono fun e w' ⟨h1, h2, h3⟩ => (⟨h1, h3⟩ : e = Ending.returned (.int .i64 ((tkK t 1 n : Nat) : Int)) ∧ Turns lo hi w w')
  generalize tkK t 1 n = kb at kM hkb
  clear hA
  have kS := fun (b : Option Addr) (c lo hi : Nat) (x : Option Addr) (d : Nat) (w : World) h1 h2 => sRunU b n c lo hi t S R W x sn d sf w hq hN h1 h2
  have kI := fun (b : Option Addr) (c lo hi : Nat) (x : Option Addr) (d : Nat) (w : World) h1 h2 => iRunU b n c lo hi t S R W x sn d sf w hn hq hN h1 h2
  have hL := ru_len t n R W sn sf
  obtain ⟨hM, hsm⟩ := ru_num t n R W sn sf
  generalize (ruL t n R W sn sf).length = L at kS kI hL
  generalize sn1 (ruL t n R W sn sf) = X at kS kI
  generalize sn2 (ruL t n R W sn sf) = Y at kS kI
  generalize sn3 (ruL t n R W sn sf) = Z at kS kI
  generalize sn4 (ruL t n R W sn sf) = G at kS kI
  generalize ruW t S n R W sn sf = V at kS kI
  generalize rbB t n R W sn = B at kS kI
  generalize ruN t n R W sn = M at kS kI hM hsm
  generalize ruT t n R W sn sf = T at kS kI hsm
  have ev : (B != B) = false := by simp
  have hL1 : L ≤ 1048576 := by omega
  have hM1 : M ≤ 1048576 := by omega
  have hTq : ∀ i, i < M → T.qm i ≤ 1048576 := fun i hi => by have := (hsm i hi).1; omega
  have hTN : ∀ i, i < M → ∀ j, j < T.qm i → T.N i j ≤ 1048576 := fun i hi j hj => by have := (hsm i hi).2 j hj; omega
  have hTK := small_all (K := 1 + L * 4) hM hsm (by omega)
  clear hsm
  have kGs := fun (b : Option Addr) (d lo hi : Nat) (w : World) h => markSn b L d 1 lo hi X Y Z G w (by omega) (by omega) h
  have kHs := fun (b : Option Addr) (d lo hi : Nat) (w : World) h => heldSn b L d 1 lo hi X Y Z G w (by omega) (by omega) h
  generalize 1 + L * 4 = km at kGs kHs hTK
  generalize s1K X 1 L = X1 at kGs kHs
  generalize s2K Y 1 L = Y1 at kGs kHs
  generalize s3K Z 1 L = Z1 at kGs kHs
  generalize s4K G 1 L = G1 at kGs kHs
  have kGt := fun (b : Option Addr) (d lo hi : Nat) (w : World) h => markTk b M d km lo hi T V w hM1 hTq hTN hTK h
  have kHt := fun (b : Option Addr) (d lo hi : Nat) (w : World) h => heldTk b M d km lo hi T V w hM1 hTq hTN hTK h
  generalize tkK T km M = kn at kGt kHt
  generalize mrT T km M = T1 at kGt kHt
  generalize mrS T V km M = V1 at kGt kHt
  clear hTK
  have j1 : ¬ (km : Int) < 0 := by omega
  have j2 : ¬ (kn : Int) < 0 := by omega
  have j3 : ((kn : Int) != (kn : Int)) = false := by simp
  have j4 : ¬ (kb : Int) + (sn : Int) < 0 := by omega
  go_wp2_with fail
  refine (toTalkerS_any a n c t S _ hn hq hN (HT.out.below hB4) (fun i hi j hj => (HY.out i hi j hj).below hB4)).mono ?_
  rintro e w5 ⟨rfl, hTp, -, hb6⟩
  have hs7 := hb6.size
  have hB8 := stepA hB4 hb6
  clear hB4 hb6
  try simp only [size_al] at hs7
  try simp only [size_al] at hTp
  go_wp2_with fail
  refine (copyQ sa sn sc sf _ hs (HS.out.below hB8)).mono ?_
  rintro e w9 ⟨rfl, hIv, gv, hb10⟩
  have hs11 := hb10.size
  have z12 := hTp.on hb10
  clear hTp
  have hB13 := stepA hB8 hb10
  clear hB8 hb10
  try simp only [size_al] at hs11
  try simp only [size_al] at hIv
  go_wp2_with fail
  refine (kS (some ⟨w1.heap.size, 0, none⟩) n (w1.heap.size) (w5.heap.size) (some ⟨w5.heap.size, 0, none⟩) sn _ z12 hIv.il).mono ?_
  rintro e w14 ⟨⟨a0, c0, d0, e0, l0, QA, QC, AA, CC, rfl, hW0, hW1⟩, hb15⟩
  have hs16 := hb15.size
  have z17 := z12.on hb15
  have z18 := hIv.on hb15
  clear z12 hIv
  have hB19 := stepA hB13 hb15
  clear hB13 hb15
  try simp only [size_al] at hs16
  clear z17
  clear z18
  clear kS
  have W0 : Hid (SnQ _ _ _ a0 L X Y Z G) := hW0
  have W1 : Hid (TkF _ d0 M (alT T QA QC AA CC) V) := hW1
  clear hW0 hW1
  have hst : StB w14 w14 := Below.refl _ _
  go_wp2_with fail
  refine (toTalkerS_any a n c t S _ hn hq hN (HT.out.below hB19) (fun i hi j hj => (HY.out i hi j hj).below hB19)).mono ?_
  rintro e w20 ⟨rfl, hTx, -, hb21⟩
  have hs22 := hb21.size
  have z23 := hst.on hb21
  clear hst
  have hB24 := stepA hB19 hb21
  clear hB19 hb21
  try simp only [size_al] at hs22
  try simp only [size_al] at hTx
  go_wp2_with fail
  refine (copyQ sa sn sc sf _ hs (HS.out.below hB24)).mono ?_
  rintro e w25 ⟨rfl, hIy, gy, hb26⟩
  have hs27 := hb26.size
  have z28 := z23.on hb26
  have z29 := hTx.on hb26
  clear z23 hTx
  have hB30 := stepA hB24 hb26
  clear hB24 hb26
  try simp only [size_al] at hs27
  try simp only [size_al] at hIy
  go_wp2_with fail
  refine (kI (some ⟨w14.heap.size, 0, none⟩) n (w14.heap.size) (w20.heap.size) (some ⟨w20.heap.size, 0, none⟩) sn _ z29 hIy.il).mono ?_
  rintro e w31 ⟨⟨a1, c1, d1, e1, l1, m1, rfl, p1, q1, r1, hS1, hQ1⟩, hb32⟩
  have hs33 := hb32.size
  have z34 := z28.on hb32
  have z35 := z29.on hb32
  have z36 := hIy.on hb32
  clear z28 z29 hIy
  have hB37 := stepA hB30 hb32
  clear hB30 hb32
  try simp only [size_al] at hs33
  go_wp2_with fail
  refine (eqSentS_any a1 a0 L c1 c0 _ _ _ _ X Y Z G _ hL1 hS1 (W0.out.on z34)).mono ?_
  rintro e w38 ⟨rfl, hb39⟩
  have hs40 := hb39.size
  have z41 := z34.on hb39
  have z42 := z35.on hb39
  have z43 := z36.on hb39
  have z44 := hS1.on hb39
  have z45 := hQ1.on hb39
  clear z34 z35 z36 hS1 hQ1
  have hB46 := stepA hB37 hb39
  clear hB37 hb39
  try simp only [size_al] at hs40
  go_wp2_with fail
  refine (eqTa d1 d0 M e1 e0 _ _ T QA QC AA CC V _ hM1 hTq hTN z45 (W1.out.below z41)).mono ?_
  rintro e w47 ⟨rfl, hb48⟩
  have hs49 := hb48.size
  have z50 := z41.on hb48
  have z51 := z42.on hb48
  have z52 := z43.on hb48
  have z53 := z44.on hb48
  have z54 := z45.on hb48
  clear z41 z42 z43 z44 z45
  have hB55 := stepA hB46 hb48
  clear hB46 hb48
  try simp only [size_al] at hs49
  go_wp2_with fail
  refine (toTalkerS_any a n c t S _ hn hq hN (HT.out.below hB55) (fun i hi j hj => (HY.out i hi j hj).below hB55)).mono ?_
  rintro e w56 ⟨rfl, hTe, -, hb57⟩
  have hs58 := hb57.size
  have z59 := z50.on hb57
  have z60 := z51.on hb57
  have z61 := z52.on hb57
  have z62 := z53.on hb57
  have z63 := z54.on hb57
  clear z50 z51 z52 z53 z54
  have hB64 := stepA hB55 hb57
  clear hB55 hb57
  try simp only [size_al] at hs58
  try simp only [size_al] at hTe
  go_wp2_with fail
  refine (eqTb (some ⟨w14.heap.size, 0, none⟩) (some ⟨w47.heap.size, 0, none⟩) n n n _ _ _ _ t S _ hn hq hN z60 hTe).mono ?_
  rintro e w65 ⟨rfl, hb66⟩
  have hs67 := hb66.size
  have z68 := z59.on hb66
  have z69 := z60.on hb66
  have z70 := z61.on hb66
  have z71 := z62.on hb66
  have z72 := z63.on hb66
  have z73 := hTe.on hb66
  clear z59 z60 z61 z62 z63 hTe
  have hB74 := stepA hB64 hb66
  clear hB64 hb66
  try simp only [size_al] at hs67
  clear z73
  go_wp2_with fail
  refine (copyQ sa sn sc sf _ hs (HS.out.below hB74)).mono ?_
  rintro e w75 ⟨rfl, hIf, gf, hb76⟩
  have hs77 := hb76.size
  have z78 := z68.on hb76
  have z79 := z69.on hb76
  have z80 := z70.on hb76
  have z81 := z71.on hb76
  have z82 := z72.on hb76
  clear z68 z69 z70 z71 z72
  have hB83 := stepA hB74 hb76
  clear hB74 hb76
  try simp only [size_al] at hs77
  try simp only [size_al] at hIf
  go_wp2_with fail
  refine (eqI_any (some ⟨w20.heap.size, 0, none⟩) (some ⟨w65.heap.size, 0, none⟩) sn sn sn sf _ hs z80.il hIf.il).mono ?_
  rintro e w84 ⟨rfl, hb85⟩
  have hs86 := hb85.size
  have z87 := z78.on hb85
  have z88 := z79.on hb85
  have z89 := z80.on hb85
  have z90 := z81.on hb85
  have z91 := z82.on hb85
  have z92 := hIf.on hb85
  clear z78 z79 z80 z81 z82 hIf
  have hB93 := stepA hB83 hb85
  clear hB83 hb85
  try simp only [size_al] at hs86
  clear z92
  go_wp2_with fail
  refine (kM (some ⟨w14.heap.size, 0, none⟩) (w14.heap.size) (w20.heap.size) _ z88).mono ?_
  rintro e w94 ⟨rfl, ht95⟩
  have hs96 := ht95.size
  try simp only [size_al] at hs96
  have z97 := z87.turns ht95 (by first | omega | (simp only [size_al]; omega))
  have z98 := z89.turns ht95 (by first | omega | (simp only [size_al]; omega))
  have z99 := z90.turns ht95 (by first | omega | (simp only [size_al]; omega))
  have z100 := z91.turns ht95 (by first | omega | (simp only [size_al]; omega))
  clear z87 z89 z90 z91
  have hB101 := hB93.trans (ht95.below (by omega) (by first | omega | (simp only [size_al]; omega)))
  clear hB93 ht95 z88
  go_wp2_with fail
  refine (markIb (some ⟨w20.heap.size, 0, none⟩) sn sn kb (w20.heap.size) (w20.heap.size + 1) sf _ hs hkb z98).mono ?_
  rintro e w102 ⟨rfl, ht103⟩
  have hs104 := ht103.size
  try simp only [size_al] at hs104
  have z105 := z97.turns ht103 (by first | omega | (simp only [size_al]; omega))
  have z106 := z99.turns ht103 (by first | omega | (simp only [size_al]; omega))
  have z107 := z100.turns ht103 (by first | omega | (simp only [size_al]; omega))
  clear z97 z99 z100
  have hB108 := hB101.trans (ht103.below (by omega) (by first | omega | (simp only [size_al]; omega)))
  clear hB101 ht103 z98
  go_wp2_with fail
  refine (eqSentS_any a1 a0 L c1 c0 _ _ _ _ X Y Z G _ hL1 z106 (W0.out.on z105)).mono ?_
  rintro e w109 ⟨rfl, hb110⟩
  have hs111 := hb110.size
  have z112 := z105.on hb110
  have z113 := z106.on hb110
  have z114 := z107.on hb110
  clear z105 z106 z107
  have hB115 := stepA hB108 hb110
  clear hB108 hb110
  try simp only [size_al] at hs111
  go_wp2_with fail
  refine (eqTa d1 d0 M e1 e0 _ _ T QA QC AA CC V _ hM1 hTq hTN z114 (W1.out.below z112)).mono ?_
  rintro e w116 ⟨rfl, hb117⟩
  have hs118 := hb117.size
  have z119 := z112.on hb117
  have z120 := z113.on hb117
  have z121 := z114.on hb117
  clear z112 z113 z114
  have hB122 := stepA hB115 hb117
  clear hB115 hb117
  try simp only [size_al] at hs118
  go_wp2_with fail
  refine (kGs a1 c1 (l1) (m1) _ z120).mono ?_
  rintro e w123 ⟨rfl, z125, ht124⟩
  have hs126 := ht124.size
  try simp only [size_al] at hs126
  have z127 := z119.turns ht124 (by first | omega | (simp only [size_al]; omega))
  have z128 := z121.turns ht124 (by first | omega | (simp only [size_al]; omega))
  clear z119 z121
  have hB129 := hB122.trans (ht124.below (by omega) (by first | omega | (simp only [size_al]; omega)))
  clear hB122 ht124 z120
  go_wp2_with fail
  refine (kGt d1 e1 (m1) (w31.heap.size) _ z128).mono ?_
  rintro e w130 ⟨rfl, z132, ht131⟩
  have hs133 := ht131.size
  try simp only [size_al] at hs133
  have z134 := z127.turns ht131 (by first | omega | (simp only [size_al]; omega))
  have z135 := z125.turns ht131 (by first | omega | (simp only [size_al]; omega))
  clear z127 z125
  have hB136 := hB129.trans (ht131.below (by omega) (by first | omega | (simp only [size_al]; omega)))
  clear hB129 ht131 z128
  go_wp2_with fail
  refine (kHs a1 c1 (l1) (m1) _ z135).mono ?_
  rintro e w137 ⟨rfl, hb138⟩
  have hs' := hb138.symm
  clear hb138
  subst hs'
  go_wp2_with fail
  refine (kHt d1 e1 (m1) (w31.heap.size) _ z132).mono ?_
  rintro e w139 ⟨rfl, hb140⟩
  have hs' := hb140.symm
  clear hb140
  subst hs'
  go_wp2_with fail
  refine (toTalkerS_any a n c t S _ hn hq hN (HT.out.below hB136) (fun i hi j hj => (HY.out i hi j hj).below hB136)).mono ?_
  rintro e w141 ⟨rfl, hTr, -, hb142⟩
  have hs143 := hb142.size
  have z144 := z134.on hb142
  have z145 := z135.on hb142
  have z146 := z132.on hb142
  clear z134 z135 z132
  have hB147 := stepA hB136 hb142
  clear hB136 hb142
  try simp only [size_al] at hs143
  try simp only [size_al] at hTr
  go_wp2_with fail
  refine (copyQ sa sn sc sf _ hs (HS.out.below hB147)).mono ?_
  rintro e w148 ⟨rfl, hIu, gu, hb149⟩
  have hs150 := hb149.size
  have z151 := z144.on hb149
  have z152 := z145.on hb149
  have z153 := z146.on hb149
  have z154 := hTr.on hb149
  clear z144 z145 z146 hTr
  have hB155 := stepA hB147 hb149
  clear hB147 hb149
  try simp only [size_al] at hs150
  try simp only [size_al] at hIu
  go_wp2_with fail
  refine (kI (some ⟨w130.heap.size, 0, none⟩) n (w130.heap.size) (w141.heap.size) (some ⟨w141.heap.size, 0, none⟩) sn _ z154 hIu.il).mono ?_
  rintro e w156 ⟨⟨a2, c2, d2, e2, l2, m2, rfl, p2, q2, r2, hS2, hQ2⟩, hb157⟩
  have hs158 := hb157.size
  have z159 := z151.on hb157
  have z160 := z152.on hb157
  have z161 := z153.on hb157
  have z162 := z154.on hb157
  have z163 := hIu.on hb157
  clear z151 z152 z153 z154 hIu
  have hB164 := stepA hB155 hb157
  clear hB155 hb157
  try simp only [size_al] at hs158
  clear z162
  clear z163
  go_wp2_with fail
  refine (eqSentS_any a2 a0 L c2 c0 _ _ _ _ X Y Z G _ hL1 hS2 (W0.out.on z159)).mono ?_
  rintro e w165 ⟨rfl, hb166⟩
  have hs167 := hb166.size
  have z168 := z159.on hb166
  have z169 := z160.on hb166
  have z170 := z161.on hb166
  have z171 := hS2.on hb166
  have z172 := hQ2.on hb166
  clear z159 z160 z161 hS2 hQ2
  have hB173 := stepA hB164 hb166
  clear hB164 hb166
  try simp only [size_al] at hs167
  go_wp2_with fail
  refine (eqTa d2 d0 M e2 e0 _ _ T QA QC AA CC V _ hM1 hTq hTN z172 (W1.out.below z168)).mono ?_
  rintro e w174 ⟨rfl, hb175⟩
  have hs176 := hb175.size
  have z177 := z168.on hb175
  have z178 := z169.on hb175
  have z179 := z170.on hb175
  have z180 := z171.on hb175
  have z181 := z172.on hb175
  clear z168 z169 z170 z171 z172
  have hB182 := stepA hB173 hb175
  clear hB173 hb175
  try simp only [size_al] at hs176
  clear z180
  clear z181
  go_wp2_with fail
  refine (kHs a1 c1 (l1) (m1) _ z178).mono ?_
  rintro e w183 ⟨rfl, hb184⟩
  have hs' := hb184.symm
  clear hb184
  subst hs'
  go_wp2_with fail
  refine (kHt d1 e1 (m1) (w31.heap.size) _ z179).mono ?_
  rintro e w185 ⟨rfl, hb186⟩
  have hs' := hb186.symm
  clear hb186
  subst hs'
  clear z177
  clear z178
  clear z179
  go_wp2
  go_ret
  exact ⟨rfl, hB182⟩
end Go.Proofs.Ytldagjgpapnfpaa
