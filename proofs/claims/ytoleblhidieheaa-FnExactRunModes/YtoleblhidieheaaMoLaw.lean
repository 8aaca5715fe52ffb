/- The law on RunModes, walked. -/
import Derived.Test.YtoleblhidieheaaMoW
import Derived.Test.YtoleblhidieheaaMoX
namespace Go.Proofs.Ytoleblhidieheaa
open Go.RowKit
theorem ows_vq {w : World} {base : Nat} {a : Option Addr} {c : Nat} {l : List ByteArray} (h : OwS w base (.slice a l.length c) l) : VQ w base w.heap.size a l.length (fun i => .string (lg l i)) := fun h0 => by
  have h' := h
  obtain ⟨_, ⟨_, h2⟩ | ⟨g, cap, cur, hv, hb, hg, _⟩⟩ := h
  · exact absurd h2 (by omega)
  · cases hv
    have hlt := (Array.getElem?_eq_some_iff.1 hg).1
    refine ⟨g, rfl, hb, hlt, hlt, fun i hi => ?_, fun i => World.ownsRow.frozenAt h' i⟩
    rw [World.ownsRow.cellAt h' i (by omega)]
    simp [lg, hi]
/-- what both sides tell -/
def AnsO (w w' : World) (e : Ending) (M : Int) (L : Nat) (S : Nat → ByteArray) (Q : Bool) : Prop :=
  ∃ a c, e = .returned (.tuple #[.int .i64 M, .slice a L c, .bool Q]) ∧ VQ w' w.heap.size w'.heap.size a L (fun i => .string (S i))
theorem AnsMo.o {w w' : World} {e : Ending} {n nn : Nat} {N E : Nat → ByteArray} (h : AnsMo w w' e n nn N E) : AnsO w w' e (if moOk n nn = true then runM N nn E n else 0) (if moOk n nn = true then (runF E n).length else 0) (lg (runF E n)) (moOk n nn) := by
  obtain ⟨a, c, he, ho⟩ := h
  refine ⟨a, c, he, ?_⟩
  by_cases q : moOk n nn = true
  · rw [if_pos q]; exact ows_vq (ho q)
  · rw [if_neg q]; exact vq_none _ _ _ _ _
theorem mo_both (n nn : Nat) (N E : Nat → ByteArray) (hn : n ≤ 1048576) (hnn : nn ≤ 1048576) (hsz : ∀ i, i < n * 2 → (E i).size ≤ 1048576) : ∃ (M : Int) (L : Nat) (S : Nat → ByteArray) (Q : Bool), L ≤ 60 ∧
    (∀ (a b : Option Addr) (c d : Nat) (w : World), SL w a (n * 2) E → SL w b nn N → Calls Try.prog 7 #[.slice a n c, .slice b nn d] w fun e w' => AnsO w w' e M L S Q ∧ Below w.heap.size w w') ∧
    ∀ (a b : Option Addr) (c d : Nat) (w : World), SL w a (n * 2) E → SL w b nn N → Calls Try.prog 6 #[.slice a n c, .slice b nn d] w fun e w' => AnsO w w' e M L S Q ∧ Below w.heap.size w w' := by
  refine ⟨if moOk n nn = true then runM N nn E n else 0, if moOk n nn = true then (runF E n).length else 0, lg (runF E n), moOk n nn, ?_, fun a b c d w h1 h2 => ?_, fun a b c d w h1 h2 => ?_⟩
  · split
    · next h =>
      have := of_decide_eq_true h
      have := runF_len E n
      omega
    · omega
  · exact (sModes a b n c nn d E N w hn hnn h1 h2).mono fun e w' ⟨p, q⟩ => ⟨p.o, q⟩
  · exact (iModes a b n c nn d E N w hn hnn hsz h1 h2).mono fun e w' ⟨p, q⟩ => ⟨p.o, q⟩
set_option maxRecDepth 20000 in
set_option maxHeartbeats 4000000 in
theorem modesIn (a b : Option Addr) (n c nn d : Nat) (E N : Nat → ByteArray) (w : World) (hE : SL w a (n * 2) E) (hN : SL w b nn N) (hEs : ∀ i, i < n * 2 → (E i).size ≤ 9223372036854775807) (hNs : ∀ i, i < nn → (N i).size ≤ 9223372036854775807) (hnm : n ≤ 9223372036854775807) (hnnm : nn ≤ 9223372036854775807)
    (q1 : ¬ lefE E n 1048576 < 0) (q2 : ¬ lefB N nn (lefE E n 1048576) < 0) :
    Calls Try.prog 4 #[.slice a n c, .slice b nn d] w fun e w' => e = .returned (.bool true) ∧ Below w.heap.size w w' := by
  obtain ⟨hn, hsz0, hle⟩ := lefE_in q1
  have hn' : n ≤ 1048576 := by omega
  have hsz : ∀ i, i < n * 2 → (E i).size ≤ 1048576 := fun i hi => by have := hsz0 i hi; omega
  obtain ⟨hnn0, _⟩ := lefB_in' q2
  have hnn : nn ≤ 1048576 := by omega
  obtain ⟨M, L, S, Q, hL, hS, hI⟩ := mo_both n nn N E hn' hnn hsz
  have kZ := fun w2 (h : SL w2 a (n * 2) E) => szEvS a n c E 1048576 w2 (by omega) (by omega) hnm hEs h
  have kY := fun w2 (h : SL w2 b nn N) => szSt b nn d N (lefE E n 1048576) w2 (by omega) hle hnnm hNs h
  generalize hV2 : lefB N nn (lefE E n 1048576) = V2 at *
  clear hV2
  generalize hV1 : lefE E n 1048576 = V1 at *
  clear hV1 hsz0 hnn0 hEs hNs
  go_enter Try.func4, Try.ntmps4
  have hB0 := Below.refl w.heap.size w
  go_wp2_with fail
  refine (kZ _ (hE.below hB0)).mono ?_
  rintro e w1 ⟨rfl, hb2⟩
  have hs3 := hb2.size
  have hB4 := stepA hB0 hb2
  clear hB0 hb2
  try simp only [size_al] at hs3
  clear kZ
  go_wp2_with fail
  refine (kY _ (hN.below hB4)).mono ?_
  rintro e w5 ⟨rfl, hb6⟩
  have hs' := hb6.symm
  clear hb6
  subst hs'
  clear kY
  go_wp2_with fail
  refine (toEvS a n c E _ hn' (hE.below hB4)).mono ?_
  rintro e w7 ⟨rfl, hp0, lp0, hb8⟩
  have hs9 := hb8.size
  have hB10 := stepA hB4 hb8
  clear hB4 hb8
  try simp only [size_al] at hs9
  go_wp2_with fail
  refine (copySt b nn d N _ hnn (hN.below hB10)).mono ?_
  rintro e w11 ⟨rfl, hp1, lp1, hb12⟩
  have hs13 := hb12.size
  have z14 := hp0.on hb12
  clear hp0
  have hB15 := stepA hB10 hb12
  clear hB10 hb12
  try simp only [size_al] at hs13
  go_wp2_with fail
  refine (hS _ _ _ _ _ z14.sl hp1.sl).mono ?_
  rintro e w16 ⟨⟨asp, csp, rfl, hsp⟩, hb17⟩
  have hs18 := hb17.size
  have z19 := z14.on hb17
  have z20 := hp1.on hb17
  clear z14 hp1
  have hB21 := stepA hB15 hb17
  clear hB15 hb17
  try simp only [size_al] at hs18
  clear z19
  clear z20
  go_wp2_with fail
  refine (toEvS a n c E _ hn' (hE.below hB21)).mono ?_
  rintro e w22 ⟨rfl, hx0, lx0, hb23⟩
  have hs24 := hb23.size
  have z25 := hsp.on hb23
  clear hsp
  have hB26 := stepA hB21 hb23
  clear hB21 hb23
  try simp only [size_al] at hs24
  go_wp2_with fail
  refine (copySt b nn d N _ hnn (hN.below hB26)).mono ?_
  rintro e w27 ⟨rfl, hx1, lx1, hb28⟩
  have hs29 := hb28.size
  have z30 := z25.on hb28
  have z31 := hx0.on hb28
  clear z25 hx0
  have hB32 := stepA hB26 hb28
  clear hB26 hb28
  try simp only [size_al] at hs29
  go_wp2_with fail
  refine (hI _ _ _ _ _ z31.sl hx1.sl).mono ?_
  rintro e w33 ⟨⟨agp, cgp, rfl, hgp⟩, hb34⟩
  have hs35 := hb34.size
  have z36 := z30.on hb34
  have z37 := z31.on hb34
  have z38 := hx1.on hb34
  clear z30 z31 hx1
  have hB39 := stepA hB32 hb34
  clear hB32 hb34
  try simp only [size_al] at hs35
  go_wp2_with fail
  refine (eqSt _ _ L _ _ S _ (by omega) hgp.sl z36.sl).mono ?_
  rintro e w40 ⟨rfl, hb41⟩
  have hs42 := hb41.size
  have z43 := z36.on hb41
  have z44 := z37.on hb41
  have z45 := z38.on hb41
  have z46 := hgp.on hb41
  clear z36 z37 z38 hgp
  have hB47 := stepA hB39 hb41
  clear hB39 hb41
  try simp only [size_al] at hs42
  go_wp2_with fail
  refine (toEvS a n c E _ hn' (hE.below hB47)).mono ?_
  rintro e w48 ⟨rfl, hy0, ly0, hb49⟩
  have hs50 := hb49.size
  have z51 := z43.on hb49
  have z52 := z44.on hb49
  have z53 := z45.on hb49
  have z54 := z46.on hb49
  clear z43 z44 z45 z46
  have hB55 := stepA hB47 hb49
  clear hB47 hb49
  try simp only [size_al] at hs50
  go_wp2_with fail
  refine (eqEvS _ _ n _ _ E _ hn' z52.sl hy0.sl).mono ?_
  rintro e w56 ⟨rfl, hb57⟩
  have hs58 := hb57.size
  have z59 := z51.on hb57
  have z60 := z52.on hb57
  have z61 := z53.on hb57
  have z62 := z54.on hb57
  have z63 := hy0.on hb57
  clear z51 z52 z53 z54 hy0
  have hB64 := stepA hB55 hb57
  clear hB55 hb57
  try simp only [size_al] at hs58
  clear z63
  go_wp2_with fail
  refine (copySt b nn d N _ hnn (hN.below hB64)).mono ?_
  rintro e w65 ⟨rfl, hy1, ly1, hb66⟩
  have hs67 := hb66.size
  have z68 := z59.on hb66
  have z69 := z60.on hb66
  have z70 := z61.on hb66
  have z71 := z62.on hb66
  clear z59 z60 z61 z62
  have hB72 := stepA hB64 hb66
  clear hB64 hb66
  try simp only [size_al] at hs67
  go_wp2_with fail
  refine (eqSt _ _ nn _ _ N _ hnn z70.sl hy1.sl).mono ?_
  rintro e w73 ⟨rfl, hb74⟩
  have hs75 := hb74.size
  have z76 := z68.on hb74
  have z77 := z69.on hb74
  have z78 := z70.on hb74
  have z79 := z71.on hb74
  have z80 := hy1.on hb74
  clear z68 z69 z70 z71 hy1
  have hB81 := stepA hB72 hb74
  clear hB72 hb74
  try simp only [size_al] at hs75
  clear z80
  go_wp2_with fail
  refine (markEv _ n _ 1 _ _ _ _ hn' (by omega) z77).mono ?_
  rintro e w82 ⟨rfl, ht83⟩
  have hs85 := ht83.size
  try simp only [size_al] at hs85
  have z86 := z76.turns ht83 (by first | omega | (simp only [size_al]; omega))
  have z87 := z78.turns ht83 (by first | omega | (simp only [size_al]; omega))
  have z88 := z79.turns ht83 (by first | omega | (simp only [size_al]; omega))
  clear z76 z78 z79
  have hB89 := hB81.trans (ht83.below (by omega) (by first | omega | (simp only [size_al]; omega)))
  clear hB81 ht83 z77
  have j1 : ¬ ((1 + n * 2 : Nat) : Int) < 0 := by omega
  go_wp2_with fail
  refine (markSt _ nn _ (1 + n * 2) _ _ _ _ hnn (by omega) z87).mono ?_
  rintro e w90 ⟨rfl, z92, ht91⟩
  have hs93 := ht91.size
  try simp only [size_al] at hs93
  have z94 := z86.turns ht91 (by first | omega | (simp only [size_al]; omega))
  have z95 := z88.turns ht91 (by first | omega | (simp only [size_al]; omega))
  clear z86 z88
  have hB96 := hB89.trans (ht91.below (by omega) (by first | omega | (simp only [size_al]; omega)))
  clear hB89 ht91 z87
  clear z92
  have j2 : ¬ ((1 + n * 2 + nn : Nat) : Int) < 0 := by omega
  go_wp2_with fail
  refine (eqSt _ _ L _ _ S _ (by omega) z95.sl z94.sl).mono ?_
  rintro e w97 ⟨rfl, hb98⟩
  have hs99 := hb98.size
  have z100 := z94.on hb98
  have z101 := z95.on hb98
  clear z94 z95
  have hB102 := stepA hB96 hb98
  clear hB96 hb98
  try simp only [size_al] at hs99
  go_wp2_with fail
  refine (markSt _ L _ 1 _ _ _ _ (by omega) (by omega) z101).mono ?_
  rintro e w103 ⟨rfl, z105, ht104⟩
  have hs106 := ht104.size
  try simp only [size_al] at hs106
  have z107 := z100.turns ht104 (by first | omega | (simp only [size_al]; omega))
  clear z100
  have hB108 := hB102.trans (ht104.below (by omega) (by first | omega | (simp only [size_al]; omega)))
  clear hB102 ht104 z101
  have j3 : ¬ ((1 + L : Nat) : Int) < 0 := by omega
  go_wp2_with fail
  refine (heldSt _ L _ 1 _ (by omega) (by omega) z105.sl).mono ?_
  rintro e w109 ⟨rfl, hb110⟩
  have hs111 := hb110.size
  have z112 := z107.on hb110
  have z113 := z105.on hb110
  clear z107 z105
  have hB114 := stepA hB108 hb110
  clear hB108 hb110
  try simp only [size_al] at hs111
  go_wp2_with fail
  refine (toEvS a n c E _ hn' (hE.below hB114)).mono ?_
  rintro e w115 ⟨rfl, hz0, lz0, hb116⟩
  have hs117 := hb116.size
  have z118 := z112.on hb116
  have z119 := z113.on hb116
  clear z112 z113
  have hB120 := stepA hB114 hb116
  clear hB114 hb116
  try simp only [size_al] at hs117
  go_wp2_with fail
  refine (copySt b nn d N _ hnn (hN.below hB120)).mono ?_
  rintro e w121 ⟨rfl, hz1, lz1, hb122⟩
  have hs123 := hb122.size
  have z124 := z118.on hb122
  have z125 := z119.on hb122
  have z126 := hz0.on hb122
  clear z118 z119 hz0
  have hB127 := stepA hB120 hb122
  clear hB120 hb122
  try simp only [size_al] at hs123
  go_wp2_with fail
  refine (hI _ _ _ _ _ z126.sl hz1.sl).mono ?_
  rintro e w128 ⟨⟨ahp, chp, rfl, hhp⟩, hb129⟩
  have hs130 := hb129.size
  have z131 := z124.on hb129
  have z132 := z125.on hb129
  have z133 := z126.on hb129
  have z134 := hz1.on hb129
  clear z124 z125 z126 hz1
  have hB135 := stepA hB127 hb129
  clear hB127 hb129
  try simp only [size_al] at hs130
  clear z133
  clear z134
  go_wp2_with fail
  refine (eqSt _ _ L _ _ S _ (by omega) hhp.sl z131.sl).mono ?_
  rintro e w136 ⟨rfl, hb137⟩
  have hs138 := hb137.size
  have z139 := z131.on hb137
  have z140 := z132.on hb137
  have z141 := hhp.on hb137
  clear z131 z132 hhp
  have hB142 := stepA hB135 hb137
  clear hB135 hb137
  try simp only [size_al] at hs138
  go_wp2_with fail
  refine (heldSt _ L _ 1 _ (by omega) (by omega) z140.sl).mono ?_
  rintro e w143 ⟨rfl, hb144⟩
  have hs145 := hb144.size
  have z146 := z139.on hb144
  have z147 := z140.on hb144
  have z148 := z141.on hb144
  clear z139 z140 z141
  have hB149 := stepA hB142 hb144
  clear hB142 hb144
  try simp only [size_al] at hs145
  clear z146
  clear z147
  clear z148
  go_wp2
  go_ret
  exact ⟨rfl, hB149⟩
set_option maxHeartbeats 2000000 in
theorem modesLaw (a b : Option Addr) (n c nn d : Nat) (E N : Nat → ByteArray) (w : World) (hE : SL w a (n * 2) E) (hN : SL w b nn N) (hEs : ∀ i, i < n * 2 → (E i).size ≤ 9223372036854775807) (hNs : ∀ i, i < nn → (N i).size ≤ 9223372036854775807) (hnm : n ≤ 9223372036854775807) (hnnm : nn ≤ 9223372036854775807) :
    Calls Try.prog 4 #[.slice a n c, .slice b nn d] w fun e w' => e = .returned (.bool true) ∧ Below w.heap.size w w' := by
  have kZ := szEvS a n c E 1048576 w (by omega) (by omega) hnm hEs hE
  by_cases q1 : lefE E n 1048576 < 0
  · clear hEs hNs
    generalize lefE E n 1048576 = V1 at *
    go_enter Try.func4, Try.ntmps4
    go_wp2_with (first | (go_at_call 11; refine kZ.mono ?_; rintro e w2 ⟨rfl, hb2⟩) | fail)
    go_ret
    exact ⟨rfl, hb2⟩
  obtain ⟨_, _, hle⟩ := lefE_in q1
  have kY := fun w2 (h : SL w2 b nn N) => szSt b nn d N (lefE E n 1048576) w2 (by omega) hle hnnm hNs h
  by_cases q2 : lefB N nn (lefE E n 1048576) < 0
  · clear hEs hNs
    generalize lefB N nn (lefE E n 1048576) = V2 at *
    generalize lefE E n 1048576 = V1 at *
    go_enter Try.func4, Try.ntmps4
    go_wp2_with (first | (go_at_call 11; refine kZ.mono ?_; rintro e w2 ⟨rfl, hb2⟩) | (go_at_call 12; refine (kY _ (hN.below hb2)).mono ?_; rintro e w3 ⟨rfl, hw3⟩; have hs' := hw3.symm; clear hw3; subst hs') | fail)
    go_ret
    exact ⟨rfl, hb2⟩
  · exact modesIn a b n c nn d E N w hE hN hEs hNs hnm hnnm q1 q2
end Go.Proofs.Ytoleblhidieheaa
