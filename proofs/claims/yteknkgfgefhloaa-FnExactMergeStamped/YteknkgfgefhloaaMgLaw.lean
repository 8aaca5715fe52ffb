/- The walk of the law on MergeStamped (tools/gen_mglaw.py). -/
import Derived.Test.YteknkgfgefhloaaMgX
import Derived.Test.YteknkgfgefhloaaMgY
import Derived.Test.YteknkgfgefhloaaTaStH
namespace Go.Proofs.Yteknkgfgefhloaa
open Go.RowKit
set_option maxRecDepth 20000 in
set_option maxHeartbeats 8000000 in
theorem mergeLaw (a b : Option Addr) (n c m d : Nat) (F G : Nat → Int) (w : World) (hnm : n + m ≤ 1048576) (hn : n ≤ 1048576) (hm : m ≤ 1048576) (hf : IL w a (n * 3) F) (hg : IL w b (m * 3) G) :
    Calls Try.prog 7 #[.slice a n c, .slice b m d] w fun e w' => e = .returned (.bool true) ∧ Below w.heap.size w w' := by
  have hN : omN (okM F n G m) ≤ 80 := omN_le _ _ _ _
  have hS := fun a b c d w h h2 => (sMerge a b n c m d F G w hn hm h h2).mono (fun e w' (h : AnsM w w' e (okM F n G m) ∧ _) => (⟨ansM_lq h.1, h.2⟩ : (∃ a c, e = .returned (.tuple #[.slice a (omN (okM F n G m)) c, .bool (okM F n G m).isSome]) ∧ LQ w' w.heap.size w'.heap.size a (omN (okM F n G m) * 3) (omF (okM F n G m))) ∧ Below w.heap.size w w'))
  have hI := fun x y c d w h h2 => (iMergeA (some ⟨x, 0, none⟩) (some ⟨y, 0, none⟩) n c m d F G w hn hm (.inr ⟨_, _, rfl⟩) (.inr ⟨_, _, rfl⟩) h h2).mono (fun e w' (h : AnsM w w' e (okM F n G m) ∧ _) => (⟨ansM_lq h.1, h.2⟩ : (∃ a c, e = .returned (.tuple #[.slice a (omN (okM F n G m)) c, .bool (okM F n G m).isSome]) ∧ LQ w' w.heap.size w'.heap.size a (omN (okM F n G m) * 3) (omF (okM F n G m))) ∧ Below w.heap.size w w'))
  generalize omN (okM F n G m) = N at hS hI hN
  generalize omF (okM F n G m) = R at hS hI
  generalize (okM F n G m).isSome = V at hS hI
  have hN : N ≤ 1048576 := by omega
  have j0 : ¬ (1048576 : Int) - (n : Int) < 0 := by omega
  have j1 : ¬ (1048576 : Int) - (n : Int) - (m : Int) < 0 := by omega
  have j2 : ¬ (1 : Int) + ((n * 3 : Nat) : Int) + ((m * 3 : Nat) : Int) < 0 := by omega
  have j3 : ¬ (1 : Int) + ((N * 3 : Nat) : Int) < 0 := by omega
  go_enter Try.func7, Try.ntmps7
  have hB0 := Below.refl w.heap.size w
  go_wp2_with fail
  refine (szStamped_in a n c 1048576 _ (by omega) (by omega)).mono ?_
  rintro e w1 ⟨rfl, hb2⟩
  have hs' := hb2.symm
  clear hb2
  subst hs'
  go_wp2_with fail
  refine (szStamped_in b m d (1048576 - (n : Int)) _ (by omega) (by omega)).mono ?_
  rintro e w3 ⟨rfl, hb4⟩
  have hs' := hb4.symm
  clear hb4
  subst hs'
  go_wp2_with fail
  refine (toStampedS_any a n c F _ hn (hf.below hB0)).mono ?_
  rintro e w5 ⟨rfl, hQ2, hQ2s, hb6⟩
  have hs7 := hb6.size
  have hB8 := stepA hB0 hb6
  clear hB0 hb6
  try simp only [size_al] at hs7
  try simp only [size_al] at hQ2 hQ2s
  go_wp2_with fail
  refine (toStampedS_any b m d G _ hm (hg.below hB8)).mono ?_
  rintro e w9 ⟨rfl, hQ3, hQ3s, hb10⟩
  have hs11 := hb10.size
  have z12 := hQ2.on hb10
  clear hQ2
  have hB13 := stepA hB8 hb10
  clear hB8 hb10
  try simp only [size_al] at hs11
  try simp only [size_al] at hQ3 hQ3s
  go_wp2_with fail
  refine (hS _ _ _ _ _ z12.il hQ3.il).mono ?_
  rintro e w14 ⟨⟨a3, c3, rfl, hA3⟩, hb15⟩
  have hs16 := hb15.size
  have z17 := z12.on hb15
  have z18 := hQ3.on hb15
  clear z12 hQ3
  have hB19 := stepA hB13 hb15
  clear hB13 hb15
  try simp only [size_al] at hs16
  try simp only [size_al] at hA3
  clear z17
  clear z18
  go_wp2_with fail
  refine (toStampedS_any a n c F _ hn (hf.below hB19)).mono ?_
  rintro e w20 ⟨rfl, hQ4, hQ4s, hb21⟩
  have hs22 := hb21.size
  have z23 := hA3.on hb21
  clear hA3
  have hB24 := stepA hB19 hb21
  clear hB19 hb21
  try simp only [size_al] at hs22
  try simp only [size_al] at hQ4 hQ4s
  go_wp2_with fail
  refine (toStampedS_any b m d G _ hm (hg.below hB24)).mono ?_
  rintro e w25 ⟨rfl, hQ5, hQ5s, hb26⟩
  have hs27 := hb26.size
  have z28 := z23.on hb26
  have z29 := hQ4.on hb26
  clear z23 hQ4
  have hB30 := stepA hB24 hb26
  clear hB24 hb26
  try simp only [size_al] at hs27
  try simp only [size_al] at hQ5 hQ5s
  go_wp2_with fail
  refine (hI _ _ _ _ _ z29.il hQ5.il).mono ?_
  rintro e w31 ⟨⟨a5, c5, rfl, hA5⟩, hb32⟩
  have hs33 := hb32.size
  have z34 := z28.on hb32
  have z35 := z29.on hb32
  have z36 := hQ5.on hb32
  clear z28 z29 hQ5
  have hB37 := stepA hB30 hb32
  clear hB30 hb32
  try simp only [size_al] at hs33
  try simp only [size_al] at hA5
  go_wp2_with fail
  refine (eqStampedS_any a5 a3 N c5 c3 R _ hN hA5.il z34.il).mono ?_
  rintro e w38 ⟨rfl, hb39⟩
  have hs40 := hb39.size
  have z41 := z34.on hb39
  have z42 := z35.on hb39
  have z43 := z36.on hb39
  have z44 := hA5.on hb39
  clear z34 z35 z36 hA5
  have hB45 := stepA hB37 hb39
  clear hB37 hb39
  try simp only [size_al] at hs40
  cases V with
  | true =>
    go_wp2_with fail
    refine (toStampedS_any a n c F _ hn (hf.below hB45)).mono ?_
    rintro e w46 ⟨rfl, hQ6, hQ6s, hb47⟩
    have hs48 := hb47.size
    have z49 := z41.on hb47
    have z50 := z42.on hb47
    have z51 := z43.on hb47
    have z52 := z44.on hb47
    clear z41 z42 z43 z44
    have hB53 := stepA hB45 hb47
    clear hB45 hb47
    try simp only [size_al] at hs48
    try simp only [size_al] at hQ6 hQ6s
    go_wp2_with fail
    refine (eqStampedS_any (some ⟨w14.heap.size, 0, none⟩) (some ⟨w38.heap.size, 0, none⟩) n n n F _ hn z50.il hQ6.il).mono ?_
    rintro e w54 ⟨rfl, hb55⟩
    have hs56 := hb55.size
    have z57 := z49.on hb55
    have z58 := z50.on hb55
    have z59 := z51.on hb55
    have z60 := z52.on hb55
    have z61 := hQ6.on hb55
    clear z49 z50 z51 z52 hQ6
    have hB62 := stepA hB53 hb55
    clear hB53 hb55
    try simp only [size_al] at hs56
    clear z61
    go_wp2_with fail
    refine (toStampedS_any b m d G _ hm (hg.below hB62)).mono ?_
    rintro e w63 ⟨rfl, hQ7, hQ7s, hb64⟩
    have hs65 := hb64.size
    have z66 := z57.on hb64
    have z67 := z58.on hb64
    have z68 := z59.on hb64
    have z69 := z60.on hb64
    clear z57 z58 z59 z60
    have hB70 := stepA hB62 hb64
    clear hB62 hb64
    try simp only [size_al] at hs65
    try simp only [size_al] at hQ7 hQ7s
    go_wp2_with fail
    refine (eqStampedS_any (some ⟨w20.heap.size, 0, none⟩) (some ⟨w54.heap.size, 0, none⟩) m m m G _ hm z68.il hQ7.il).mono ?_
    rintro e w71 ⟨rfl, hb72⟩
    have hs73 := hb72.size
    have z74 := z66.on hb72
    have z75 := z67.on hb72
    have z76 := z68.on hb72
    have z77 := z69.on hb72
    have z78 := hQ7.on hb72
    clear z66 z67 z68 z69 hQ7
    have hB79 := stepA hB70 hb72
    clear hB70 hb72
    try simp only [size_al] at hs73
    clear z78
    go_wp2_with fail
    refine (markStampedT (some ⟨w14.heap.size, 0, none⟩) n n 1 (w14.heap.size) (w14.heap.size + 1) F _ hn (by omega) z75).mono ?_
    rintro e w80 ⟨rfl, z82, ht81⟩
    have hs83 := ht81.size
    try simp only [size_al] at hs83
    have z84 := z74.turns ht81 (by first | omega | (simp only [size_al]; omega))
    have z85 := z76.turns ht81 (by first | omega | (simp only [size_al]; omega))
    have z86 := z77.turns ht81 (by first | omega | (simp only [size_al]; omega))
    clear z74 z76 z77
    have hB87 := hB79.trans (ht81.below (by omega) (by first | omega | (simp only [size_al]; omega)))
    clear hB79 ht81 z75
    go_wp2_with fail
    refine (markStampedZ (some ⟨w20.heap.size, 0, none⟩) m m ((1 : Int) + ((n * 3 : Nat) : Int)) (w20.heap.size) (w20.heap.size + 1) G _ hm (by omega) (by omega) z85).mono ?_
    rintro e w88 ⟨rfl, z90, ht89⟩
    have hs91 := ht89.size
    try simp only [size_al] at hs91
    have z92 := z84.turns ht89 (by first | omega | (simp only [size_al]; omega))
    have z93 := z86.turns ht89 (by first | omega | (simp only [size_al]; omega))
    have z94 := z82.turns ht89 (by first | omega | (simp only [size_al]; omega))
    clear z84 z86 z82
    have hB95 := hB87.trans (ht89.below (by omega) (by first | omega | (simp only [size_al]; omega)))
    clear hB87 ht89 z85
    go_wp2_with fail
    refine (eqStampedS_any a5 a3 N c5 c3 R _ hN z93.il z92.il).mono ?_
    rintro e w96 ⟨rfl, hb97⟩
    have hs98 := hb97.size
    have z99 := z92.on hb97
    have z100 := z93.on hb97
    have z101 := z94.on hb97
    have z102 := z90.on hb97
    clear z92 z93 z94 z90
    have hB103 := stepA hB95 hb97
    clear hB95 hb97
    try simp only [size_al] at hs98
    go_wp2_with fail
    refine (markStampedT a5 N c5 1 (w25.heap.size) (w31.heap.size) R _ hN (by omega) z100).mono ?_
    rintro e w104 ⟨rfl, z106, ht105⟩
    have hs107 := ht105.size
    try simp only [size_al] at hs107
    have z108 := z99.turns ht105 (by first | omega | (simp only [size_al]; omega))
    have z109 := z101.turns ht105 (by first | omega | (simp only [size_al]; omega))
    have z110 := z102.turns ht105 (by first | omega | (simp only [size_al]; omega))
    clear z99 z101 z102
    have hB111 := hB103.trans (ht105.below (by omega) (by first | omega | (simp only [size_al]; omega)))
    clear hB103 ht105 z100
    go_wp2_with fail
    refine (heldStampedT a5 N c5 1 (w25.heap.size) (w31.heap.size) _ hN (by omega) z106).mono ?_
    rintro e w112 ⟨rfl, hb113⟩
    have hs' := hb113.symm
    clear hb113
    subst hs'
    go_wp2_with fail
    refine (toStampedS_any a n c F _ hn (hf.below hB111)).mono ?_
    rintro e w114 ⟨rfl, hQ8, hQ8s, hb115⟩
    have hs116 := hb115.size
    have z117 := z108.on hb115
    have z118 := z109.on hb115
    have z119 := z110.on hb115
    have z120 := z106.on hb115
    clear z108 z109 z110 z106
    have hB121 := stepA hB111 hb115
    clear hB111 hb115
    try simp only [size_al] at hs116
    try simp only [size_al] at hQ8 hQ8s
    go_wp2_with fail
    refine (toStampedS_any b m d G _ hm (hg.below hB121)).mono ?_
    rintro e w122 ⟨rfl, hQ9, hQ9s, hb123⟩
    have hs124 := hb123.size
    have z125 := z117.on hb123
    have z126 := z118.on hb123
    have z127 := z119.on hb123
    have z128 := z120.on hb123
    have z129 := hQ8.on hb123
    clear z117 z118 z119 z120 hQ8
    have hB130 := stepA hB121 hb123
    clear hB121 hb123
    try simp only [size_al] at hs124
    try simp only [size_al] at hQ9 hQ9s
    go_wp2_with fail
    refine (hI _ _ _ _ _ z129.il hQ9.il).mono ?_
    rintro e w131 ⟨⟨a8, c8, rfl, hA8⟩, hb132⟩
    have hs133 := hb132.size
    have z134 := z125.on hb132
    have z135 := z126.on hb132
    have z136 := z127.on hb132
    have z137 := z128.on hb132
    have z138 := z129.on hb132
    have z139 := hQ9.on hb132
    clear z125 z126 z127 z128 z129 hQ9
    have hB140 := stepA hB130 hb132
    clear hB130 hb132
    try simp only [size_al] at hs133
    try simp only [size_al] at hA8
    go_wp2_with fail
    refine (eqStampedS_any a8 a3 N c8 c3 R _ hN hA8.il z134.il).mono ?_
    rintro e w141 ⟨rfl, hb142⟩
    have hs143 := hb142.size
    have z144 := z134.on hb142
    have z145 := z135.on hb142
    have z146 := z136.on hb142
    have z147 := z137.on hb142
    have z148 := z138.on hb142
    have z149 := z139.on hb142
    have z150 := hA8.on hb142
    clear z134 z135 z136 z137 z138 z139 hA8
    have hB151 := stepA hB140 hb142
    clear hB140 hb142
    try simp only [size_al] at hs143
    go_wp2_with fail
    refine (heldStampedT a5 N c5 1 (w25.heap.size) (w31.heap.size) _ hN (by omega) z147).mono ?_
    rintro e w152 ⟨rfl, hb153⟩
    have hs' := hb153.symm
    clear hb153
    subst hs'
    clear z144
    clear z145
    clear z146
    clear z147
    clear z148
    clear z149
    clear z150
    go_wp2
    go_ret
    exact ⟨rfl, hB151⟩
  | false =>
    go_wp2_with fail
    refine (toStampedS_any a n c F _ hn (hf.below hB45)).mono ?_
    rintro e w46 ⟨rfl, hQ6, hQ6s, hb47⟩
    have hs48 := hb47.size
    have z49 := z41.on hb47
    have z50 := z42.on hb47
    have z51 := z43.on hb47
    have z52 := z44.on hb47
    clear z41 z42 z43 z44
    have hB53 := stepA hB45 hb47
    clear hB45 hb47
    try simp only [size_al] at hs48
    try simp only [size_al] at hQ6 hQ6s
    go_wp2_with fail
    refine (eqStampedS_any (some ⟨w14.heap.size, 0, none⟩) (some ⟨w38.heap.size, 0, none⟩) n n n F _ hn z50.il hQ6.il).mono ?_
    rintro e w54 ⟨rfl, hb55⟩
    have hs56 := hb55.size
    have z57 := z49.on hb55
    have z58 := z50.on hb55
    have z59 := z51.on hb55
    have z60 := z52.on hb55
    have z61 := hQ6.on hb55
    clear z49 z50 z51 z52 hQ6
    have hB62 := stepA hB53 hb55
    clear hB53 hb55
    try simp only [size_al] at hs56
    clear z61
    go_wp2_with fail
    refine (toStampedS_any b m d G _ hm (hg.below hB62)).mono ?_
    rintro e w63 ⟨rfl, hQ7, hQ7s, hb64⟩
    have hs65 := hb64.size
    have z66 := z57.on hb64
    have z67 := z58.on hb64
    have z68 := z59.on hb64
    have z69 := z60.on hb64
    clear z57 z58 z59 z60
    have hB70 := stepA hB62 hb64
    clear hB62 hb64
    try simp only [size_al] at hs65
    try simp only [size_al] at hQ7 hQ7s
    go_wp2_with fail
    refine (eqStampedS_any (some ⟨w20.heap.size, 0, none⟩) (some ⟨w54.heap.size, 0, none⟩) m m m G _ hm z68.il hQ7.il).mono ?_
    rintro e w71 ⟨rfl, hb72⟩
    have hs73 := hb72.size
    have z74 := z66.on hb72
    have z75 := z67.on hb72
    have z76 := z68.on hb72
    have z77 := z69.on hb72
    have z78 := hQ7.on hb72
    clear z66 z67 z68 z69 hQ7
    have hB79 := stepA hB70 hb72
    clear hB70 hb72
    try simp only [size_al] at hs73
    clear z78
    go_wp2_with fail
    refine (markStampedT (some ⟨w14.heap.size, 0, none⟩) n n 1 (w14.heap.size) (w14.heap.size + 1) F _ hn (by omega) z75).mono ?_
    rintro e w80 ⟨rfl, z82, ht81⟩
    have hs83 := ht81.size
    try simp only [size_al] at hs83
    have z84 := z74.turns ht81 (by first | omega | (simp only [size_al]; omega))
    have z85 := z76.turns ht81 (by first | omega | (simp only [size_al]; omega))
    have z86 := z77.turns ht81 (by first | omega | (simp only [size_al]; omega))
    clear z74 z76 z77
    have hB87 := hB79.trans (ht81.below (by omega) (by first | omega | (simp only [size_al]; omega)))
    clear hB79 ht81 z75
    go_wp2_with fail
    refine (markStampedZ (some ⟨w20.heap.size, 0, none⟩) m m ((1 : Int) + ((n * 3 : Nat) : Int)) (w20.heap.size) (w20.heap.size + 1) G _ hm (by omega) (by omega) z85).mono ?_
    rintro e w88 ⟨rfl, z90, ht89⟩
    have hs91 := ht89.size
    try simp only [size_al] at hs91
    have z92 := z84.turns ht89 (by first | omega | (simp only [size_al]; omega))
    have z93 := z86.turns ht89 (by first | omega | (simp only [size_al]; omega))
    have z94 := z82.turns ht89 (by first | omega | (simp only [size_al]; omega))
    clear z84 z86 z82
    have hB95 := hB87.trans (ht89.below (by omega) (by first | omega | (simp only [size_al]; omega)))
    clear hB87 ht89 z85
    go_wp2_with fail
    refine (eqStampedS_any a5 a3 N c5 c3 R _ hN z93.il z92.il).mono ?_
    rintro e w96 ⟨rfl, hb97⟩
    have hs98 := hb97.size
    have z99 := z92.on hb97
    have z100 := z93.on hb97
    have z101 := z94.on hb97
    have z102 := z90.on hb97
    clear z92 z93 z94 z90
    have hB103 := stepA hB95 hb97
    clear hB95 hb97
    try simp only [size_al] at hs98
    go_wp2_with fail
    refine (markStampedT a5 N c5 1 (w25.heap.size) (w31.heap.size) R _ hN (by omega) z100).mono ?_
    rintro e w104 ⟨rfl, z106, ht105⟩
    have hs107 := ht105.size
    try simp only [size_al] at hs107
    have z108 := z99.turns ht105 (by first | omega | (simp only [size_al]; omega))
    have z109 := z101.turns ht105 (by first | omega | (simp only [size_al]; omega))
    have z110 := z102.turns ht105 (by first | omega | (simp only [size_al]; omega))
    clear z99 z101 z102
    have hB111 := hB103.trans (ht105.below (by omega) (by first | omega | (simp only [size_al]; omega)))
    clear hB103 ht105 z100
    go_wp2_with fail
    refine (heldStampedT a5 N c5 1 (w25.heap.size) (w31.heap.size) _ hN (by omega) z106).mono ?_
    rintro e w112 ⟨rfl, hb113⟩
    have hs' := hb113.symm
    clear hb113
    subst hs'
    go_wp2_with fail
    refine (toStampedS_any a n c F _ hn (hf.below hB111)).mono ?_
    rintro e w114 ⟨rfl, hQ8, hQ8s, hb115⟩
    have hs116 := hb115.size
    have z117 := z108.on hb115
    have z118 := z109.on hb115
    have z119 := z110.on hb115
    have z120 := z106.on hb115
    clear z108 z109 z110 z106
    have hB121 := stepA hB111 hb115
    clear hB111 hb115
    try simp only [size_al] at hs116
    try simp only [size_al] at hQ8 hQ8s
    go_wp2_with fail
    refine (toStampedS_any b m d G _ hm (hg.below hB121)).mono ?_
    rintro e w122 ⟨rfl, hQ9, hQ9s, hb123⟩
    have hs124 := hb123.size
    have z125 := z117.on hb123
    have z126 := z118.on hb123
    have z127 := z119.on hb123
    have z128 := z120.on hb123
    have z129 := hQ8.on hb123
    clear z117 z118 z119 z120 hQ8
    have hB130 := stepA hB121 hb123
    clear hB121 hb123
    try simp only [size_al] at hs124
    try simp only [size_al] at hQ9 hQ9s
    go_wp2_with fail
    refine (hI _ _ _ _ _ z129.il hQ9.il).mono ?_
    rintro e w131 ⟨⟨a8, c8, rfl, hA8⟩, hb132⟩
    have hs133 := hb132.size
    have z134 := z125.on hb132
    have z135 := z126.on hb132
    have z136 := z127.on hb132
    have z137 := z128.on hb132
    have z138 := z129.on hb132
    have z139 := hQ9.on hb132
    clear z125 z126 z127 z128 z129 hQ9
    have hB140 := stepA hB130 hb132
    clear hB130 hb132
    try simp only [size_al] at hs133
    try simp only [size_al] at hA8
    go_wp2_with fail
    refine (eqStampedS_any a8 a3 N c8 c3 R _ hN hA8.il z134.il).mono ?_
    rintro e w141 ⟨rfl, hb142⟩
    have hs143 := hb142.size
    have z144 := z134.on hb142
    have z145 := z135.on hb142
    have z146 := z136.on hb142
    have z147 := z137.on hb142
    have z148 := z138.on hb142
    have z149 := z139.on hb142
    have z150 := hA8.on hb142
    clear z134 z135 z136 z137 z138 z139 hA8
    have hB151 := stepA hB140 hb142
    clear hB140 hb142
    try simp only [size_al] at hs143
    go_wp2_with fail
    refine (heldStampedT a5 N c5 1 (w25.heap.size) (w31.heap.size) _ hN (by omega) z147).mono ?_
    rintro e w152 ⟨rfl, hb153⟩
    have hs' := hb153.symm
    clear hb153
    subst hs'
    clear z144
    clear z145
    clear z146
    clear z147
    clear z148
    clear z149
    clear z150
    go_wp2
    go_ret
    exact ⟨rfl, hB151⟩
set_option maxHeartbeats 400000 in
theorem mergeLong (a b : Option Addr) (n c m d : Nat) (w : World) (h : 1048576 < n) (hx : n ≤ 9223372036854775807) :
    Calls Try.prog 7 #[.slice a n c, .slice b m d] w fun e w' => e = .returned (.bool true) ∧ Below w.heap.size w w' := by
  go_enter Try.func7, Try.ntmps7
  go_wp2_with fail
  refine (szStamped_out a n c 1048576 _ (by omega) (by omega) (by omega) hx).mono ?_
  rintro e w' ⟨rfl, hw⟩
  have hs := hw.symm
  clear hw
  subst hs
  go_wp2
  go_ret
  exact ⟨rfl, Below.refl _ _⟩
set_option maxHeartbeats 400000 in
theorem mergeLong2 (a b : Option Addr) (n c m d : Nat) (w : World) (hn : n ≤ 1048576) (h : 1048576 < n + m) (hx : m ≤ 9223372036854775807) :
    Calls Try.prog 7 #[.slice a n c, .slice b m d] w fun e w' => e = .returned (.bool true) ∧ Below w.heap.size w w' := by
  have j0 : ¬ (1048576 : Int) - (n : Int) < 0 := by omega
  go_enter Try.func7, Try.ntmps7
  go_wp2_with fail
  refine (szStamped_in a n c 1048576 _ (by omega) (by omega)).mono ?_
  rintro e w' ⟨rfl, hw⟩
  have hs := hw.symm
  clear hw
  subst hs
  go_wp2_with fail
  refine (szStamped_out b m d (1048576 - (n : Int)) _ (by omega) (by omega) (by omega) hx).mono ?_
  rintro e w' ⟨rfl, hw⟩
  have hs := hw.symm
  clear hw
  subst hs
  go_wp2
  go_ret
  exact ⟨rfl, Below.refl _ _⟩
theorem mergeAll (a b : Option Addr) (n c m d : Nat) (F G : Nat → Int) (w : World) (hx : n ≤ 9223372036854775807) (hy : m ≤ 9223372036854775807) (hf : IL w a (n * 3) F) (hg : IL w b (m * 3) G) :
    Calls Try.prog 7 #[.slice a n c, .slice b m d] w fun e w' => e = .returned (.bool true) ∧ Below w.heap.size w w' := by
  by_cases h : n ≤ 1048576
  · by_cases h2 : n + m ≤ 1048576
    · exact mergeLaw a b n c m d F G w h2 h (by omega) hf hg
    · exact mergeLong2 a b n c m d w h (by omega) hy
  · exact mergeLong a b n c m d w (by omega) hx
end Go.Proofs.Yteknkgfgefhloaa
