/- The walk of the law on TakeParcels (tools/gen_talaw.py). -/
import Derived.Test.YtbhfkhlhfpmkmaaTaTkS
import Derived.Test.YtbhfkhlhfpmkmaaTaTkI
import Derived.Test.YtbhfkhlhfpmkmaaTaPar
import Derived.Test.YtbhfkhlhfpmkmaaTaParM
import Derived.Test.YtbhfkhlhfpmkmaaLqMark
namespace Go.Proofs.Ytbhfkhlhfpmkmaa
open Go.RowKit
set_option maxRecDepth 20000 in
set_option maxHeartbeats 4000000 in
theorem takeLaw (a : Option Addr) (n c : Nat) (f : Nat → Int) (a2 : Option Addr) (m c2 : Nat) (g : Nat → Int) (w : World) (hn : n ≤ 1048576) (hm : m ≤ 1048576) (hf : IL w a n f) (hg : IL w a2 (m * 2) g) :
    Calls Try.prog 6 #[.slice a n c, .slice a2 m c2] w fun e w' => e = .returned (.bool true) ∧ Below w.heap.size w w' := by
  have hN := tkV_len n f m g
  have hS := fun b c a2 c2 w h h2 => sTake b n c f a2 m c2 g w hn hm h h2
  have hI := fun b c a2 c2 w h h2 => iTake b n c f a2 m c2 g w hn hm h h2
  generalize tkV n f m g = L at hS hI hN
  have hN : L.length ≤ 1048576 := by omega
  have j : ¬ (1048576 : Int) < (n : Int) := by omega
  have j0 : ¬ (1048576 : Int) - (m : Int) < 0 := by omega
  have j1 : ¬ (1 : Int) + (n : Int) < 0 := by omega
  have j3 : ¬ (1 : Int) + (n : Int) + (m : Int) * 2 < 0 := by omega
  have j2 : ¬ (1 : Int) + (L.length : Int) < 0 := by omega
  go_enter Try.func6, Try.ntmps6
  have hB0 := Below.refl w.heap.size w
  go_wp2_with fail
  refine (szParcel_in a2 m c2 1048576 _ (by omega) (by omega)).mono ?_
  rintro e w1 ⟨rfl, hb2⟩
  have hs' := hb2.symm
  clear hb2
  subst hs'
  go_wp2_with fail
  refine (copyQ a n c f _ hn (hf.below hB0)).mono ?_
  rintro e w3 ⟨rfl, hQ2, hQ2s, hb4⟩
  have hs5 := hb4.size
  have hB6 := stepA hB0 hb4
  clear hB0 hb4
  try simp only [size_al] at hs5
  try simp only [size_al] at hQ2 hQ2s
  go_wp2_with fail
  refine (toParcelS_any a2 m c2 g _ hm (hg.below hB6)).mono ?_
  rintro e w7 ⟨rfl, hP2, hP2s, hb8⟩
  have hs9 := hb8.size
  have z10 := hQ2.on hb8
  clear hQ2
  have hB11 := stepA hB6 hb8
  clear hB6 hb8
  try simp only [size_al] at hs9
  try simp only [size_al] at hP2 hP2s
  go_wp2_with fail
  refine (hS _ _ _ _ _ z10.il hP2.il).mono ?_
  rintro e w12 ⟨⟨a3, c3, rfl, hA3⟩, hb13⟩
  have hs14 := hb13.size
  have z15 := z10.on hb13
  have z16 := hP2.on hb13
  clear z10 hP2
  have hB17 := stepA hB11 hb13
  clear hB11 hb13
  try simp only [size_al] at hs14
  try simp only [size_al] at hA3
  clear z15
  clear z16
  go_wp2_with fail
  refine (copyQ a n c f _ hn (hf.below hB17)).mono ?_
  rintro e w18 ⟨rfl, hQ4, hQ4s, hb19⟩
  have hs20 := hb19.size
  have z21 := hA3.on hb19
  clear hA3
  have hB22 := stepA hB17 hb19
  clear hB17 hb19
  try simp only [size_al] at hs20
  try simp only [size_al] at hQ4 hQ4s
  go_wp2_with fail
  refine (toParcelS_any a2 m c2 g _ hm (hg.below hB22)).mono ?_
  rintro e w23 ⟨rfl, hP4, hP4s, hb24⟩
  have hs25 := hb24.size
  have z26 := z21.on hb24
  have z27 := hQ4.on hb24
  clear z21 hQ4
  have hB28 := stepA hB22 hb24
  clear hB22 hb24
  try simp only [size_al] at hs25
  try simp only [size_al] at hP4 hP4s
  go_wp2_with fail
  refine (hI _ _ _ _ _ z27.il hP4.il).mono ?_
  rintro e w29 ⟨⟨a5, c5, rfl, hA5⟩, hb30⟩
  have hs31 := hb30.size
  have z32 := z26.on hb30
  have z33 := z27.on hb30
  have z34 := hP4.on hb30
  clear z26 z27 hP4
  have hB35 := stepA hB28 hb30
  clear hB28 hb30
  try simp only [size_al] at hs31
  try simp only [size_al] at hA5
  go_wp2_with fail
  refine (eqI_any a5 a3 L.length c5 c3 (gl L) _ hN hA5.il z32.il).mono ?_
  rintro e w36 ⟨rfl, hb37⟩
  have hs38 := hb37.size
  have z39 := z32.on hb37
  have z40 := z33.on hb37
  have z41 := z34.on hb37
  have z42 := hA5.on hb37
  clear z32 z33 z34 hA5
  have hB43 := stepA hB35 hb37
  clear hB35 hb37
  try simp only [size_al] at hs38
  go_wp2_with fail
  refine (copyQ a n c f _ hn (hf.below hB43)).mono ?_
  rintro e w44 ⟨rfl, hQ6, hQ6s, hb45⟩
  have hs46 := hb45.size
  have z47 := z39.on hb45
  have z48 := z40.on hb45
  have z49 := z41.on hb45
  have z50 := z42.on hb45
  clear z39 z40 z41 z42
  have hB51 := stepA hB43 hb45
  clear hB43 hb45
  try simp only [size_al] at hs46
  try simp only [size_al] at hQ6 hQ6s
  go_wp2_with fail
  refine (eqI_any (some ⟨w12.heap.size, 0, none⟩) (some ⟨w36.heap.size, 0, none⟩) n n n f _ hn z48.il hQ6.il).mono ?_
  rintro e w52 ⟨rfl, hb53⟩
  have hs54 := hb53.size
  have z55 := z47.on hb53
  have z56 := z48.on hb53
  have z57 := z49.on hb53
  have z58 := z50.on hb53
  have z59 := hQ6.on hb53
  clear z47 z48 z49 z50 hQ6
  have hB60 := stepA hB51 hb53
  clear hB51 hb53
  try simp only [size_al] at hs54
  clear z59
  go_wp2_with fail
  refine (toParcelS_any a2 m c2 g _ hm (hg.below hB60)).mono ?_
  rintro e w61 ⟨rfl, hP6, hP6s, hb62⟩
  have hs63 := hb62.size
  have z64 := z55.on hb62
  have z65 := z56.on hb62
  have z66 := z57.on hb62
  have z67 := z58.on hb62
  clear z55 z56 z57 z58
  have hB68 := stepA hB60 hb62
  clear hB60 hb62
  try simp only [size_al] at hs63
  try simp only [size_al] at hP6 hP6s
  go_wp2_with fail
  refine (eqParcelS_any (some ⟨w18.heap.size, 0, none⟩) (some ⟨w52.heap.size, 0, none⟩) m m m g _ hm z66.il hP6.il).mono ?_
  rintro e w69 ⟨rfl, hb70⟩
  have hs71 := hb70.size
  have z72 := z64.on hb70
  have z73 := z65.on hb70
  have z74 := z66.on hb70
  have z75 := z67.on hb70
  have z76 := hP6.on hb70
  clear z64 z65 z66 z67 hP6
  have hB77 := stepA hB68 hb70
  clear hB68 hb70
  try simp only [size_al] at hs71
  clear z76
  go_wp2_with fail
  refine (markT (some ⟨w12.heap.size, 0, none⟩) n n 1 (w12.heap.size) (w12.heap.size + 1) f _ hn (by omega) z73).mono ?_
  rintro e w78 ⟨rfl, z80, ht79⟩
  have hs81 := ht79.size
  try simp only [size_al] at hs81
  have z82 := z72.turns ht79 (by first | omega | (simp only [size_al]; omega))
  have z83 := z74.turns ht79 (by first | omega | (simp only [size_al]; omega))
  have z84 := z75.turns ht79 (by first | omega | (simp only [size_al]; omega))
  clear z72 z74 z75
  have hB85 := hB77.trans (ht79.below (by omega) (by first | omega | (simp only [size_al]; omega)))
  clear hB77 ht79 z73
  go_wp2_with fail
  refine (markParcelT (some ⟨w18.heap.size, 0, none⟩) m m (1 + n) (w18.heap.size) (w18.heap.size + 1) g _ hm (by omega) z83).mono ?_
  rintro e w86 ⟨rfl, z88, ht87⟩
  have hs89 := ht87.size
  try simp only [size_al] at hs89
  have z90 := z82.turns ht87 (by first | omega | (simp only [size_al]; omega))
  have z91 := z84.turns ht87 (by first | omega | (simp only [size_al]; omega))
  have z92 := z80.turns ht87 (by first | omega | (simp only [size_al]; omega))
  clear z82 z84 z80
  have hB93 := hB85.trans (ht87.below (by omega) (by first | omega | (simp only [size_al]; omega)))
  clear hB85 ht87 z83
  go_wp2_with fail
  refine (eqI_any a5 a3 L.length c5 c3 (gl L) _ hN z91.il z90.il).mono ?_
  rintro e w94 ⟨rfl, hb95⟩
  have hs96 := hb95.size
  have z97 := z90.on hb95
  have z98 := z91.on hb95
  have z99 := z92.on hb95
  have z100 := z88.on hb95
  clear z90 z91 z92 z88
  have hB101 := stepA hB93 hb95
  clear hB93 hb95
  try simp only [size_al] at hs96
  go_wp2_with fail
  refine (markT a5 L.length c5 1 (w23.heap.size) (w29.heap.size) (gl L) _ hN (by omega) z98).mono ?_
  rintro e w102 ⟨rfl, z104, ht103⟩
  have hs105 := ht103.size
  try simp only [size_al] at hs105
  have z106 := z97.turns ht103 (by first | omega | (simp only [size_al]; omega))
  have z107 := z99.turns ht103 (by first | omega | (simp only [size_al]; omega))
  have z108 := z100.turns ht103 (by first | omega | (simp only [size_al]; omega))
  clear z97 z99 z100
  have hB109 := hB101.trans (ht103.below (by omega) (by first | omega | (simp only [size_al]; omega)))
  clear hB101 ht103 z98
  go_wp2_with fail
  refine (heldQ a5 L.length c5 1 (w23.heap.size) (w29.heap.size) _ hN (by omega) z104).mono ?_
  rintro e w110 ⟨rfl, hb111⟩
  have hs' := hb111.symm
  clear hb111
  subst hs'
  go_wp2_with fail
  refine (copyQ a n c f _ hn (hf.below hB109)).mono ?_
  rintro e w112 ⟨rfl, hQ7, hQ7s, hb113⟩
  have hs114 := hb113.size
  have z115 := z106.on hb113
  have z116 := z107.on hb113
  have z117 := z108.on hb113
  have z118 := z104.on hb113
  clear z106 z107 z108 z104
  have hB119 := stepA hB109 hb113
  clear hB109 hb113
  try simp only [size_al] at hs114
  try simp only [size_al] at hQ7 hQ7s
  go_wp2_with fail
  refine (toParcelS_any a2 m c2 g _ hm (hg.below hB119)).mono ?_
  rintro e w120 ⟨rfl, hP7, hP7s, hb121⟩
  have hs122 := hb121.size
  have z123 := z115.on hb121
  have z124 := z116.on hb121
  have z125 := z117.on hb121
  have z126 := z118.on hb121
  have z127 := hQ7.on hb121
  clear z115 z116 z117 z118 hQ7
  have hB128 := stepA hB119 hb121
  clear hB119 hb121
  try simp only [size_al] at hs122
  try simp only [size_al] at hP7 hP7s
  go_wp2_with fail
  refine (hI _ _ _ _ _ z127.il hP7.il).mono ?_
  rintro e w129 ⟨⟨a8, c8, rfl, hA8⟩, hb130⟩
  have hs131 := hb130.size
  have z132 := z123.on hb130
  have z133 := z124.on hb130
  have z134 := z125.on hb130
  have z135 := z126.on hb130
  have z136 := z127.on hb130
  have z137 := hP7.on hb130
  clear z123 z124 z125 z126 z127 hP7
  have hB138 := stepA hB128 hb130
  clear hB128 hb130
  try simp only [size_al] at hs131
  try simp only [size_al] at hA8
  go_wp2_with fail
  refine (eqI_any a8 a3 L.length c8 c3 (gl L) _ hN hA8.il z132.il).mono ?_
  rintro e w139 ⟨rfl, hb140⟩
  have hs141 := hb140.size
  have z142 := z132.on hb140
  have z143 := z133.on hb140
  have z144 := z134.on hb140
  have z145 := z135.on hb140
  have z146 := z136.on hb140
  have z147 := z137.on hb140
  have z148 := hA8.on hb140
  clear z132 z133 z134 z135 z136 z137 hA8
  have hB149 := stepA hB138 hb140
  clear hB138 hb140
  try simp only [size_al] at hs141
  go_wp2_with fail
  refine (heldQ a5 L.length c5 1 (w23.heap.size) (w29.heap.size) _ hN (by omega) z145).mono ?_
  rintro e w150 ⟨rfl, hb151⟩
  have hs' := hb151.symm
  clear hb151
  subst hs'
  clear z142
  clear z143
  clear z144
  clear z145
  clear z146
  clear z147
  clear z148
  go_wp2
  go_ret
  exact ⟨rfl, hB149⟩
set_option maxHeartbeats 400000 in
theorem takeLaw_long (a : Option Addr) (n c : Nat) (a2 : Option Addr) (m c2 : Nat) (w : World) (h : 1048576 < n) :
    Calls Try.prog 6 #[.slice a n c, .slice a2 m c2] w fun e w' => e = .returned (.bool true) ∧ Below w.heap.size w w' := by
  have j : (1048576 : Int) < (n : Int) := by omega
  go_enter Try.func6, Try.ntmps6
  go_wp2
  go_ret
  exact ⟨rfl, Below.refl _ _⟩
set_option maxHeartbeats 400000 in
theorem takeLaw_long2 (a : Option Addr) (n c : Nat) (a2 : Option Addr) (m c2 : Nat) (w : World) (hn : n ≤ 1048576) (h : 1048576 < m) (hm : m ≤ 9223372036854775807) :
    Calls Try.prog 6 #[.slice a n c, .slice a2 m c2] w fun e w' => e = .returned (.bool true) ∧ Below w.heap.size w w' := by
  have j : ¬ (1048576 : Int) < (n : Int) := by omega
  go_enter Try.func6, Try.ntmps6
  go_wp2_with fail
  refine (szParcel_out a2 m c2 1048576 _ (by omega) (by omega) (by omega) hm).mono ?_
  rintro e w' ⟨rfl, hw⟩
  have hs := hw.symm
  clear hw
  subst hs
  go_wp2
  go_ret
  exact ⟨rfl, Below.refl _ _⟩
theorem takeAll (a : Option Addr) (n c : Nat) (f : Nat → Int) (a2 : Option Addr) (m c2 : Nat) (g : Nat → Int) (w : World) (hm : m ≤ 9223372036854775807) (hf : IL w a n f) (hg : IL w a2 (m * 2) g) :
    Calls Try.prog 6 #[.slice a n c, .slice a2 m c2] w fun e w' => e = .returned (.bool true) ∧ Below w.heap.size w w' := by
  by_cases h : n ≤ 1048576
  · by_cases h2 : m ≤ 1048576
    · exact takeLaw a n c f a2 m c2 g w h h2 hf hg
    · exact takeLaw_long2 a n c a2 m c2 w h (by omega) hm
  · exact takeLaw_long a n c a2 m c2 w (by omega)
end Go.Proofs.Ytbhfkhlhfpmkmaa
