/- The walk of the law on GoodPaths. -/
import Derived.Test.YtbndhhjgjalecaaDoorQCwGpS
import Derived.Test.YtbndhhjgjalecaaDoorQCwTrip
import Derived.Test.YtbndhhjgjalecaaDoorQSzHave
import Derived.Test.YtbndhhjgjalecaaDoorQClKind
namespace Go.Proofs.YtbndhhjgjalecaaDoor
open Go.RowKit
set_option maxHeartbeats 8000000 in
theorem pathsLaw (W : Int) (a b p : Option Addr) (n c m d N e0 : Nat) (f g : Nat → Int) (K : Nat → Nat) (F : Nat → Nat → Int) (w : World) (hn : n ≤ 1048576) (hnm : (m : Int) ≤ (1048576 : Int) - (n : Int)) (hN : N ≤ 1048576) (hK : ∀ i, i < N → K i ≤ 1048576) (hf : IL w a n f) (hg : IL w b (m * 2) g) (hr : RR w p N K F)
    (hT : Tab w) (hI : ∀ (a b p : Option Addr) (c d e0 : Nat) (w : World), Tab w → m ≤ d → N ≤ e0 → IL w a n f → IL w b (m * 2) g → RC w p N K F → Calls Tryd.prog 10 #[cel W a n c, .slice b m d, .slice p N e0] w fun e w' => ∃ q, e = .returned (.bool q) ∧ Says q (GpP W n f m g N K F) ∧ Below w.heap.size w w') :
    Calls Tryd.prog 5 #[cel W a n c, .slice b m d, .slice p N e0] w fun e w' => e = .returned (.bool true) ∧ Below w.heap.size w w' := by
  have j : ¬ (1048576 : Int) - (n : Int) < 0 := by omega
  have j2 : ¬ (1048576 : Int) - (n : Int) - (m : Int) < 0 := by omega
  have hm : m ≤ 1048576 := by omega
  go_enter Tryd.func5, Tryd.ntmps5
  have hB0 := Below.refl w.heap.size w
  have z1 := bx_new (b := w.heap.size) (w := w) [.int .i64 W, .slice a n c] 39 (by first | rfl | simp only [size_al])
  have hx2 : Below w.heap.size w (w.alloc (.cells #[.int .i64 W, .slice a n c] 39)) := (Below.refl _ _).alloc (Nat.le_refl _) _
  have hB3 := stepA hB0 hx2
  clear hB0 hx2
  have x4 := z1.c0
  have x5 := z1.c1
  go_wp2_with fail
  refine (szCells_in W a n c _ hn).mono ?_
  rintro e w6 ⟨rfl, hb7⟩
  have hs8 := hb7.size
  have z9 := z1.on hb7
  clear z1
  have hB10 := stepA hB3 hb7
  clear hB3 hb7
  try simp only [size_al] at hs8
  clear x4 x5
  have x11 := z9.c0
  have x12 := z9.c1
  go_wp2_with fail
  refine (szTrip_in b m d ((1048576 : Int) - (n : Int)) _ (by omega) (by omega)).mono ?_
  rintro e w13 ⟨rfl, hb14⟩
  have hs' := hb14.symm
  clear hb14
  subst hs'
  have hsz := szR p N e0 K F ((1048576 : Int) - (n : Int) - (m : Int)) _ (by omega) (by omega) (by omega) (fun i hi => by have := hK i hi; omega) (hr.below hB10)
  clear x11 x12
  have x15 := z9.c0
  have x16 := z9.c1
  go_wp2_with fail
  refine hsz.mono ?_
  rintro e w0' ⟨x, rfl, hx, hw1⟩
  have hs' := hw1.symm
  clear hw1 hsz
  subst hs'
  rcases hx with hx | ⟨hx0, hx1, -, -⟩
  case inl =>
    subst hx
    go_wp2
    go_ret
    exact ⟨rfl, hB10⟩
  have hx2 : ¬ x < 0 := by omega
  clear x15 x16
  have x17 := z9.c0
  have x18 := z9.c1
  go_wp2_with fail
  refine (toCells_any W a n c f _ hn (hf.below hB10)).mono ?_
  rintro e w19 ⟨a2, rfl, hL2, hb20⟩
  have hs21 := hb20.size
  have z22 := z9.on hb20
  clear z9
  have hB23 := stepA hB10 hb20
  clear hB10 hb20
  try simp only [size_al] at hs21
  try simp only [size_al] at hL2
  clear x17 x18
  have x24 := z22.c0
  have x25 := z22.c1
  go_wp2_with fail
  refine (toTripS_any b m d g _ hm (hg.below hB23)).mono ?_
  rintro e w26 ⟨rfl, hM2, hM2s, hb27⟩
  have hs28 := hb27.size
  have z29 := z22.on hb27
  have z30 := hL2.on hb27
  clear z22 hL2
  have hB31 := stepA hB23 hb27
  clear hB23 hb27
  try simp only [size_al] at hs28
  try simp only [size_al] at hM2 hM2s
  clear x24 x25
  have x32 := z29.c0
  have x33 := z29.c1
  go_wp2_with fail
  refine (copyR p N e0 K F _ hN hK (hr.below hB31)).mono ?_
  rintro e w34 ⟨rfl, hR2, hb35⟩
  have hs36 := hb35.size
  have z37 := z29.on hb35
  have z38 := z30.on hb35
  have z39 := hM2.on hb35
  clear z29 z30 hM2
  have hB40 := stepA hB31 hb35
  clear hB31 hb35
  try simp only [size_al] at hs36
  try simp only [size_al] at hR2
  clear x32 x33
  have x41 := z37.c0
  have x42 := z37.c1
  go_wp2_with fail
  refine (sGoodP W a2 (some ⟨w19.heap.size, 0, none⟩) (some ⟨w26.heap.size, 0, none⟩) n n m m N N f g K F _ hn hm hN hK z38.il z39.il hR2).mono ?_
  rintro e w43 ⟨q1, rfl, hq1, hb44⟩
  have hs45 := hb44.size
  have z46 := z37.on hb44
  have z47 := z38.on hb44
  have z48 := z39.on hb44
  have z49 := hR2.on hb44
  clear z37 z38 z39 hR2
  have hB50 := stepA hB40 hb44
  clear hB40 hb44
  try simp only [size_al] at hs45
  clear z47
  clear z48
  clear z49
  have HQ1 : Hid (Says q1 (GpP W n f m g N K F)) := hq1
  clear hq1
  clear x41 x42
  have x51 := z46.c0
  have x52 := z46.c1
  go_wp2_with fail
  refine (toCells_any W a n c f _ hn (hf.below hB50)).mono ?_
  rintro e w53 ⟨a4, rfl, hL4, hb54⟩
  have hs55 := hb54.size
  have z56 := z46.on hb54
  clear z46
  have hB57 := stepA hB50 hb54
  clear hB50 hb54
  try simp only [size_al] at hs55
  try simp only [size_al] at hL4
  have z58 := bx_new (b := w53.heap.size) (w := w53) [.int .i64 W, .slice a4 n n] 25 (by first | rfl | simp only [size_al])
  have hx59 : Below w53.heap.size w53 (w53.alloc (.cells #[.int .i64 W, .slice a4 n n] 25)) := (Below.refl _ _).alloc (Nat.le_refl _) _
  have z60 := z56.on hx59
  have z61 := hL4.on hx59
  clear z56 hL4
  have hB62 := stepA hB57 hx59
  clear hB57 hx59
  clear x51 x52
  have x63 := z60.c0
  have x64 := z60.c1
  have x65 := z58.c0
  have x66 := z58.c1
  go_wp2_with fail
  refine (toTripS_any b m d g _ hm (hg.below hB62)).mono ?_
  rintro e w67 ⟨rfl, hM4, hM4s, hb68⟩
  have hs69 := hb68.size
  have z70 := z60.on hb68
  have z71 := z61.on hb68
  have z72 := z58.on hb68
  clear z60 z61 z58
  have hB73 := stepA hB62 hb68
  clear hB62 hb68
  try simp only [size_al] at hs69
  try simp only [size_al] at hM4 hM4s
  clear x63 x64 x65 x66
  have x74 := z70.c0
  have x75 := z70.c1
  have x76 := z72.c0
  have x77 := z72.c1
  go_wp2_with fail
  refine (copyRc p N e0 K F _ hN hK (hr.below hB73)).mono ?_
  rintro e w78 ⟨rfl, hR4, hb79⟩
  have hs80 := hb79.size
  have z81 := z70.on hb79
  have z82 := z71.on hb79
  have z83 := z72.on hb79
  have z84 := hM4.on hb79
  clear z70 z71 z72 hM4
  have hB85 := stepA hB73 hb79
  clear hB73 hb79
  try simp only [size_al] at hs80
  try simp only [size_al] at hR4
  clear x74 x75 x76 x77
  have x86 := z81.c0
  have x87 := z81.c1
  have x88 := z83.c0
  have x89 := z83.c1
  go_wp2_with fail
  refine (hI a4 (some ⟨w53.heap.size + 1, 0, none⟩) (some ⟨w67.heap.size, 0, none⟩) n m N _ (hT.on hB85) (Nat.le_refl _) (Nat.le_refl _) z82.il z84.il hR4).mono ?_
  rintro e w90 ⟨q2, rfl, hq2, hb91⟩
  have hs92 := hb91.size
  have z93 := z81.on hb91
  have z94 := z82.on hb91
  have z95 := z83.on hb91
  have z96 := z84.on hb91
  have z97 := hR4.rr.on hb91
  clear z81 z82 z83 z84 hR4
  have hB98 := stepA hB85 hb91
  clear hB85 hb91
  try simp only [size_al] at hs92
  have hqq : q2 = q1 := hq2.uniq HQ1.out
  clear hq2 HQ1
  subst hqq
  clear x86 x87 x88 x89
  have x99 := z93.c0
  have x100 := z93.c1
  have x101 := z95.c0
  have x102 := z95.c1
  go_wp2_with fail
  have hw103 := Below.refl w90.heap.size w90
  go_region_held3 (fun w' => w'.cell? ⟨w.heap.size, 0, none⟩ = some (.int .i64 W) ∧ w'.cell? ⟨w.heap.size, 1, none⟩ = some (.slice a n c) ∧ w'.cell? ⟨w53.heap.size, 0, none⟩ = some (.int .i64 W) ∧ w'.cell? ⟨w53.heap.size, 1, none⟩ = some (.slice a4 n n))
    (first | (exact ⟨(z93.on hw103.drew).c0, (z93.on hw103.drew).c1, (z95.on hw103.drew).c0, (z95.on hw103.drew).c1⟩) | (exact ⟨(z93.on hw106).c0, (z93.on hw106).c1, (z95.on hw106).c0, (z95.on hw106).c1⟩) | (exact ⟨(z93.on hw109).c0, (z93.on hw109).c1, (z95.on hw109).c0, (z95.on hw109).c1⟩) | (fail))
    (first | (go_at_call 17; refine (toCells_any W a n c f _ hn (hf.below (stepA hB98 hw103.drew))).mono ?_; rintro e w104 ⟨a9, rfl, hL9, hb105⟩; have hw106 := stepA hw103.drew hb105; clear hb105) | (go_at_call 20; refine (eqCells_any W _ _ n _ _ f _ hn (z94.on hw106).il hL9.il).mono ?_; rintro e w107 ⟨rfl, hb108⟩; have hw109 := stepA hw106 hb108; clear hb108) | (fail))
  have hs110 := hw109.size
  try simp only [size_al] at hs110
  have z111 := z93.on hw109
  have z112 := z94.on hw109
  have z113 := z95.on hw109
  have z114 := z96.on hw109
  have z115 := z97.on hw109
  clear z93 z94 z95 z96 z97
  have hB116 := stepA hB98 hw109
  clear hB98
  clear hL9
  clear x99 x100 x101 x102
  have x117 := z111.c0
  have x118 := z111.c1
  have x119 := z113.c0
  have x120 := z113.c1
  go_wp2_with fail
  refine (toTripS_any b m d g _ hm (hg.below hB116)).mono ?_
  rintro e w121 ⟨rfl, hM6, hM6s, hb122⟩
  have hs123 := hb122.size
  have z124 := z111.on hb122
  have z125 := z112.on hb122
  have z126 := z113.on hb122
  have z127 := z114.on hb122
  have z128 := z115.on hb122
  clear z111 z112 z113 z114 z115
  have hB129 := stepA hB116 hb122
  clear hB116 hb122
  try simp only [size_al] at hs123
  try simp only [size_al] at hM6 hM6s
  clear x117 x118 x119 x120
  have x130 := z124.c0
  have x131 := z124.c1
  have x132 := z126.c0
  have x133 := z126.c1
  go_wp2_with fail
  refine (eqTripS_any (some ⟨w53.heap.size + 1, 0, none⟩) (some ⟨w107.heap.size, 0, none⟩) m m m g _ hm z127.il hM6.il).mono ?_
  rintro e w134 ⟨rfl, hb135⟩
  have hs136 := hb135.size
  have z137 := z124.on hb135
  have z138 := z125.on hb135
  have z139 := z126.on hb135
  have z140 := z127.on hb135
  have z141 := z128.on hb135
  have z142 := hM6.on hb135
  clear z124 z125 z126 z127 z128 hM6
  have hB143 := stepA hB129 hb135
  clear hB129 hb135
  try simp only [size_al] at hs136
  clear z142
  clear x130 x131 x132 x133
  have x144 := z137.c0
  have x145 := z137.c1
  have x146 := z139.c0
  have x147 := z139.c1
  go_wp2_with fail
  refine (copyR p N e0 K F _ hN hK (hr.below hB143)).mono ?_
  rintro e w148 ⟨rfl, hR6, hb149⟩
  have hs150 := hb149.size
  have z151 := z137.on hb149
  have z152 := z138.on hb149
  have z153 := z139.on hb149
  have z154 := z140.on hb149
  have z155 := z141.on hb149
  clear z137 z138 z139 z140 z141
  have hB156 := stepA hB143 hb149
  clear hB143 hb149
  try simp only [size_al] at hs150
  try simp only [size_al] at hR6
  clear x144 x145 x146 x147
  have x157 := z151.c0
  have x158 := z151.c1
  have x159 := z153.c0
  have x160 := z153.c1
  go_wp2_with fail
  refine (eqR_any (some ⟨w67.heap.size, 0, none⟩) (some ⟨w134.heap.size, 0, none⟩) N N N K F _ hN hK z155 hR6).mono ?_
  rintro e w161 ⟨rfl, hb162⟩
  have hs163 := hb162.size
  have z164 := z151.on hb162
  have z165 := z152.on hb162
  have z166 := z153.on hb162
  have z167 := z154.on hb162
  have z168 := z155.on hb162
  have z169 := hR6.on hb162
  clear z151 z152 z153 z154 z155 hR6
  have hB170 := stepA hB156 hb162
  clear hB156 hb162
  try simp only [size_al] at hs163
  clear x157 x158 x159 x160
  clear z164
  clear z165
  clear z166
  clear z167
  clear z168
  clear z169
  go_wp2
  go_ret
  exact ⟨rfl, hB170⟩
set_option maxHeartbeats 400000 in
theorem pathsLaw_long (W : Int) (a : Option Addr) (n c : Nat) (b p : Option Addr) (m d N e0 : Nat) (w : World) (h : 1048576 < n) (hn : n ≤ 9223372036854775807) :
    Calls Tryd.prog 5 #[cel W a n c, .slice b m d, .slice p N e0] w fun e w' => e = .returned (.bool true) ∧ Below w.heap.size w w' := by
  go_enter Tryd.func5, Tryd.ntmps5
  have hB0 : Below w.heap.size w (w.alloc (celO W a n c 39)) := ((Below.refl w.heap.size w).alloc (Nat.le_refl _) _)
  go_wp2_with fail
  refine (szCells_out W a n c _ h hn).mono ?_
  rintro e w1 ⟨rfl, hb1⟩
  have hB1 := stepA hB0 hb1
  go_wp2
  go_ret
  exact ⟨rfl, hB1⟩
set_option maxHeartbeats 400000 in
theorem pathsLaw_long2 (W : Int) (a b p : Option Addr) (n c m d N e0 : Nat) (w : World) (hn : n ≤ 1048576) (h : (1048576 : Int) - (n : Int) < (m : Int)) (hm : m ≤ 9223372036854775807) :
    Calls Tryd.prog 5 #[cel W a n c, .slice b m d, .slice p N e0] w fun e w' => e = .returned (.bool true) ∧ Below w.heap.size w w' := by
  have hB0 : Below w.heap.size w (w.alloc (celO W a n c 39)) := (Below.refl _ _).alloc (Nat.le_refl _) _
  have j : ¬ (1048576 : Int) - (n : Int) < 0 := by omega
  go_enter Tryd.func5, Tryd.ntmps5
  go_wp2_with fail
  refine (szCells_in W a n c _ hn).mono ?_
  rintro e w1 ⟨rfl, hb1⟩
  have hB1 := stepA hB0 hb1
  go_wp2_with fail
  refine (szTrip_out b m d ((1048576 : Int) - (n : Int)) _ h (by omega) (by omega) hm).mono ?_
  rintro e w2 ⟨rfl, hw2⟩
  have hs' := hw2.symm
  clear hw2
  subst hs'
  go_wp2
  go_ret
  exact ⟨rfl, hB1⟩
set_option maxHeartbeats 1000000 in
theorem pathsLaw_long3 (W : Int) (a b p : Option Addr) (n c m d N e0 : Nat) (K : Nat → Nat) (F : Nat → Nat → Int) (w : World) (hn : n ≤ 1048576) (hnm : (m : Int) ≤ (1048576 : Int) - (n : Int)) (hN : N ≤ 9223372036854775807) (hK : ∀ i, i < N → K i ≤ 9223372036854775807) (h : ¬ (N ≤ 1048576 ∧ ∀ i, i < N → K i ≤ 1048576)) (hr : RR w p N K F) :
    Calls Tryd.prog 5 #[cel W a n c, .slice b m d, .slice p N e0] w fun e w' => e = .returned (.bool true) ∧ Below w.heap.size w w' := by
  have hB0 : Below w.heap.size w (w.alloc (celO W a n c 39)) := (Below.refl _ _).alloc (Nat.le_refl _) _
  have j : ¬ (1048576 : Int) - (n : Int) < 0 := by omega
  have j2 : ¬ (1048576 : Int) - (n : Int) - (m : Int) < 0 := by omega
  go_enter Tryd.func5, Tryd.ntmps5
  go_wp2_with fail
  refine (szCells_in W a n c _ hn).mono ?_
  rintro e w1 ⟨rfl, hb1⟩
  have hB1 := stepA hB0 hb1
  go_wp2_with fail
  refine (szTrip_in b m d ((1048576 : Int) - (n : Int)) _ (by omega) (by omega)).mono ?_
  rintro e w2 ⟨rfl, hw2⟩
  have hs' := hw2.symm
  clear hw2
  subst hs'
  have hsz := szR p N e0 K F ((1048576 : Int) - (n : Int) - (m : Int)) w1 (by omega) (by omega) hN hK (hr.below hB1)
  go_wp2_with fail
  refine hsz.mono ?_
  rintro e w2 ⟨x, rfl, hx, hw2⟩
  have hs' := hw2.symm
  clear hw2 hsz
  subst hs'
  rcases hx with hx | ⟨-, -, h1, h2⟩
  · subst hx
    go_wp2
    go_ret
    exact ⟨rfl, hB1⟩
  · exact absurd ⟨by omega, fun i hi => by have := h2 i hi; omega⟩ h
theorem pathsAll (W : Int) (a b p : Option Addr) (n c m d N e0 : Nat) (f g : Nat → Int) (K : Nat → Nat) (F : Nat → Nat → Int) (w : World) (hn : n ≤ 9223372036854775807) (hm : m ≤ 9223372036854775807) (hN : N ≤ 9223372036854775807) (hK : ∀ i, i < N → K i ≤ 9223372036854775807) (hf : IL w a n f) (hg : IL w b (m * 2) g) (hr : RR w p N K F)
    (hT : Tab w) (hI : n ≤ 1048576 → m ≤ 1048576 → N ≤ 1048576 → (∀ i, i < N → K i ≤ 1048576) → ∀ (a b p : Option Addr) (c d e0 : Nat) (w : World), Tab w → m ≤ d → N ≤ e0 → IL w a n f → IL w b (m * 2) g → RC w p N K F → Calls Tryd.prog 10 #[cel W a n c, .slice b m d, .slice p N e0] w fun e w' => ∃ q, e = .returned (.bool q) ∧ Says q (GpP W n f m g N K F) ∧ Below w.heap.size w w') :
    Calls Tryd.prog 5 #[cel W a n c, .slice b m d, .slice p N e0] w fun e w' => e = .returned (.bool true) ∧ Below w.heap.size w w' := by
  by_cases h : n ≤ 1048576
  · by_cases h2 : (m : Int) ≤ (1048576 : Int) - (n : Int)
    · by_cases h3 : N ≤ 1048576 ∧ ∀ i, i < N → K i ≤ 1048576
      · exact pathsLaw W a b p n c m d N e0 f g K F w h h2 h3.1 h3.2 hf hg hr hT (hI h (by omega) h3.1 h3.2)
      · exact pathsLaw_long3 W a b p n c m d N e0 K F w h h2 hN hK h3 hr
    · exact pathsLaw_long2 W a b p n c m d N e0 w h (by omega) hm
  · exact pathsLaw_long W a n c b p m d N e0 w (by omega) hn
end Go.Proofs.YtbndhhjgjalecaaDoor
