/- The walk of the law on BoxWithin. -/
import Derived.Test.YtepfclngdelooabBxPair
import Derived.Test.YtepfclngdelooabBxPairI
import Derived.Deep.RegionHeld3
namespace Go.Proofs.Ytepfclngdelooab
open Go.RowKit

set_option maxHeartbeats 8000000 in
theorem withinLaw (a b a2 b2 : Option Addr) (n c m d n2 c2 m2 d2 : Nat) (f g f2 g2 : Nat → Nat) (w : World) (hsz : n + m + n2 + m2 ≤ 1048576) (hf : FS w a n f) (hg : FS w b m g) (hf2 : FS w a2 n2 f2) (hg2 : FS w b2 m2 g2) :
    Calls Try.prog 3 #[bxv a n c b m d, bxv a2 n2 c2 b2 m2 d2] w fun e w' => e = .returned (.bool true) ∧ Below w.heap.size w w' := by
  have hn : n ≤ 1048576 := by omega
  have hm : m ≤ 1048576 := by omega
  have hfb := hf.2.1
  have hgb := hg.2.1
  have hn2 : n2 ≤ 1048576 := by omega
  have hm2 : m2 ≤ 1048576 := by omega
  have hfb2 := hf2.2.1
  have hgb2 := hg2.2.1
  have j1 : ¬ (1048576 : Int) - (n : Int) - (m : Int) < 0 := by omega
  have j2 : ¬ (1048576 : Int) - (n : Int) - (m : Int) - (n2 : Int) - (m2 : Int) < 0 := by omega
  go_enter Try.func3, Try.ntmps3
  have hB0 := Below.refl w.heap.size w
  have z1 := bx_new (b := w.heap.size) (w := w) [.slice a n c, .slice b m d] 24 (by first | rfl | simp only [size_al])
  have hx2 : Below w.heap.size w (w.alloc (.cells #[.slice a n c, .slice b m d] 24)) := (Below.refl _ _).alloc (Nat.le_refl _) _
  have hB3 := stepA hB0 hx2
  clear hB0 hx2
  have z4 := bx_new (b := w.heap.size + 1) (w := (w.alloc (.cells #[.slice a n c, .slice b m d] 24))) [.slice a2 n2 c2, .slice b2 m2 d2] 24 (by first | rfl | simp only [size_al])
  have hx5 : Below (w.alloc (.cells #[.slice a n c, .slice b m d] 24)).heap.size (w.alloc (.cells #[.slice a n c, .slice b m d] 24)) ((w.alloc (.cells #[.slice a n c, .slice b m d] 24)).alloc (.cells #[.slice a2 n2 c2, .slice b2 m2 d2] 24)) := (Below.refl _ _).alloc (Nat.le_refl _) _
  have z6 := z1.on hx5
  clear z1
  have hB7 := stepA hB3 hx5
  clear hB3 hx5
  have x8 := z6.c0
  have x9 := z6.c1
  have x10 := z4.c0
  have x11 := z4.c1
  go_wp2_with fail
  refine (szBox_in a b n c m d 1048576 _ (by omega) (by omega)).mono ?_
  rintro e w12 ⟨rfl, hb13⟩
  have hs14 := hb13.size
  have z15 := z6.on hb13
  have z16 := z4.on hb13
  clear z6 z4
  have hB17 := stepA hB7 hb13
  clear hB7 hb13
  try simp only [size_al] at hs14
  clear x8 x9 x10 x11
  have x18 := z15.c0
  have x19 := z15.c1
  have x20 := z16.c0
  have x21 := z16.c1
  go_wp2_with fail
  refine (szBox_in a2 b2 n2 c2 m2 d2 (1048576 - (n : Int) - (m : Int)) _ (by omega) (by omega)).mono ?_
  rintro e w22 ⟨rfl, hb23⟩
  have hs24 := hb23.size
  have z25 := z15.on hb23
  have z26 := z16.on hb23
  clear z15 z16
  have hB27 := stepA hB17 hb23
  clear hB17 hb23
  try simp only [size_al] at hs24
  clear x18 x19 x20 x21
  have x28 := z25.c0
  have x29 := z25.c1
  have x30 := z26.c0
  have x31 := z26.c1
  go_wp2_with fail
  have hw32 := Below.refl w22.heap.size w22
  go_region_held3 (fun w' => w'.cell? ⟨w.heap.size, 0, none⟩ = some (.slice a n c) ∧ w'.cell? ⟨w.heap.size, 1, none⟩ = some (.slice b m d) ∧ w'.cell? ⟨w.heap.size + 1, 0, none⟩ = some (.slice a2 n2 c2) ∧ w'.cell? ⟨w.heap.size + 1, 1, none⟩ = some (.slice b2 m2 d2))
    (first | (exact ⟨(z25.on hw32.drew).c0, (z25.on hw32.drew).c1, (z26.on hw32.drew).c0, (z26.on hw32.drew).c1⟩) | (exact ⟨(z25.on hw35).c0, (z25.on hw35).c1, (z26.on hw35).c0, (z26.on hw35).c1⟩) | (exact ⟨(z25.on hw38).c0, (z25.on hw38).c1, (z26.on hw38).c0, (z26.on hw38).c1⟩) | (exact ⟨(z25.on hw41).c0, (z25.on hw41).c1, (z26.on hw41).c0, (z26.on hw41).c1⟩) | (fail))
    (first | (go_at_call_of 6 a; refine (toBox_any a b n c m d f g _ (hf.below (stepA hB27 (hw32.drew))) (hg.below (stepA hB27 (hw32.drew)))).mono ?_; rintro e w33 ⟨p1, p2, rfl, hP, hb34⟩; have hw35 := stepA hw32.drew hb34; clear hb34) | (go_at_call_of 6 a2; refine (toBox_any a2 b2 n2 c2 m2 d2 f2 g2 _ (hf2.below (stepA hB27 (hw35))) (hg2.below (stepA hB27 (hw35)))).mono ?_; rintro e w36 ⟨q1, q2, rfl, hQ, hb37⟩; have hw38 := stepA hw35 hb37; have hP := hP.on hb37; clear hb37) | (go_at_call 5; refine (specBoxWithin _ _ _ _ n _ m _ n2 _ m2 _ f g f2 g2 _ (hP.fl1.fs hn hfb) (hP.fl2.fs hm hgb) (hQ.fl1.fs hn2 hfb2) (hQ.fl2.fs hm2 hgb2)).mono ?_; rintro e w39 ⟨rfl, hb40⟩; have hw41 := stepA hw38 hb40; clear hb40) | (fail))
  have hs42 := hw41.size
  try simp only [size_al] at hs42
  have z43 := z25.on hw41
  have z44 := z26.on hw41
  clear z25 z26
  have hB45 := stepA hB27 hw41
  clear hB27
  clear hP hQ
  generalize hq : withinB n f m g n2 f2 m2 g2 = q
  clear x28 x29 x30 x31
  have x46 := z43.c0
  have x47 := z43.c1
  have x48 := z44.c0
  have x49 := z44.c1
  go_wp2_with fail
  refine (toBox_any a b n c m d f g _ (hf.below hB45) (hg.below hB45)).mono ?_
  rintro e w50 ⟨a4, b4, rfl, hL4, hb51⟩
  have hs52 := hb51.size
  have z53 := z43.on hb51
  have z54 := z44.on hb51
  clear z43 z44
  have hB55 := stepA hB45 hb51
  clear hB45 hb51
  try simp only [size_al] at hs52
  try simp only [size_al] at hL4
  have z56 := bx_new (b := w50.heap.size) (w := w50) [.slice a4 n n, .slice b4 m m] 27 (by first | rfl | simp only [size_al])
  have hx57 : Below w50.heap.size w50 (w50.alloc (.cells #[.slice a4 n n, .slice b4 m m] 27)) := (Below.refl _ _).alloc (Nat.le_refl _) _
  have z58 := z53.on hx57
  have z59 := z54.on hx57
  have z60 := hL4.on hx57
  clear z53 z54 hL4
  have hB61 := stepA hB55 hx57
  clear hB55 hx57
  clear x46 x47 x48 x49
  have x62 := z58.c0
  have x63 := z58.c1
  have x64 := z59.c0
  have x65 := z59.c1
  have x66 := z56.c0
  have x67 := z56.c1
  go_wp2_with fail
  refine (toBox_any a2 b2 n2 c2 m2 d2 f2 g2 _ (hf2.below hB61) (hg2.below hB61)).mono ?_
  rintro e w68 ⟨a5, b5, rfl, hL5, hb69⟩
  have hs70 := hb69.size
  have z71 := z58.on hb69
  have z72 := z59.on hb69
  have z73 := z60.on hb69
  have z74 := z56.on hb69
  clear z58 z59 z60 z56
  have hB75 := stepA hB61 hb69
  clear hB61 hb69
  try simp only [size_al] at hs70
  try simp only [size_al] at hL5
  have z76 := bx_new (b := w68.heap.size) (w := w68) [.slice a5 n2 n2, .slice b5 m2 m2] 27 (by first | rfl | simp only [size_al])
  have hx77 : Below w68.heap.size w68 (w68.alloc (.cells #[.slice a5 n2 n2, .slice b5 m2 m2] 27)) := (Below.refl _ _).alloc (Nat.le_refl _) _
  have z78 := z71.on hx77
  have z79 := z72.on hx77
  have z80 := z73.on hx77
  have z81 := z74.on hx77
  have z82 := hL5.on hx77
  clear z71 z72 z73 z74 hL5
  have hB83 := stepA hB75 hx77
  clear hB75 hx77
  clear x62 x63 x64 x65 x66 x67
  have x84 := z78.c0
  have x85 := z78.c1
  have x86 := z79.c0
  have x87 := z79.c1
  have x88 := z81.c0
  have x89 := z81.c1
  have x90 := z76.c0
  have x91 := z76.c1
  go_wp2_with fail
  refine (implBoxWithin a4 b4 a5 b5 n n m m n2 n2 m2 m2 f g f2 g2 _ (z80.fl1.fs hn hfb) (z80.fl2.fs hm hgb) (z82.fl1.fs hn2 hfb2) (z82.fl2.fs hm2 hgb2)).mono ?_
  rintro e w92 ⟨rfl, hb93⟩
  have hs94 := hb93.size
  have z95 := z78.on hb93
  have z96 := z79.on hb93
  have z97 := z80.on hb93
  have z98 := z81.on hb93
  have z99 := z82.on hb93
  have z100 := z76.on hb93
  clear z78 z79 z80 z81 z82 z76
  have hB101 := stepA hB83 hb93
  clear hB83 hb93
  try simp only [size_al] at hs94
  rw [hq]
  clear hq
  clear x84 x85 x86 x87 x88 x89 x90 x91
  have x102 := z95.c0
  have x103 := z95.c1
  have x104 := z96.c0
  have x105 := z96.c1
  have x106 := z98.c0
  have x107 := z98.c1
  have x108 := z100.c0
  have x109 := z100.c1
  go_wp2_with fail
  have hw110 := Below.refl w92.heap.size w92
  go_region_held3 (fun w' => w'.cell? ⟨w.heap.size, 0, none⟩ = some (.slice a n c) ∧ w'.cell? ⟨w.heap.size, 1, none⟩ = some (.slice b m d) ∧ w'.cell? ⟨w50.heap.size, 0, none⟩ = some (.slice a4 n n) ∧ w'.cell? ⟨w50.heap.size, 1, none⟩ = some (.slice b4 m m))
    (first | (exact ⟨(z95.on hw110.drew).c0, (z95.on hw110.drew).c1, (z98.on hw110.drew).c0, (z98.on hw110.drew).c1⟩) | (exact ⟨(z95.on hw113).c0, (z95.on hw113).c1, (z98.on hw113).c0, (z98.on hw113).c1⟩) | (exact ⟨(z95.on hw116).c0, (z95.on hw116).c1, (z98.on hw116).c0, (z98.on hw116).c1⟩) | (fail))
    (first | (go_at_call 6; refine (toBox_any a b n c m d f g _ (hf.below (stepA hB101 (hw110.drew))) (hg.below (stepA hB101 (hw110.drew)))).mono ?_; rintro e w111 ⟨r16, r26, rfl, hR6, hb112⟩; have hw113 := stepA hw110.drew hb112; clear hb112) | (go_at_call 8; refine (eqBox_any _ _ _ _ n _ m _ _ _ f g _ ((z97.on (hw113)).fl1.fs hn hfb) ((z97.on (hw113)).fl2.fs hm hgb) (hR6.fl1.fs hn hfb) (hR6.fl2.fs hm hgb)).mono ?_; rintro e w114 ⟨rfl, hb115⟩; have hw116 := stepA hw113 hb115; clear hb115) | (fail))
  have hs117 := hw116.size
  try simp only [size_al] at hs117
  have z118 := z95.on hw116
  have z119 := z96.on hw116
  have z120 := z97.on hw116
  have z121 := z98.on hw116
  have z122 := z99.on hw116
  have z123 := z100.on hw116
  clear z95 z96 z97 z98 z99 z100
  have hB124 := stepA hB101 hw116
  clear hB101
  clear hR6
  clear x102 x103 x104 x105 x106 x107 x108 x109
  have x125 := z118.c0
  have x126 := z118.c1
  have x127 := z119.c0
  have x128 := z119.c1
  have x129 := z121.c0
  have x130 := z121.c1
  have x131 := z123.c0
  have x132 := z123.c1
  go_wp2_with fail
  have hw133 := Below.refl w114.heap.size w114
  go_region_held3 (fun w' => w'.cell? ⟨w.heap.size + 1, 0, none⟩ = some (.slice a2 n2 c2) ∧ w'.cell? ⟨w.heap.size + 1, 1, none⟩ = some (.slice b2 m2 d2) ∧ w'.cell? ⟨w68.heap.size, 0, none⟩ = some (.slice a5 n2 n2) ∧ w'.cell? ⟨w68.heap.size, 1, none⟩ = some (.slice b5 m2 m2))
    (first | (exact ⟨(z119.on hw133.drew).c0, (z119.on hw133.drew).c1, (z123.on hw133.drew).c0, (z123.on hw133.drew).c1⟩) | (exact ⟨(z119.on hw136).c0, (z119.on hw136).c1, (z123.on hw136).c0, (z123.on hw136).c1⟩) | (exact ⟨(z119.on hw139).c0, (z119.on hw139).c1, (z123.on hw139).c0, (z123.on hw139).c1⟩) | (fail))
    (first | (go_at_call 6; refine (toBox_any a2 b2 n2 c2 m2 d2 f2 g2 _ (hf2.below (stepA hB124 (hw133.drew))) (hg2.below (stepA hB124 (hw133.drew)))).mono ?_; rintro e w134 ⟨r17, r27, rfl, hR7, hb135⟩; have hw136 := stepA hw133.drew hb135; clear hb135) | (go_at_call 8; refine (eqBox_any _ _ _ _ n2 _ m2 _ _ _ f2 g2 _ ((z122.on (hw136)).fl1.fs hn2 hfb2) ((z122.on (hw136)).fl2.fs hm2 hgb2) (hR7.fl1.fs hn2 hfb2) (hR7.fl2.fs hm2 hgb2)).mono ?_; rintro e w137 ⟨rfl, hb138⟩; have hw139 := stepA hw136 hb138; clear hb138) | (fail))
  have hs140 := hw139.size
  try simp only [size_al] at hs140
  have z141 := z118.on hw139
  have z142 := z119.on hw139
  have z143 := z120.on hw139
  have z144 := z121.on hw139
  have z145 := z122.on hw139
  have z146 := z123.on hw139
  clear z118 z119 z120 z121 z122 z123
  have hB147 := stepA hB124 hw139
  clear hB124
  clear hR7
  clear x125 x126 x127 x128 x129 x130 x131 x132
  clear z141
  clear z142
  clear z143
  clear z144
  clear z145
  clear z146
  go_wp2
  go_ret
  exact ⟨rfl, hB147⟩
set_option maxHeartbeats 1000000 in
theorem withinLaw_long (a b a2 b2 : Option Addr) (n c m d n2 c2 m2 d2 : Nat) (w : World) (h : 1048576 < n + m + n2 + m2) (hn : n ≤ 9223372036854775807) (hm : m ≤ 9223372036854775807) (hn2 : n2 ≤ 9223372036854775807) (hm2 : m2 ≤ 9223372036854775807) :
    Calls Try.prog 3 #[bxv a n c b m d, bxv a2 n2 c2 b2 m2 d2] w fun e w' => e = .returned (.bool true) ∧ Below w.heap.size w w' := by
  have z1 := (bx_new (w := w) (bxL a n c b m d) 24 rfl).alloc (bxO a2 n2 c2 b2 m2 d2 24)
  have z2 := bx_new (w := w.alloc (bxO a n c b m d 24)) (b := w.heap.size + 1) (bxL a2 n2 c2 b2 m2 d2) 24 (by simp)
  have hB0 : Below w.heap.size w ((w.alloc (bxO a n c b m d 24)).alloc (bxO a2 n2 c2 b2 m2 d2 24)) := ((Below.refl _ _).alloc (Nat.le_refl _) _).alloc (by simp) _
  have x0 := z1.c0
  have x1 := z1.c1
  by_cases h1 : 1048576 < n + m
  · go_enter Try.func3, Try.ntmps3
    go_wp2_with fail
    refine (szBox_out a b n c m d 1048576 _ (by omega) (by omega) (by omega) hn hm).mono ?_
    rintro e w1 ⟨rfl, hb1⟩
    have hB1 := stepA hB0 hb1
    go_wp2
    go_ret
    exact ⟨rfl, hB1⟩
  · have j1 : ¬ (1048576 : Int) - (n : Int) - (m : Int) < 0 := by omega
    go_enter Try.func3, Try.ntmps3
    go_wp2_with fail
    refine (szBox_in a b n c m d 1048576 _ (by omega) (by omega)).mono ?_
    rintro e w1 ⟨rfl, hb1⟩
    have hB1 := stepA hB0 hb1
    have y0 := (z2.on hb1).c0
    have y1 := (z2.on hb1).c1
    clear x0 x1 hb1
    go_wp2_with fail
    refine (szBox_out a2 b2 n2 c2 m2 d2 (1048576 - (n : Int) - (m : Int)) _ (by omega) (by omega) (by omega) hn2 hm2).mono ?_
    rintro e w2 ⟨rfl, hb2⟩
    have hB2 := stepA hB1 hb2
    go_wp2
    go_ret
    exact ⟨rfl, hB2⟩
theorem withinLawAll (a b a2 b2 : Option Addr) (n c m d n2 c2 m2 d2 : Nat) (f g f2 g2 : Nat → Nat) (w : World) (hn : n ≤ 9223372036854775807) (hm : m ≤ 9223372036854775807) (hn2 : n2 ≤ 9223372036854775807) (hm2 : m2 ≤ 9223372036854775807) (hf : n ≤ 1048576 → FS w a n f) (hg : m ≤ 1048576 → FS w b m g) (hf2 : n2 ≤ 1048576 → FS w a2 n2 f2) (hg2 : m2 ≤ 1048576 → FS w b2 m2 g2) :
    Calls Try.prog 3 #[bxv a n c b m d, bxv a2 n2 c2 b2 m2 d2] w fun e w' => e = .returned (.bool true) ∧ Below w.heap.size w w' := by
  by_cases h : n + m + n2 + m2 ≤ 1048576
  · exact withinLaw a b a2 b2 n c m d n2 c2 m2 d2 f g f2 g2 w h (hf (by omega)) (hg (by omega)) (hf2 (by omega)) (hg2 (by omega))
  · exact withinLaw_long a b a2 b2 n c m d n2 c2 m2 d2 w (by omega) hn hm hn2 hm2
end Go.Proofs.Ytepfclngdelooab
