/- The walk of the law on GoodTrips. -/
import Derived.Test.YtbndhhjgjalecaaCwGtS
import Derived.Test.YtbndhhjgjalecaaCwTrip
import Derived.Test.YtbndhhjgjalecaaClBase
namespace Go.Proofs.Ytbndhhjgjalecaa
open Go.RowKit
set_option maxHeartbeats 4000000 in
theorem tripsLaw (W : Int) (a b : Option Addr) (n c m d : Nat) (f g : Nat → Int) (w : World) (hn : n ≤ 1048576) (hnm : (m : Int) ≤ (1048576 : Int) - (n : Int)) (hf : IL w a n f) (hg : IL w b (m * 2) g)
    (hI : ∀ (a b : Option Addr) (c d : Nat) (w : World), m ≤ d → IL w a n f → IL w b (m * 2) g → Calls Try.prog 10 #[cel W a n c, .slice b m d] w fun e w' => e = .returned (.bool (gtB W n f m g)) ∧ Below w.heap.size w w') :
    Calls Try.prog 3 #[cel W a n c, .slice b m d] w fun e w' => e = .returned (.bool true) ∧ Below w.heap.size w w' := by
  have j : ¬ (1048576 : Int) - (n : Int) < 0 := by omega
  have j2 : ¬ (1048576 : Int) - (n : Int) - (m : Int) < 0 := by omega
  have hm : m ≤ 1048576 := by omega
  go_enter Try.func3, Try.ntmps3
  have hB0 := Below.refl w.heap.size w
  have z1 := bx_new (b := w.heap.size) (w := w) [.int .i64 W, .slice a n c] 24 (by first | rfl | simp only [size_al])
  have hx2 : Below w.heap.size w (w.alloc (.cells #[.int .i64 W, .slice a n c] 24)) := (Below.refl _ _).alloc (Nat.le_refl _) _
  have hB3 := stepA hB0 hx2
  clear hB0 hx2
  have x4 := z1.c0
  have x5 := z1.c1
  go_wp2_with fail
  refine (szCells_in W a n c _ hn).mono ?_
  rintro e w6 ⟨rfl, hb7⟩
  have hs8 := hb7.size
  have z9 := z1.on hb7
  clear z1
  have hB10 := stepA hB3 hb7
  clear hB3 hb7
  try simp only [size_al] at hs8
  clear x4 x5
  have x11 := z9.c0
  have x12 := z9.c1
  go_wp2_with fail
  refine (szTrip_in b m d ((1048576 : Int) - (n : Int)) _ (by omega) (by omega)).mono ?_
  rintro e w13 ⟨rfl, hb14⟩
  have hs' := hb14.symm
  clear hb14
  subst hs'
  clear x11 x12
  have x15 := z9.c0
  have x16 := z9.c1
  go_wp2_with fail
  refine (toCells_any W a n c f _ hn (hf.below hB10)).mono ?_
  rintro e w17 ⟨a2, rfl, hL2, hb18⟩
  have hs19 := hb18.size
  have z20 := z9.on hb18
  clear z9
  have hB21 := stepA hB10 hb18
  clear hB10 hb18
  try simp only [size_al] at hs19
  try simp only [size_al] at hL2
  clear x15 x16
  have x22 := z20.c0
  have x23 := z20.c1
  go_wp2_with fail
  refine (toTripS_any b m d g _ hm (hg.below hB21)).mono ?_
  rintro e w24 ⟨rfl, hM2, hM2s, hb25⟩
  have hs26 := hb25.size
  have z27 := z20.on hb25
  have z28 := hL2.on hb25
  clear z20 hL2
  have hB29 := stepA hB21 hb25
  clear hB21 hb25
  try simp only [size_al] at hs26
  try simp only [size_al] at hM2 hM2s
  clear x22 x23
  have x30 := z27.c0
  have x31 := z27.c1
  go_wp2_with fail
  refine (sGoodTrips W a2 (some ⟨w17.heap.size, 0, none⟩) n n m m f g _ hn hm z28.il hM2.il).mono ?_
  rintro e w32 ⟨rfl, hb33⟩
  have hs34 := hb33.size
  have z35 := z27.on hb33
  have z36 := z28.on hb33
  have z37 := hM2.on hb33
  clear z27 z28 hM2
  have hB38 := stepA hB29 hb33
  clear hB29 hb33
  try simp only [size_al] at hs34
  clear z36
  clear z37
  generalize hq : gtB W n f m g = q at hI
  clear hq
  clear x30 x31
  have x39 := z35.c0
  have x40 := z35.c1
  go_wp2_with fail
  refine (toCells_any W a n c f _ hn (hf.below hB38)).mono ?_
  rintro e w41 ⟨a4, rfl, hL4, hb42⟩
  have hs43 := hb42.size
  have z44 := z35.on hb42
  clear z35
  have hB45 := stepA hB38 hb42
  clear hB38 hb42
  try simp only [size_al] at hs43
  try simp only [size_al] at hL4
  have z46 := bx_new (b := w41.heap.size) (w := w41) [.int .i64 W, .slice a4 n n] 29 (by first | rfl | simp only [size_al])
  have hx47 : Below w41.heap.size w41 (w41.alloc (.cells #[.int .i64 W, .slice a4 n n] 29)) := (Below.refl _ _).alloc (Nat.le_refl _) _
  have z48 := z44.on hx47
  have z49 := hL4.on hx47
  clear z44 hL4
  have hB50 := stepA hB45 hx47
  clear hB45 hx47
  clear x39 x40
  have x51 := z48.c0
  have x52 := z48.c1
  have x53 := z46.c0
  have x54 := z46.c1
  go_wp2_with fail
  refine (toTripS_any b m d g _ hm (hg.below hB50)).mono ?_
  rintro e w55 ⟨rfl, hM4, hM4s, hb56⟩
  have hs57 := hb56.size
  have z58 := z48.on hb56
  have z59 := z49.on hb56
  have z60 := z46.on hb56
  clear z48 z49 z46
  have hB61 := stepA hB50 hb56
  clear hB50 hb56
  try simp only [size_al] at hs57
  try simp only [size_al] at hM4 hM4s
  clear x51 x52 x53 x54
  have x62 := z58.c0
  have x63 := z58.c1
  have x64 := z60.c0
  have x65 := z60.c1
  go_wp2_with fail
  refine (hI a4 (some ⟨w41.heap.size + 1, 0, none⟩) n m _ (Nat.le_refl _) z59.il hM4.il).mono ?_
  rintro e w66 ⟨rfl, hb67⟩
  have hs68 := hb67.size
  have z69 := z58.on hb67
  have z70 := z59.on hb67
  have z71 := z60.on hb67
  have z72 := hM4.on hb67
  clear z58 z59 z60 hM4
  have hB73 := stepA hB61 hb67
  clear hB61 hb67
  try simp only [size_al] at hs68
  clear x62 x63 x64 x65
  have x74 := z69.c0
  have x75 := z69.c1
  have x76 := z71.c0
  have x77 := z71.c1
  go_wp2_with fail
  have hw78 := Below.refl w66.heap.size w66
  go_region_held3 (fun w' => w'.cell? ⟨w.heap.size, 0, none⟩ = some (.int .i64 W) ∧ w'.cell? ⟨w.heap.size, 1, none⟩ = some (.slice a n c) ∧ w'.cell? ⟨w41.heap.size, 0, none⟩ = some (.int .i64 W) ∧ w'.cell? ⟨w41.heap.size, 1, none⟩ = some (.slice a4 n n))
    (first | (exact ⟨(z69.on hw78.drew).c0, (z69.on hw78.drew).c1, (z71.on hw78.drew).c0, (z71.on hw78.drew).c1⟩) | (exact ⟨(z69.on hw81).c0, (z69.on hw81).c1, (z71.on hw81).c0, (z71.on hw81).c1⟩) | (exact ⟨(z69.on hw84).c0, (z69.on hw84).c1, (z71.on hw84).c0, (z71.on hw84).c1⟩) | (fail))
    (first | (go_at_call 8; refine (toCells_any W a n c f _ hn (hf.below (stepA hB73 hw78.drew))).mono ?_; rintro e w79 ⟨a9, rfl, hL9, hb80⟩; have hw81 := stepA hw78.drew hb80; clear hb80) | (go_at_call 11; refine (eqCells_any W _ _ n _ _ f _ hn (z70.on hw81).il hL9.il).mono ?_; rintro e w82 ⟨rfl, hb83⟩; have hw84 := stepA hw81 hb83; clear hb83) | (fail))
  have hs85 := hw84.size
  try simp only [size_al] at hs85
  have z86 := z69.on hw84
  have z87 := z70.on hw84
  have z88 := z71.on hw84
  have z89 := z72.on hw84
  clear z69 z70 z71 z72
  have hB90 := stepA hB73 hw84
  clear hB73
  clear hL9
  clear x74 x75 x76 x77
  have x91 := z86.c0
  have x92 := z86.c1
  have x93 := z88.c0
  have x94 := z88.c1
  go_wp2_with fail
  refine (toTripS_any b m d g _ hm (hg.below hB90)).mono ?_
  rintro e w95 ⟨rfl, hM6, hM6s, hb96⟩
  have hs97 := hb96.size
  have z98 := z86.on hb96
  have z99 := z87.on hb96
  have z100 := z88.on hb96
  have z101 := z89.on hb96
  clear z86 z87 z88 z89
  have hB102 := stepA hB90 hb96
  clear hB90 hb96
  try simp only [size_al] at hs97
  try simp only [size_al] at hM6 hM6s
  clear x91 x92 x93 x94
  have x103 := z98.c0
  have x104 := z98.c1
  have x105 := z100.c0
  have x106 := z100.c1
  go_wp2_with fail
  refine (eqTripS_any (some ⟨w41.heap.size + 1, 0, none⟩) (some ⟨w82.heap.size, 0, none⟩) m m m g _ hm z101.il hM6.il).mono ?_
  rintro e w107 ⟨rfl, hb108⟩
  have hs109 := hb108.size
  have z110 := z98.on hb108
  have z111 := z99.on hb108
  have z112 := z100.on hb108
  have z113 := z101.on hb108
  have z114 := hM6.on hb108
  clear z98 z99 z100 z101 hM6
  have hB115 := stepA hB102 hb108
  clear hB102 hb108
  try simp only [size_al] at hs109
  clear z114
  clear x103 x104 x105 x106
  clear z110
  clear z111
  clear z112
  clear z113
  go_wp2
  go_ret
  exact ⟨rfl, hB115⟩
set_option maxHeartbeats 400000 in
theorem tripsLaw_long (W : Int) (a : Option Addr) (n c : Nat) (b : Option Addr) (m d : Nat) (w : World) (h : 1048576 < n) (hn : n ≤ 9223372036854775807) :
    Calls Try.prog 3 #[cel W a n c, .slice b m d] w fun e w' => e = .returned (.bool true) ∧ Below w.heap.size w w' := by
  go_enter Try.func3, Try.ntmps3
  have hB0 : Below w.heap.size w (w.alloc (celO W a n c 24)) := ((Below.refl w.heap.size w).alloc (Nat.le_refl _) _)
  go_wp2_with fail
  refine (szCells_out W a n c _ h hn).mono ?_
  rintro e w1 ⟨rfl, hb1⟩
  have hB1 := stepA hB0 hb1
  go_wp2
  go_ret
  exact ⟨rfl, hB1⟩
set_option maxHeartbeats 400000 in
theorem tripsLaw_long2 (W : Int) (a b : Option Addr) (n c m d : Nat) (w : World) (hn : n ≤ 1048576) (h : (1048576 : Int) - (n : Int) < (m : Int)) (hm : m ≤ 9223372036854775807) :
    Calls Try.prog 3 #[cel W a n c, .slice b m d] w fun e w' => e = .returned (.bool true) ∧ Below w.heap.size w w' := by
  have hB0 : Below w.heap.size w (w.alloc (celO W a n c 24)) := (Below.refl _ _).alloc (Nat.le_refl _) _
  have j : ¬ (1048576 : Int) - (n : Int) < 0 := by omega
  go_enter Try.func3, Try.ntmps3
  go_wp2_with fail
  refine (szCells_in W a n c _ hn).mono ?_
  rintro e w1 ⟨rfl, hb1⟩
  have hB1 := stepA hB0 hb1
  go_wp2_with fail
  refine (szTrip_out b m d ((1048576 : Int) - (n : Int)) _ h (by omega) (by omega) hm).mono ?_
  rintro e w2 ⟨rfl, hw2⟩
  have hs' := hw2.symm
  clear hw2
  subst hs'
  go_wp2
  go_ret
  exact ⟨rfl, hB1⟩
theorem tripsAll (W : Int) (a b : Option Addr) (n c m d : Nat) (f g : Nat → Int) (w : World) (hn : n ≤ 9223372036854775807) (hm : m ≤ 9223372036854775807) (hf : IL w a n f) (hg : IL w b (m * 2) g)
    (hI : n ≤ 1048576 → m ≤ 1048576 → ∀ (a b : Option Addr) (c d : Nat) (w : World), m ≤ d → IL w a n f → IL w b (m * 2) g → Calls Try.prog 10 #[cel W a n c, .slice b m d] w fun e w' => e = .returned (.bool (gtB W n f m g)) ∧ Below w.heap.size w w') :
    Calls Try.prog 3 #[cel W a n c, .slice b m d] w fun e w' => e = .returned (.bool true) ∧ Below w.heap.size w w' := by
  by_cases h : n ≤ 1048576
  · by_cases h2 : (m : Int) ≤ (1048576 : Int) - (n : Int)
    · exact tripsLaw W a b n c m d f g w h h2 hf hg (hI h (by omega))
    · exact tripsLaw_long2 W a b n c m d w h (by omega) hm
  · exact tripsLaw_long W a n c b m d w (by omega) hn
end Go.Proofs.Ytbndhhjgjalecaa
