/- The walk of the law on AloneTicks. -/
import Derived.Test.YtbndhhjgjalecaaDoorCwAlS
import Derived.Test.YtbndhhjgjalecaaDoorClBase
import Derived.Test.YtbndhhjgjalecaaDoorClKind
namespace Go.Proofs.YtbndhhjgjalecaaDoor
open Go.RowKit
set_option maxHeartbeats 4000000 in
theorem aloneLaw (W : Int) (a : Option Addr) (n c : Nat) (f : Nat → Int) (s t : Int) (w : World) (hn : n ≤ 1048576) (hf : IL w a n f)
    (hT : Tab w) (hI : ∀ (a : Option Addr) (c : Nat) (w : World), Tab w → IL w a n f → Calls Tryd.prog 12 #[cel W a n c, tpv s t] w fun e w' => ∃ d, e = .returned (.int .i64 d) ∧ AlnIs W n f s t d ∧ Below w.heap.size w w') :
    Calls Tryd.prog 6 #[cel W a n c, tpv s t] w fun e w' => e = .returned (.bool true) ∧ Below w.heap.size w w' := by
  have j : ¬ (1048576 : Int) - (n : Int) < 0 := by omega
  go_enter Tryd.func6, Tryd.ntmps6
  have hB0 := Below.refl w.heap.size w
  have z1 := bx_new (b := w.heap.size) (w := w) [.int .i64 W, .slice a n c] 39 (by first | rfl | simp only [size_al])
  have hx2 : Below w.heap.size w (w.alloc (.cells #[.int .i64 W, .slice a n c] 39)) := (Below.refl _ _).alloc (Nat.le_refl _) _
  have hB3 := stepA hB0 hx2
  clear hB0 hx2
  have z4 := bx_new (b := w.heap.size + 1) (w := (w.alloc (.cells #[.int .i64 W, .slice a n c] 39))) [.int .i64 s, .int .i64 t] 54 (by first | rfl | simp only [size_al])
  have hx5 : Below (w.alloc (.cells #[.int .i64 W, .slice a n c] 39)).heap.size (w.alloc (.cells #[.int .i64 W, .slice a n c] 39)) ((w.alloc (.cells #[.int .i64 W, .slice a n c] 39)).alloc (.cells #[.int .i64 s, .int .i64 t] 54)) := (Below.refl _ _).alloc (Nat.le_refl _) _
  have z6 := z1.on hx5
  clear z1
  have hB7 := stepA hB3 hx5
  clear hB3 hx5
  have x8 := z6.c0
  have x9 := z6.c1
  have x10 := z4.c0
  have x11 := z4.c1
  go_wp2_with fail
  refine (szCells_in W a n c _ hn).mono ?_
  rintro e w12 ⟨rfl, hb13⟩
  have hs14 := hb13.size
  have z15 := z6.on hb13
  have z16 := z4.on hb13
  clear z6 z4
  have hB17 := stepA hB7 hb13
  clear hB7 hb13
  try simp only [size_al] at hs14
  clear x8 x9 x10 x11
  have x18 := z15.c0
  have x19 := z15.c1
  have x20 := z16.c0
  have x21 := z16.c1
  go_wp2_with fail
  have hw22 := Below.refl w12.heap.size w12
  go_region_held3 (fun w' => w'.cell? ⟨w.heap.size, 0, none⟩ = some (.int .i64 W) ∧ w'.cell? ⟨w.heap.size, 1, none⟩ = some (.slice a n c) ∧ w'.cell? ⟨w.heap.size + 1, 0, none⟩ = some (.int .i64 s) ∧ w'.cell? ⟨w.heap.size + 1, 1, none⟩ = some (.int .i64 t))
    (first | (exact ⟨(z15.on hw22.drew).c0, (z15.on hw22.drew).c1, (z16.on hw22.drew).c0, (z16.on hw22.drew).c1⟩) | (exact ⟨(z15.on hw25).c0, (z15.on hw25).c1, (z16.on hw25).c0, (z16.on hw25).c1⟩) | (exact ⟨(z15.on hw28).c0, (z15.on hw28).c1, (z16.on hw28).c0, (z16.on hw28).c1⟩) | (exact ⟨(z15.on hw31).c0, (z15.on hw31).c1, (z16.on hw31).c0, (z16.on hw31).c1⟩) | (fail))
    (first | (go_at_call 17; refine (toCells_any W a n c f _ hn (hf.below (stepA hB17 hw22.drew))).mono ?_; rintro e w23 ⟨a9, rfl, hL9, hb24⟩; have hw25 := stepA hw22.drew hb24; clear hb24) | (go_at_call 29; refine (toTrip_any s t _).mono ?_; rintro e w26 ⟨rfl, hb27⟩; have hL8 := hL9.on hb27; have hw28 := stepA hw25 hb27; clear hb27) | (go_at_call 28; refine (sAlone W a9 n n f s t _ hn hL8.il).mono ?_; rintro e w29 ⟨d1, rfl, hd1, hb30⟩; have hw31 := stepA hw28 hb30; clear hb30) | (fail))
  have hs32 := hw31.size
  try simp only [size_al] at hs32
  have z33 := z15.on hw31
  have z34 := z16.on hw31
  clear z15 z16
  have hB35 := stepA hB17 hw31
  clear hB17
  clear hL9 hL8
  have HD1 : Hid (AlnIs W n f s t d1) := hd1
  clear hd1
  clear x18 x19 x20 x21
  have x36 := z33.c0
  have x37 := z33.c1
  have x38 := z34.c0
  have x39 := z34.c1
  go_wp2_with fail
  refine (toCells_any W a n c f _ hn (hf.below hB35)).mono ?_
  rintro e w40 ⟨a4, rfl, hL4, hb41⟩
  have hs42 := hb41.size
  have z43 := z33.on hb41
  have z44 := z34.on hb41
  clear z33 z34
  have hB45 := stepA hB35 hb41
  clear hB35 hb41
  try simp only [size_al] at hs42
  try simp only [size_al] at hL4
  have z46 := bx_new (b := w40.heap.size) (w := w40) [.int .i64 W, .slice a4 n n] 25 (by first | rfl | simp only [size_al])
  have hx47 : Below w40.heap.size w40 (w40.alloc (.cells #[.int .i64 W, .slice a4 n n] 25)) := (Below.refl _ _).alloc (Nat.le_refl _) _
  have z48 := z43.on hx47
  have z49 := z44.on hx47
  have z50 := hL4.on hx47
  clear z43 z44 hL4
  have hB51 := stepA hB45 hx47
  clear hB45 hx47
  clear x36 x37 x38 x39
  have x52 := z48.c0
  have x53 := z48.c1
  have x54 := z49.c0
  have x55 := z49.c1
  have x56 := z46.c0
  have x57 := z46.c1
  go_wp2_with fail
  have hw58 := Below.refl (w40.alloc (.cells #[.int .i64 W, .slice a4 n n] 25)).heap.size (w40.alloc (.cells #[.int .i64 W, .slice a4 n n] 25))
  go_region_held3 (fun w' => w'.cell? ⟨w40.heap.size, 0, none⟩ = some (.int .i64 W) ∧ w'.cell? ⟨w40.heap.size, 1, none⟩ = some (.slice a4 n n) ∧ w'.cell? ⟨w.heap.size + 1, 0, none⟩ = some (.int .i64 s) ∧ w'.cell? ⟨w.heap.size + 1, 1, none⟩ = some (.int .i64 t))
    (first | (exact ⟨(z46.on hw58.drew).c0, (z46.on hw58.drew).c1, (z49.on hw58.drew).c0, (z49.on hw58.drew).c1⟩) | (exact ⟨(z46.on hw61).c0, (z46.on hw61).c1, (z49.on hw61).c0, (z49.on hw61).c1⟩) | (exact ⟨(z46.on hw64).c0, (z46.on hw64).c1, (z49.on hw64).c0, (z49.on hw64).c1⟩) | (fail))
    (first | (go_at_call 29; refine (toTrip_any s t _).mono ?_; rintro e w59 ⟨rfl, hb60⟩; have hw61 := stepA hw58.drew hb60; clear hb60) | (go_at_call 12; refine (hI a4 n _ (hT.on (stepA hB51 hw61)) (z50.on hw61).il).mono ?_; rintro e w62 ⟨d2, rfl, hd2, hb63⟩; have hw64 := stepA hw61 hb63; clear hb63) | (fail))
  have hs65 := hw64.size
  try simp only [size_al] at hs65
  have z66 := z48.on hw64
  have z67 := z49.on hw64
  have z68 := z50.on hw64
  have z69 := z46.on hw64
  clear z48 z49 z50 z46
  have hB70 := stepA hB51 hw64
  clear hB51
  have hdd : d2 = d1 := hd2.uniq HD1.out
  clear hd2 HD1
  subst hdd
  clear x52 x53 x54 x55 x56 x57
  have x71 := z66.c0
  have x72 := z66.c1
  have x73 := z67.c0
  have x74 := z67.c1
  have x75 := z69.c0
  have x76 := z69.c1
  go_wp2_with fail
  have hw77 := Below.refl w62.heap.size w62
  go_region_held3 (fun w' => w'.cell? ⟨w.heap.size, 0, none⟩ = some (.int .i64 W) ∧ w'.cell? ⟨w.heap.size, 1, none⟩ = some (.slice a n c) ∧ w'.cell? ⟨w40.heap.size, 0, none⟩ = some (.int .i64 W) ∧ w'.cell? ⟨w40.heap.size, 1, none⟩ = some (.slice a4 n n))
    (first | (exact ⟨(z66.on hw77.drew).c0, (z66.on hw77.drew).c1, (z69.on hw77.drew).c0, (z69.on hw77.drew).c1⟩) | (exact ⟨(z66.on hw80).c0, (z66.on hw80).c1, (z69.on hw80).c0, (z69.on hw80).c1⟩) | (exact ⟨(z66.on hw83).c0, (z66.on hw83).c1, (z69.on hw83).c0, (z69.on hw83).c1⟩) | (fail))
    (first | (go_at_call 17; refine (toCells_any W a n c f _ hn (hf.below (stepA hB70 hw77.drew))).mono ?_; rintro e w78 ⟨a9, rfl, hL9, hb79⟩; have hw80 := stepA hw77.drew hb79; clear hb79) | (go_at_call 20; refine (eqCells_any W _ _ n _ _ f _ hn (z68.on hw80).il hL9.il).mono ?_; rintro e w81 ⟨rfl, hb82⟩; have hw83 := stepA hw80 hb82; clear hb82) | (fail))
  have hs84 := hw83.size
  try simp only [size_al] at hs84
  have z85 := z66.on hw83
  have z86 := z67.on hw83
  have z87 := z68.on hw83
  have z88 := z69.on hw83
  clear z66 z67 z68 z69
  have hB89 := stepA hB70 hw83
  clear hB70
  clear hL9
  clear x71 x72 x73 x74 x75 x76
  clear z85
  clear z86
  clear z87
  clear z88
  go_wp2
  go_ret
  exact ⟨rfl, hB89⟩
set_option maxHeartbeats 400000 in
theorem aloneLaw_long (W : Int) (a : Option Addr) (n c : Nat) (s t : Int) (w : World) (h : 1048576 < n) (hn : n ≤ 9223372036854775807) :
    Calls Tryd.prog 6 #[cel W a n c, tpv s t] w fun e w' => e = .returned (.bool true) ∧ Below w.heap.size w w' := by
  go_enter Tryd.func6, Tryd.ntmps6
  have hB0 : Below w.heap.size w ((w.alloc (celO W a n c 39)).alloc (.cells #[.int .i64 s, .int .i64 t] 54)) := (((Below.refl w.heap.size w).alloc (Nat.le_refl _) _).alloc (by simp <;> omega) _)
  go_wp2_with fail
  refine (szCells_out W a n c _ h hn).mono ?_
  rintro e w1 ⟨rfl, hb1⟩
  have hB1 := stepA hB0 hb1
  go_wp2
  go_ret
  exact ⟨rfl, hB1⟩
theorem aloneAll (W : Int) (a : Option Addr) (n c : Nat) (f : Nat → Int) (s t : Int) (w : World) (hn : n ≤ 9223372036854775807) (hf : IL w a n f)
    (hT : Tab w) (hI : n ≤ 1048576 → ∀ (a : Option Addr) (c : Nat) (w : World), Tab w → IL w a n f → Calls Tryd.prog 12 #[cel W a n c, tpv s t] w fun e w' => ∃ d, e = .returned (.int .i64 d) ∧ AlnIs W n f s t d ∧ Below w.heap.size w w') :
    Calls Tryd.prog 6 #[cel W a n c, tpv s t] w fun e w' => e = .returned (.bool true) ∧ Below w.heap.size w w' := by
  by_cases h : n ≤ 1048576
  · exact aloneLaw W a n c f s t w h hf hT (hI h)
  · exact aloneLaw_long W a n c s t w (by omega) hn
end Go.Proofs.YtbndhhjgjalecaaDoor
