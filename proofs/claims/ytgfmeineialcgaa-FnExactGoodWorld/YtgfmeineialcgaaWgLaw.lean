/- The walk of the law on GoodWorld. -/
import Derived.Test.YtgfmeineialcgaaWgGood
namespace Go.Proofs.Ytgfmeineialcgaa
open Go.RowKit
set_option maxHeartbeats 1000000 in
theorem goodWLaw (W : Int) (a : Option Addr) (n c : Nat) (t s d : Int) (f : Nat → Int) (w : World) (hn : n ≤ 1048576) (hf : IL w a n f) :
    Calls Try.prog 3 #[wvl W a n c t s d] w fun e w' => e = .returned (.bool true) ∧ Below w.heap.size w w' := by
  have j : ¬ (1048576 : Int) - (n : Int) < 0 := by omega
  go_enter Try.func3, Try.ntmps3
  have hB0 := Below.refl w.heap.size w
  have z1 := bx_new (w := w) [.int .i64 W, .slice a n c, .int .i64 t, .int .i64 s, .int .i64 d] 26 rfl
  have hx2 : Below w.heap.size w (w.alloc (.cells #[.int .i64 W, .slice a n c, .int .i64 t, .int .i64 s, .int .i64 d] 26)) := (Below.refl _ _).alloc (Nat.le_refl _) _
  have hB3 := stepA hB0 hx2
  clear hB0 hx2
  have x4 := z1.c0
  have x5 := z1.c1
  have x5q2 := z1.c2
  have x5q3 := z1.c3
  have x5q4 := z1.c4
  go_wp2_with fail
  refine (szWorld_in W a n c t s d _ hn).mono ?_
  rintro e w6 ⟨rfl, hb7⟩
  have hs8 := hb7.size
  have z9 := z1.on hb7
  clear z1
  have hB10 := stepA hB3 hb7
  clear hB3 hb7
  try simp only [size_al] at hs8
  clear x4 x5 x5q2 x5q3 x5q4
  have x11 := z9.c0
  have x12 := z9.c1
  have x12q2 := z9.c2
  have x12q3 := z9.c3
  have x12q4 := z9.c4
  go_wp2_with fail
  refine (toWorld_any W a n c t s d f _ hn (hf.below hB10)).mono ?_
  rintro e w13 ⟨a2, rfl, hL2, hb14⟩
  have hs15 := hb14.size
  have z16 := z9.on hb14
  clear z9
  have hB17 := stepA hB10 hb14
  clear hB10 hb14
  try simp only [size_al] at hs15
  try simp only [size_al] at hL2
  clear x11 x12 x12q2 x12q3 x12q4
  have x18 := z16.c0
  have x19 := z16.c1
  have x19q2 := z16.c2
  have x19q3 := z16.c3
  have x19q4 := z16.c4
  go_wp2_with fail
  refine (sGoodW W a2 n n t s d f _ hn hL2.il).mono ?_
  rintro e w20 ⟨rfl, hb21⟩
  have hs22 := hb21.size
  have z23 := z16.on hb21
  have z24 := hL2.on hb21
  clear z16 hL2
  have hB25 := stepA hB17 hb21
  clear hB17 hb21
  try simp only [size_al] at hs22
  clear z24
  generalize hq : wgB W n f t s d = q
  clear x18 x19 x19q2 x19q3 x19q4
  have x26 := z23.c0
  have x27 := z23.c1
  have x27q2 := z23.c2
  have x27q3 := z23.c3
  have x27q4 := z23.c4
  go_wp2_with fail
  refine (toWorld_any W a n c t s d f _ hn (hf.below hB25)).mono ?_
  rintro e w28 ⟨a4, rfl, hL4, hb29⟩
  have hs30 := hb29.size
  have z31 := z23.on hb29
  clear z23
  have hB32 := stepA hB25 hb29
  clear hB25 hb29
  try simp only [size_al] at hs30
  try simp only [size_al] at hL4
  have z33 := bx_new (w := w28) [.int .i64 W, .slice a4 n n, .int .i64 t, .int .i64 s, .int .i64 d] 31 rfl
  have hx34 : Below w28.heap.size w28 (w28.alloc (.cells #[.int .i64 W, .slice a4 n n, .int .i64 t, .int .i64 s, .int .i64 d] 31)) := (Below.refl _ _).alloc (Nat.le_refl _) _
  have z35 := z31.on hx34
  have z36 := hL4.on hx34
  clear z31 hL4
  have hB37 := stepA hB32 hx34
  clear hB32 hx34
  clear x26 x27 x27q2 x27q3 x27q4
  have x38 := z35.c0
  have x39 := z35.c1
  have x39q2 := z35.c2
  have x39q3 := z35.c3
  have x39q4 := z35.c4
  have x40 := z33.c0
  have x41 := z33.c1
  have x41q2 := z33.c2
  have x41q3 := z33.c3
  have x41q4 := z33.c4
  go_wp2_with fail
  refine (iGoodW W a4 n n t s d f _ hn z36.il).mono ?_
  rintro e w42 ⟨rfl, hb43⟩
  have hs44 := hb43.size
  have z45 := z35.on hb43
  have z46 := z36.on hb43
  have z47 := z33.on hb43
  clear z35 z36 z33
  have hB48 := stepA hB37 hb43
  clear hB37 hb43
  try simp only [size_al] at hs44
  rw [hq]
  clear hq
  clear x38 x39 x39q2 x39q3 x39q4 x40 x41 x41q2 x41q3 x41q4
  have x49 := z45.c0
  have x50 := z45.c1
  have x50q2 := z45.c2
  have x50q3 := z45.c3
  have x50q4 := z45.c4
  have x51 := z47.c0
  have x52 := z47.c1
  have x52q2 := z47.c2
  have x52q3 := z47.c3
  have x52q4 := z47.c4
  go_wp2_with fail
  have hw53 := Below.refl w42.heap.size w42
  go_region_held3 (fun w' => w'.cell? ⟨w.heap.size, 0, none⟩ = some (.int .i64 W) ∧ w'.cell? ⟨w.heap.size, 1, none⟩ = some (.slice a n c) ∧ w'.cell? ⟨w.heap.size, 2, none⟩ = some (.int .i64 t) ∧ w'.cell? ⟨w.heap.size, 3, none⟩ = some (.int .i64 s) ∧ w'.cell? ⟨w.heap.size, 4, none⟩ = some (.int .i64 d) ∧ w'.cell? ⟨w28.heap.size, 0, none⟩ = some (.int .i64 W) ∧ w'.cell? ⟨w28.heap.size, 1, none⟩ = some (.slice a4 n n) ∧ w'.cell? ⟨w28.heap.size, 2, none⟩ = some (.int .i64 t) ∧ w'.cell? ⟨w28.heap.size, 3, none⟩ = some (.int .i64 s) ∧ w'.cell? ⟨w28.heap.size, 4, none⟩ = some (.int .i64 d))
    (first | (exact ⟨(z45.on hw53.drew).c0, (z45.on hw53.drew).c1, (z45.on hw53.drew).c2, (z45.on hw53.drew).c3, (z45.on hw53.drew).c4, (z47.on hw53.drew).c0, (z47.on hw53.drew).c1, (z47.on hw53.drew).c2, (z47.on hw53.drew).c3, (z47.on hw53.drew).c4⟩) | (exact ⟨(z45.on hw56).c0, (z45.on hw56).c1, (z45.on hw56).c2, (z45.on hw56).c3, (z45.on hw56).c4, (z47.on hw56).c0, (z47.on hw56).c1, (z47.on hw56).c2, (z47.on hw56).c3, (z47.on hw56).c4⟩) | (exact ⟨(z45.on hw59).c0, (z45.on hw59).c1, (z45.on hw59).c2, (z45.on hw59).c3, (z45.on hw59).c4, (z47.on hw59).c0, (z47.on hw59).c1, (z47.on hw59).c2, (z47.on hw59).c3, (z47.on hw59).c4⟩) | (fail))
    (first | (go_at_call 6; refine (toWorld_any W a n c t s d f _ hn (hf.below (stepA hB48 hw53.drew))).mono ?_; rintro e w54 ⟨a9, rfl, hL9, hb55⟩; have hw56 := stepA hw53.drew hb55; clear hb55) | (go_at_call 8; refine (eqWorld_any W _ _ n _ _ t s d f _ hn (z46.on hw56).il hL9.il).mono ?_; rintro e w57 ⟨rfl, hb58⟩; have hw59 := stepA hw56 hb58; clear hb58) | (fail))
  have hs60 := hw59.size
  try simp only [size_al] at hs60
  have z61 := z45.on hw59
  have z62 := z46.on hw59
  have z63 := z47.on hw59
  clear z45 z46 z47
  have hB64 := stepA hB48 hw59
  clear hB48
  clear hL9
  clear x49 x50 x50q2 x50q3 x50q4 x51 x52 x52q2 x52q3 x52q4
  clear z61
  clear z62
  clear z63
  go_wp2
  go_ret
  exact ⟨rfl, hB64⟩
set_option maxHeartbeats 400000 in
theorem goodWLaw_long (W : Int) (a : Option Addr) (n c : Nat) (t s d : Int) (w : World) (h : 1048576 < n) (hn : n ≤ 9223372036854775807) :
    Calls Try.prog 3 #[wvl W a n c t s d] w fun e w' => e = .returned (.bool true) ∧ Below w.heap.size w w' := by
  have hB0 : Below w.heap.size w (w.alloc (wvO W a n c t s d 26)) := (Below.refl _ _).alloc (Nat.le_refl _) _
  go_enter Try.func3, Try.ntmps3
  go_wp2_with fail
  refine (szWorld_out W a n c t s d _ h hn).mono ?_
  rintro e w1 ⟨rfl, hb1⟩
  have hB1 := stepA hB0 hb1
  go_wp2
  go_ret
  exact ⟨rfl, hB1⟩
theorem goodWAll (W : Int) (a : Option Addr) (n c : Nat) (t s d : Int) (f : Nat → Int) (w : World) (hn : n ≤ 9223372036854775807) (hf : IL w a n f) :
    Calls Try.prog 3 #[wvl W a n c t s d] w fun e w' => e = .returned (.bool true) ∧ Below w.heap.size w w' := by
  by_cases h : n ≤ 1048576
  · exact goodWLaw W a n c t s d f w h hf
  · exact goodWLaw_long W a n c t s d w (by omega) hn
end Go.Proofs.Ytgfmeineialcgaa
