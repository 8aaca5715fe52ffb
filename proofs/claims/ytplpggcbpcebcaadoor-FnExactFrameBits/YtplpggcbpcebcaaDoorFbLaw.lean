/- The walk of the law on FrameBits. -/
import Derived.Test.YtplpggcbpcebcaaDoorFbR
namespace Go.Proofs.YtplpggcbpcebcaaDoor
open Go.RowKit
set_option maxHeartbeats 4000000 in
theorem frameLaw (W : Int) (a : Option Addr) (n c : Nat) (f : Nat → Int) (w : World) (hn : n ≤ 1048576) (hf : YL w a n f) (hbd : ∀ i, i < n → 0 ≤ f i ∧ f i ≤ 255) (hD : Db w) :
    Calls Tryd.prog 4 #[frv W a n c] w fun e w' => e = .returned (.bool true) ∧ Below w.heap.size w w' := by
  have j : ¬ (1048576 : Int) - (n : Int) < 0 := by omega
  go_enter Tryd.func4, Tryd.ntmps4
  have hB0 := Below.refl w.heap.size w
  have z1 := bx_new (b := w.heap.size) (w := w) [.int .i64 W, .slice a n c] 36 (by first | rfl | simp only [size_al])
  have hx2 : Below w.heap.size w (w.alloc (.cells #[.int .i64 W, .slice a n c] 36)) := (Below.refl _ _).alloc (Nat.le_refl _) _
  have hB3 := stepA hB0 hx2
  clear hB0 hx2
  have x4 := z1.c0
  have x5 := z1.c1
  go_wp2_with fail
  refine (szFrame_in W a n c _ hn).mono ?_
  rintro e w6 ⟨rfl, hb7⟩
  have hs8 := hb7.size
  have z9 := z1.on hb7
  clear z1
  have hB10 := stepA hB3 hb7
  clear hB3 hb7
  try simp only [size_al] at hs8
  clear x4 x5
  have x11 := z9.c0
  have x12 := z9.c1
  go_wp2_with fail
  refine (toFrame_any W a n c f _ hn (hf.below hB10)).mono ?_
  rintro e w13 ⟨a2, rfl, hL2, hb14⟩
  have hs15 := hb14.size
  have z16 := z9.on hb14
  clear z9
  have hB17 := stepA hB10 hb14
  clear hB10 hb14
  try simp only [size_al] at hs15
  try simp only [size_al] at hL2
  clear x11 x12
  have x18 := z16.c0
  have x19 := z16.c1
  go_wp2_with fail
  refine (sFrameBits W a2 n n f _ hL2.yl hbd).mono ?_
  rintro e w20 ⟨rfl, hb21⟩
  have hs22 := hb21.size
  have z23 := z16.on hb21
  have z24 := hL2.on hb21
  clear z16 hL2
  have hB25 := stepA hB17 hb21
  clear hB17 hb21
  try simp only [size_al] at hs22
  clear z24
  generalize hq : frOut W n f = q
  clear x18 x19
  have x26 := z23.c0
  have x27 := z23.c1
  go_wp2_with fail
  refine (toFrame_any W a n c f _ hn (hf.below hB25)).mono ?_
  rintro e w28 ⟨a4, rfl, hL4, hb29⟩
  have hs30 := hb29.size
  have z31 := z23.on hb29
  clear z23
  have hB32 := stepA hB25 hb29
  clear hB25 hb29
  try simp only [size_al] at hs30
  try simp only [size_al] at hL4
  have z33 := bx_new (b := w28.heap.size) (w := w28) [.int .i64 W, .slice a4 n n] 24 (by first | rfl | simp only [size_al])
  have hx34 : Below w28.heap.size w28 (w28.alloc (.cells #[.int .i64 W, .slice a4 n n] 24)) := (Below.refl _ _).alloc (Nat.le_refl _) _
  have z35 := z31.on hx34
  have z36 := hL4.on hx34
  clear z31 hL4
  have hB37 := stepA hB32 hx34
  clear hB32 hx34
  clear x26 x27
  have x38 := z35.c0
  have x39 := z35.c1
  have x40 := z33.c0
  have x41 := z33.c1
  go_wp2_with fail
  refine (iFrameBits W a4 n n f _ z36.yl hbd (hD.on hB37)).mono ?_
  rintro e w42 ⟨rfl, hb43⟩
  have hs44 := hb43.size
  have z45 := z35.on hb43
  have z46 := z36.on hb43
  have z47 := z33.on hb43
  clear z35 z36 z33
  have hB48 := stepA hB37 hb43
  clear hB37 hb43
  try simp only [size_al] at hs44
  rw [hq]
  clear hq
  clear x38 x39 x40 x41
  have x49 := z45.c0
  have x50 := z45.c1
  have x51 := z47.c0
  have x52 := z47.c1
  go_wp2_with fail
  have hw53 := Below.refl w42.heap.size w42
  go_region_held3 (fun w' => w'.cell? ⟨w.heap.size, 0, none⟩ = some (.int .i64 W) ∧ w'.cell? ⟨w.heap.size, 1, none⟩ = some (.slice a n c) ∧ w'.cell? ⟨w28.heap.size, 0, none⟩ = some (.int .i64 W) ∧ w'.cell? ⟨w28.heap.size, 1, none⟩ = some (.slice a4 n n))
    (first | (exact ⟨(z45.on hw53.drew).c0, (z45.on hw53.drew).c1, (z47.on hw53.drew).c0, (z47.on hw53.drew).c1⟩) | (exact ⟨(z45.on hw56).c0, (z45.on hw56).c1, (z47.on hw56).c0, (z47.on hw56).c1⟩) | (exact ⟨(z45.on hw59).c0, (z45.on hw59).c1, (z47.on hw59).c0, (z47.on hw59).c1⟩) | (fail))
    (first | (go_at_call 17; refine (toFrame_any W a n c f _ hn (hf.below (stepA hB48 hw53.drew))).mono ?_; rintro e w54 ⟨a9, rfl, hL9, hb55⟩; have hw56 := stepA hw53.drew hb55; clear hb55) | (go_at_call 18; refine (eqFrame_any W _ _ n _ _ f _ hn (z46.on hw56).yl hL9.yl).mono ?_; rintro e w57 ⟨rfl, hb58⟩; have hw59 := stepA hw56 hb58; clear hb58) | (fail))
  have hs60 := hw59.size
  try simp only [size_al] at hs60
  have z61 := z45.on hw59
  have z62 := z46.on hw59
  have z63 := z47.on hw59
  clear z45 z46 z47
  have hB64 := stepA hB48 hw59
  clear hB48
  clear hL9
  clear x49 x50 x51 x52
  clear z61
  clear z62
  clear z63
  go_wp2
  go_ret
  exact ⟨rfl, hB64⟩
set_option maxHeartbeats 400000 in
theorem frameLaw_long (W : Int) (a : Option Addr) (n c : Nat) (w : World) (h : 1048576 < n) (hn : n ≤ 9223372036854775807) :
    Calls Tryd.prog 4 #[frv W a n c] w fun e w' => e = .returned (.bool true) ∧ Below w.heap.size w w' := by
  have hB0 : Below w.heap.size w (w.alloc (frvO W a n c 36)) := (Below.refl _ _).alloc (Nat.le_refl _) _
  go_enter Tryd.func4, Tryd.ntmps4
  go_wp2_with fail
  refine (szFrame_out W a n c _ h hn).mono ?_
  rintro e w1 ⟨rfl, hb1⟩
  have hB1 := stepA hB0 hb1
  go_wp2
  go_ret
  exact ⟨rfl, hB1⟩
theorem frameAll (W : Int) (a : Option Addr) (n c : Nat) (f : Nat → Int) (w : World) (hn : n ≤ 9223372036854775807) (hf : YL w a n f) (hbd : ∀ i, i < n → 0 ≤ f i ∧ f i ≤ 255) (hD : Db w) :
    Calls Tryd.prog 4 #[frv W a n c] w fun e w' => e = .returned (.bool true) ∧ Below w.heap.size w w' := by
  by_cases h : n ≤ 1048576
  · exact frameLaw W a n c f w h hf hbd hD
  · exact frameLaw_long W a n c w (by omega) hn
end Go.Proofs.YtplpggcbpcebcaaDoor
