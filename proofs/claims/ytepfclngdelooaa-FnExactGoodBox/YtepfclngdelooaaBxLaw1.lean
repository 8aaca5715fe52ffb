/- The walk of the law on GoodBox. -/
import Derived.Test.YtepfclngdelooaaBxGood
import Derived.Test.YtepfclngdelooaaBxGoodI
import Derived.Test.YtepfclngdelooaaBxKeep
import Derived.Deep.RegionHeld3
namespace Go.Proofs.Ytepfclngdelooaa
open Go.RowKit

set_option maxHeartbeats 1000000 in
theorem goodBLaw (a b : Option Addr) (n c m d : Nat) (f g : Nat → Nat) (w : World) (hs : n + m ≤ 1048576) (hf : FS w a n f) (hg : FS w b m g) :
    Calls Try.prog 3 #[bxv a n c b m d] w fun e w' => e = .returned (.bool true) ∧ Below w.heap.size w w' := by
  have hn : n ≤ 1048576 := by omega
  have hm : m ≤ 1048576 := by omega
  have hfb := hf.2.1
  have hgb := hg.2.1
  have j : ¬ (1048576 : Int) - (n : Int) - (m : Int) < 0 := by omega
  go_enter Try.func3, Try.ntmps3
  have b0 := bx_new (w := w) (bxL a n c b m d) 24 rfl
  have hB0 : Below w.heap.size w (w.alloc (bxO a n c b m d 24)) := (Below.refl _ _).alloc (Nat.le_refl _) _
  go_wp2_with fail
  refine (szBox_in a b n c m d 1048576 _ (by omega) (by omega)).mono ?_
  rintro e w1 ⟨rfl, hb1⟩
  have b1 := b0.on hb1
  have hB1 := stepA hB0 hb1
  clear b0 hB0 hb1
  have x0 := b1.c0
  have x1 := b1.c1
  go_wp2_with fail
  refine (toBox_any a b n c m d f g _ (hf.below hB1) (hg.below hB1)).mono ?_
  rintro e w2 ⟨a2, b2, rfl, hL2, hb2⟩
  have b2' := b1.on hb2
  have hB2 := stepA hB1 hb2
  clear b1 hB1 hb2 x0 x1
  have x0 := b2'.c0
  have x1 := b2'.c1
  go_wp2_with fail
  refine (specGoodBox a2 b2 n n m m f g _ hn hm (hL2.fl1.fs hn hfb) (hL2.fl2.fs hm hgb)).mono ?_
  rintro e w3 ⟨rfl, hb3⟩
  have b3 := b2'.on hb3
  have hB3 := stepA hB2 hb3
  clear b2' hB2 hb3 x0 x1 hL2
  have x0 := b3.c0
  have x1 := b3.c1
  generalize hq : boxB n f m g = q
  go_wp2_with fail
  refine (toBox_any a b n c m d f g _ (hf.below hB3) (hg.below hB3)).mono ?_
  rintro e w4 ⟨a4, b4', rfl, hL4, hb4⟩
  have b4 := b3.on hb4
  have hB4 := stepA hB3 hb4
  clear b3 hB3 hb4 x0 x1
  have c4 := bx_new (w := w4) (bxL a4 n n b4' m m) 27 rfl
  have e4 := b4.alloc (bxO a4 n n b4' m m 27)
  have hbx : Below w4.heap.size w4 (w4.alloc (bxO a4 n n b4' m m 27)) := (Below.refl _ _).alloc (Nat.le_refl _) _
  have hL5 := hL4.on hbx
  have hB5 := stepA hB4 hbx
  clear hL4 hB4 hbx
  go_wp2_with fail
  refine (implGoodBox a4 b4' n n m m f g _ hn hm (hL5.fl1.fs hn hfb) (hL5.fl2.fs hm hgb)).mono ?_
  rintro e w5 ⟨rfl, hb5⟩
  have c5 := c4.on hb5
  have b5 := e4.on hb5
  have hL6 := hL5.on hb5
  have hB6 := stepA hB5 hb5
  clear c4 b4 e4 hL5 hB5 hb5
  rw [hq]
  clear hq
  have x0 := b5.c0
  have x1 := b5.c1
  have y0 := c5.c0
  have y1 := c5.c1
  go_wp2_with fail
  have hw0 := Below.refl w5.heap.size w5
  go_region_held3 (fun w' => w'.cell? ⟨w.heap.size, 0, none⟩ = some (.slice a n c) ∧ w'.cell? ⟨w.heap.size, 1, none⟩ = some (.slice b m d) ∧ w'.cell? ⟨w4.heap.size, 0, none⟩ = some (.slice a4 n n) ∧ w'.cell? ⟨w4.heap.size, 1, none⟩ = some (.slice b4' m m))
    (first | (exact keepB b5 c5 hw0.drew) | (exact keepB b5 c5 hw6) | (exact keepB b5 c5 hw7) | (fail))
    (first | (go_at_call 6; refine (toBox_any a b n c m d f g _ (hf.below hB6.drew) (hg.below hB6.drew)).mono ?_; rintro e w6 ⟨a6, b6, rfl, hL7, hbn⟩; have hw6 := stepA hw0.drew hbn; clear hbn) | (go_at_call 8; refine (eqBox_any _ _ _ _ n _ m _ _ _ f g _ ((hL6.on hw6).fl1.fs hn hfb) ((hL6.on hw6).fl2.fs hm hgb) (hL7.fl1.fs hn hfb) (hL7.fl2.fs hm hgb)).mono ?_; rintro e w7 ⟨rfl, hbn⟩; have hw7 := stepA hw6 hbn; clear hbn))
  have hB8 := stepA hB6 hw7
  clear hL6 hB6 hw0 hL7 hw6 hw7 b5 c5 x0 x1 y0 y1
  go_wp2
  go_ret
  exact ⟨rfl, hB8⟩
set_option maxHeartbeats 400000 in
theorem goodBLaw_long (a b : Option Addr) (n c m d : Nat) (w : World) (h : 1048576 < n + m) (hn : n ≤ 9223372036854775807) (hm : m ≤ 9223372036854775807) :
    Calls Try.prog 3 #[bxv a n c b m d] w fun e w' => e = .returned (.bool true) ∧ Below w.heap.size w w' := by
  have hB0 : Below w.heap.size w (w.alloc (bxO a n c b m d 24)) := (Below.refl _ _).alloc (Nat.le_refl _) _
  go_enter Try.func3, Try.ntmps3
  go_wp2_with fail
  refine (szBox_out a b n c m d 1048576 _ (by omega) (by omega) (by omega) hn hm).mono ?_
  rintro e w1 ⟨rfl, hb1⟩
  have hB1 := stepA hB0 hb1
  go_wp2
  go_ret
  exact ⟨rfl, hB1⟩
theorem goodBAll (a b : Option Addr) (n c m d : Nat) (f g : Nat → Nat) (w : World) (hn : n ≤ 9223372036854775807) (hm : m ≤ 9223372036854775807) (hf : n ≤ 1048576 → FS w a n f) (hg : m ≤ 1048576 → FS w b m g) :
    Calls Try.prog 3 #[bxv a n c b m d] w fun e w' => e = .returned (.bool true) ∧ Below w.heap.size w w' := by
  by_cases h : n + m ≤ 1048576
  · exact goodBLaw a b n c m d f g w h (hf (by omega)) (hg (by omega))
  · exact goodBLaw_long a b n c m d w (by omega) hn hm
end Go.Proofs.Ytepfclngdelooaa
