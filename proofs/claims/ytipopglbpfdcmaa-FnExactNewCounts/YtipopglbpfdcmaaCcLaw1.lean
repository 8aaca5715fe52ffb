/- Both GoodCounts functions; the walk of the law on them. -/
import Derived.Test.YtipopglbpfdcmaaCcGood
namespace Go.Proofs.Ytipopglbpfdcmaa
open Go.RowKit

set_option maxHeartbeats 1000000 in
theorem implGoodC (W : Int) (a b : Option Addr) (n c m d : Nat) (f g : Nat → Int) (w : World) (hn : n ≤ 1048576) (hm : m ≤ 1048576) (hf : IL w a n f) (hg : IL w b m g) :
    Calls Try.prog 23 #[cnt W a n c b m d] w fun e w' => e = .returned (.bool (cntB W n f m g)) ∧ Below w.heap.size w w' := by
  go_enter Try.func23, Try.ntmps23
  go_wp2_with fail
  first
    | refine (sidesOf_any W a b n c m d f g _ hn hm (hf.alloc _) (hg.alloc _)).mono ?_
    | refine (sidesOf_any W a b n c m d f g _ hn hm hf hg).mono ?_
  rintro e w1 ⟨rfl, hb1⟩
  go_wp2
  go_ret
  first | exact ⟨rfl, below_al hb1⟩ | exact ⟨rfl, (below_al hb1).alloc (below_al hb1).size _⟩

set_option maxHeartbeats 1000000 in
theorem goodCLaw (W : Int) (a b : Option Addr) (n c m d : Nat) (f g : Nat → Int) (w : World) (hs : n + m ≤ 1048576) (hf : IL w a n f) (hg : IL w b m g) :
    Calls Try.prog 6 #[cnt W a n c b m d] w fun e w' => e = .returned (.bool true) ∧ Below w.heap.size w w' := by
  have hn : n ≤ 1048576 := by omega
  have hm : m ≤ 1048576 := by omega
  have j : ¬ (1048576 : Int) - (n : Int) - (m : Int) < 0 := by omega
  go_enter Try.func6, Try.ntmps6
  have b0 := bx_new (w := w) (cntL W a n c b m d) 42 rfl
  have hB0 : Below w.heap.size w (w.alloc (cntO W a n c b m d 42)) := (Below.refl _ _).alloc (Nat.le_refl _) _
  go_wp2_with fail
  refine (szCounts_in W a b n c m d _ hs).mono ?_
  rintro e w1 ⟨rfl, hb1⟩
  have b1 := b0.on hb1
  have hB1 := stepA hB0 hb1
  clear b0 hB0 hb1
  have x0 := b1.c0
  have x1 := b1.c1
  have x2 := b1.c2
  go_wp2_with fail
  refine (toCounts_any W a b n c m d f g _ hn hm (hf.below hB1) (hg.below hB1)).mono ?_
  rintro e w2 ⟨a2, b2, rfl, hL2, hb2⟩
  have b2' := b1.on hb2
  have hB2 := stepA hB1 hb2
  clear b1 hB1 hb2 x0 x1 x2
  have x0 := b2'.c0
  have x1 := b2'.c1
  have x2 := b2'.c2
  go_wp2_with fail
  refine (specGoodC W a2 b2 n n m m f g _ hn hm hL2.il1 hL2.il2).mono ?_
  rintro e w3 ⟨rfl, hb3⟩
  have b3 := b2'.on hb3
  have hB3 := stepA hB2 hb3
  clear b2' hB2 hb3 x0 x1 x2 hL2
  have x0 := b3.c0
  have x1 := b3.c1
  have x2 := b3.c2
  generalize hq : cntB W n f m g = q
  go_wp2_with fail
  refine (toCounts_any W a b n c m d f g _ hn hm (hf.below hB3) (hg.below hB3)).mono ?_
  rintro e w4 ⟨a4, b4', rfl, hL4, hb4⟩
  have b4 := b3.on hb4
  have hB4 := stepA hB3 hb4
  clear b3 hB3 hb4 x0 x1 x2
  have c4 := bx_new (w := w4) (cntL W a4 n n b4' m m) 31 rfl
  have e4 := b4.alloc (cntO W a4 n n b4' m m 31)
  have hbx : Below w4.heap.size w4 (w4.alloc (cntO W a4 n n b4' m m 31)) := (Below.refl _ _).alloc (Nat.le_refl _) _
  have hL5 := hL4.on hbx
  have hB5 := stepA hB4 hbx
  clear hL4 hB4 hbx
  go_wp2_with fail
  refine (implGoodC W a4 b4' n n m m f g _ hn hm hL5.il1 hL5.il2).mono ?_
  rintro e w5 ⟨rfl, hb5⟩
  have c5 := c4.on hb5
  have b5 := e4.on hb5
  have hL6 := hL5.on hb5
  have hB6 := stepA hB5 hb5
  clear c4 b4 e4 hL5 hB5 hb5
  rw [hq]
  clear hq
  have x0 := b5.c0
  have x1 := b5.c1
  have x2 := b5.c2
  have y0 := c5.c0
  have y1 := c5.c1
  have y2 := c5.c2
  go_wp2_with fail
  have hw0 := Below.refl w5.heap.size w5
  go_region_held3 (fun w' => w'.cell? ⟨w.heap.size, 0, none⟩ = some (.int .i64 W) ∧ w'.cell? ⟨w.heap.size, 1, none⟩ = some (.slice a n c) ∧ w'.cell? ⟨w.heap.size, 2, none⟩ = some (.slice b m d) ∧ w'.cell? ⟨w4.heap.size, 0, none⟩ = some (.int .i64 W) ∧ w'.cell? ⟨w4.heap.size, 1, none⟩ = some (.slice a4 n n) ∧ w'.cell? ⟨w4.heap.size, 2, none⟩ = some (.slice b4' m m))
    (first | (exact keep6 b5 c5 hw0.drew) | (exact keep6 b5 c5 hw6) | (exact keep6 b5 c5 hw7) | (fail))
    (first | (go_at_call 22; refine (toCounts_any W a b n c m d f g _ hn hm (hf.below hB6.drew) (hg.below hB6.drew)).mono ?_; rintro e w6 ⟨a6, b6, rfl, hL7, hbn⟩; have hw6 := stepA hw0.drew hbn; clear hbn) | (go_at_call 24; refine (eqCounts_any W _ _ _ _ n _ m _ _ _ f g _ hn hm (hL6.on hw6).il1 (hL6.on hw6).il2 hL7.il1 hL7.il2).mono ?_; rintro e w7 ⟨rfl, hbn⟩; have hw7 := stepA hw6 hbn; clear hbn))
  have hB8 := stepA hB6 hw7
  clear hL6 hB6 hw0 hL7 hw6 hw7 b5 c5 x0 x1 x2 y0 y1 y2
  go_wp2
  go_ret
  exact ⟨rfl, hB8⟩
set_option maxHeartbeats 400000 in
theorem goodCLaw_long (W : Int) (a b : Option Addr) (n c m d : Nat) (w : World) (h : 1048576 < n + m) (hn : n ≤ 9223372036854775807) (hm : m ≤ 9223372036854775807) :
    Calls Try.prog 6 #[cnt W a n c b m d] w fun e w' => e = .returned (.bool true) ∧ Below w.heap.size w w' := by
  have hB0 : Below w.heap.size w (w.alloc (cntO W a n c b m d 42)) := (Below.refl _ _).alloc (Nat.le_refl _) _
  go_enter Try.func6, Try.ntmps6
  go_wp2_with fail
  refine (szCounts_out W a b n c m d _ h hn hm).mono ?_
  rintro e w1 ⟨rfl, hb1⟩
  have hB1 := stepA hB0 hb1
  go_wp2
  go_ret
  exact ⟨rfl, hB1⟩
theorem goodCAll (W : Int) (a b : Option Addr) (n c m d : Nat) (f g : Nat → Int) (w : World) (hn : n ≤ 9223372036854775807) (hm : m ≤ 9223372036854775807) (hf : IL w a n f) (hg : IL w b m g) :
    Calls Try.prog 6 #[cnt W a n c b m d] w fun e w' => e = .returned (.bool true) ∧ Below w.heap.size w w' := by
  by_cases h : n + m ≤ 1048576
  · exact goodCLaw W a b n c m d f g w h hf hg
  · exact goodCLaw_long W a b n c m d w (by omega) hn hm
end Go.Proofs.Ytipopglbpfdcmaa
