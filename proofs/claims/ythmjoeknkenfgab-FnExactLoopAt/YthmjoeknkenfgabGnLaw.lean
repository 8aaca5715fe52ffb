/- The law on LoopAt, walked. -/
import Derived.Test.YthmjoeknkenfgabGnAt
namespace Go.Proofs.Ythmjoeknkenfgab
open Go.RowKit

set_option maxHeartbeats 4000000 in
set_option maxRecDepth 20000 in
theorem atLaw_in (a : Option Addr) (n c : Nat) (F : Nat → Int) (t : Int) (w : World) (hn : n ≤ 1048576) (hA : IL w a (n * 8) F) :
    Calls Try.prog 6 #[.slice a n c, .int .i64 t] w fun e w' => e = .returned (.bool true) ∧ Below w.heap.size w w' := by
  have hS := fun x c w h => specAt x n c F t w h
  have hI := fun x c w h => implAt x n c F t w h
  generalize atL F n t = L at hS hI
  generalize atB F n t = B at hS hI
  have j0 : ¬ 1048576 - (n : Int) < 0 := by omega
  go_enter Try.func6, Try.ntmps6
  go_wp2_with fail
  refine (szG_in a n c _ hn).mono ?_
  rintro e w0 ⟨rfl, hw'⟩
  have hs' := hw'.symm
  clear hw'
  subst hs'
  go_wp2_with fail
  refine (toGains_any a n c F _ hn hA).mono ?_
  rintro e w1 ⟨rfl, p1, hb1⟩
  go_wp2_with fail
  refine (hS _ _ _ p1.il).mono ?_
  rintro e w2 ⟨rfl, hb2⟩
  have hB2 := stepA hb1 hb2
  have g2 := bx_new (b := w2.heap.size) (w := w2) (lvs L) 29 rfl
  have hB3 : Below w.heap.size w (w2.alloc (lvo L)) := hB2.alloc hB2.size _
  clear hS p1 hb1 hb2 hB2
  go_upto_region 6 with fail
  generalize w2.alloc (lvo L) = w3 at g2 hB3 ⊢
  generalize w2.heap.size = N at g2 ⊢
  go_wp2_with fail
  refine (toGains_any a n c F _ hn (hA.below hB3)).mono ?_
  rintro e w4 ⟨rfl, p4, hb4⟩
  have g4 := g2.on hb4
  have hB4 := stepA hB3 hb4
  clear g2 hB3 hb4
  generalize w3.heap.size = M at p4 ⊢
  go_wp2_with fail
  refine (hI _ _ _ p4.il).mono ?_
  rintro e w5 ⟨rfl, hb5⟩
  have p5 := p4.below hb5 p4.lt
  have g5 := g4.on hb5
  have hB5 := stepA hB4 hb5
  have g6 := bx_new (b := w5.heap.size) (w := w5) (lvs L) 29 rfl
  have g7 := g5.alloc (lvo L)
  have p7 := p5.below ((Below.refl w5.heap.size w5).alloc (Nat.le_refl _) (lvo L)) p5.lt
  have hB7 : Below w.heap.size w (w5.alloc (lvo L)) := hB5.alloc hB5.size _
  clear hI p4 p5 g4 g5 hB4 hB5 hb5
  go_upto_region 8 with fail
  generalize w5.alloc (lvo L) = w7 at g6 g7 p7 hB7 ⊢
  generalize w5.heap.size = N2 at g6 ⊢
  obtain ⟨x0, x1, x2, x3, x4, x5, x6⟩ := loop_at g6
  obtain ⟨y0, y1, y2, y3, y4, y5, y6⟩ := loop_at g7
  go_wp2_with fail
  refine (eqLoop_any L _).mono ?_
  rintro e w8 ⟨rfl, hb8⟩
  have p8 := p7.below hb8 p7.lt
  have hB8 := stepA hB7 hb8
  clear x0 x1 x2 x3 x4 x5 x6 y0 y1 y2 y3 y4 y5 y6 g6 g7 p7 hB7 hb8
  go_wp2_with fail
  refine (toGains_any a n c F _ hn (hA.below hB8)).mono ?_
  rintro e w9 ⟨rfl, q9, hb9⟩
  have p9 := p8.below hb9 p8.lt
  have hB9 := stepA hB8 hb9
  clear p8 hB8 hb9
  go_wp2_with fail
  refine (eqGains_any M _ n n n F _ hn p9 q9).mono ?_
  rintro e w10 ⟨rfl, hb10⟩
  have hB10 := stepA hB9 hb10
  clear p9 q9 hB9 hb10
  go_wp2
  go_ret
  exact ⟨rfl, hB10⟩
set_option maxHeartbeats 400000 in
theorem atLaw (a : Option Addr) (n c : Nat) (F : Nat → Int) (t : Int) (w : World) (hm : n ≤ 9223372036854775807) (hA : IL w a (n * 8) F) :
    Calls Try.prog 6 #[.slice a n c, .int .i64 t] w fun e w' => e = .returned (.bool true) ∧ Below w.heap.size w w' := by
  by_cases hn : n ≤ 1048576
  · exact atLaw_in a n c F t w hn hA
  · go_enter Try.func6, Try.ntmps6
    go_wp2_with fail
    refine (szG_out a n c _ hn hm).mono ?_
    rintro e w0 ⟨rfl, hw'⟩
    have hs' := hw'.symm
    clear hw'
    subst hs'
    go_wp2
    go_ret
    exact ⟨rfl, Below.refl _ _⟩
end Go.Proofs.Ythmjoeknkenfgab
