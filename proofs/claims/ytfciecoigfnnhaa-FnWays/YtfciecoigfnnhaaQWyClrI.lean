/- Clear, as the specification says it. -/
import Derived.Test.YtfciecoigfnnhaaQWyClear
import Derived.Test.YtfciecoigfnnhaaQWyTchI
import Derived.Test.YtfciecoigfnnhaaQWyGof
namespace Go.Proofs.Ytfciecoigfnnhaa
open Go.RowKit

/-- what Clear tells -/
def clearB (W : Int) (n : Nat) (f : Nat → Int) (a b : Int) : Bool := celB W n f && clrB W n f a b

set_option maxHeartbeats 1000000 in
theorem specClear (W : Int) (p : Option Addr) (n c : Nat) (f : Nat → Int) (a b : Int) (w : World) (hn : n ≤ 1048576) (hf : IL w p n f) :
    Calls Try.prog 17 #[cel W p n c, .int .i64 a, .int .i64 b] w fun e w' => e = .returned (.bool (clearB W n f a b)) ∧ Below w.heap.size w w' := by
  have hb0 : Below w.heap.size w (w.alloc (celO W p n c 25)) := (Below.refl _ _).alloc (Nat.le_refl _) _
  have bA := bx_new (w := w) (celL W p n c) 25 rfl
  have x0 := bA.c0
  have x1 := bA.c1
  have kg := specGoodL W p n c f (w.alloc (celO W p n c 25)) hn (hf.below hb0)
  cases e1 : celB W n f with
  | false =>
    have e0 : clearB W n f a b = false := by simp [clearB, e1]
    rw [e0]
    rw [e1] at kg
    go_enter Try.func17, Try.ntmps17
    go_wp2_with fail
    refine kg.mono ?_
    rintro e w1 ⟨rfl, hb1⟩
    have hB1 := stepA hb0 hb1
    clear kg
    go_wp2
    go_ret
    exact ⟨rfl, hB1⟩
  | true =>
    have e0 : clearB W n f a b = clrB W n f a b := by simp [clearB, e1]
    rw [e0]
    rw [e1] at kg
    have hs := (celB_parts e1).1
    go_enter Try.func17, Try.ntmps17
    go_wp2_with fail
    refine kg.mono ?_
    rintro e w1 ⟨rfl, hb1⟩
    have hB1 := stepA hb0 hb1
    have bA1 := bA.on hb1
    have y0 := bA1.c0
    have y1 := bA1.c1
    clear kg x0 x1
    go_wp2_with fail
    refine (sClear W p n c f a b w1 hs (hf.below hB1)).mono ?_
    rintro e w2 ⟨rfl, hb2⟩
    have hB2 := stepA hB1 hb2
    go_wp2
    go_ret
    exact ⟨rfl, hB2⟩
end Go.Proofs.Ytfciecoigfnnhaa

/- Clear, as the program says it. -/
namespace Go.Proofs.Ytfciecoigfnnhaa
open Go.RowKit

set_option maxHeartbeats 1000000 in
theorem implClear (W : Int) (p : Option Addr) (n c : Nat) (f : Nat → Int) (a b : Int) (w : World) (hn : n ≤ 1048576) (hf : IL w p n f) :
    Calls Try.prog 16 #[cel W p n c, .int .i64 a, .int .i64 b] w fun e w' => e = .returned (.bool (clearB W n f a b)) ∧ Below w.heap.size w w' := by
  have hb0 : Below w.heap.size w (w.alloc (celO W p n c 25)) := (Below.refl _ _).alloc (Nat.le_refl _) _
  cases e1 : celB W n f with
  | false =>
    have e0 : clearB W n f a b = false := by simp [clearB, e1]
    rw [e0]
    have kg := groundOf_no W p n c f (w.alloc (celO W p n c 25)) hn (hf.below hb0) e1
    go_enter Try.func16, Try.ntmps16
    go_wp2_with fail
    refine kg.mono ?_
    rintro e9 w1 ⟨rfl, hb1⟩
    have hB1 := stepA hb0 hb1
    have hB2 := hB1.alloc hB1.size (.cells #[.int .i64 0, .int .i64 0, .slice none 0 0] 73)
    clear kg
    go_wp2
    go_ret
    exact ⟨rfl, hB2⟩
  | true =>
    have e0 : clearB W n f a b = clrB W n f a b := by simp [clearB, e1]
    rw [e0]
    have hs := (celB_parts e1).1
    have kg := groundOf_yes W p n c f (w.alloc (celO W p n c 25)) hn (hf.below hb0) e1
    have kc := fun w h => clearFrom_any W p n c f a b w hs h
    generalize hgt W n = H at *
    go_enter Try.func16, Try.ntmps16
    go_wp2_with fail
    refine kg.mono ?_
    rintro e9 w1 ⟨rfl, hb1⟩
    have hB1 := stepA hb0 hb1
    have bG := bx_new (w := w1) (b := w1.heap.size) [.int .i64 W, .int .i64 H, .slice p n c] 73 rfl
    have hB2 := hB1.alloc hB1.size (.cells #[.int .i64 W, .int .i64 H, .slice p n c] 73)
    clear kg
    go_upto_region 2 with fail
    generalize w1.alloc (.cells #[.int .i64 W, .int .i64 H, .slice p n c] 73) = w2 at hB2 bG ⊢
    generalize w1.heap.size = G at bG ⊢
    have x0 := bG.c0
    have x1 := bG.c1
    have x2 := bG.c2
    go_wp2_with fail
    refine (kc _ (hf.below hB2)).mono ?_
    rintro e9 w3 ⟨rfl, hb3⟩
    have hB3 := stepA hB2 hb3
    clear kc
    go_wp2
    go_ret
    exact ⟨rfl, hB3⟩
end Go.Proofs.Ytfciecoigfnnhaa
