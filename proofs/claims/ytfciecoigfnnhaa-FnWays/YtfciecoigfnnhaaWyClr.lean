/- Clear, as the specification says it. -/
import Derived.Test.YtfciecoigfnnhaaWyClear
namespace Go.Proofs.Ytfciecoigfnnhaa
open Go.RowKit

/-- what Clear tells -/
def clearB (W : Int) (n : Nat) (f : Nat → Int) (a b : Int) : Bool := celB W n f && clrB W n f a b

set_option maxHeartbeats 1000000 in
theorem specClear (W : Int) (p : Option Addr) (n c : Nat) (f : Nat → Int) (a b : Int) (w : World) (hn : n ≤ 1048576) (hf : IL w p n f) :
    Calls Try.prog 17 #[cel W p n c, .int .i64 a, .int .i64 b] w fun e w' => e = .returned (.bool (clearB W n f a b)) ∧ Below w.heap.size w w' := by
  have hb0 : Below w.heap.size w (w.alloc (celO W p n c 25)) := (Below.refl _ _).alloc (Nat.le_refl _) _
  have bA := bx_new (w := w) (celL W p n c) 25 rfl
  have x0 := bA.c0
  have x1 := bA.c1
  have kg := specGoodL W p n c f (w.alloc (celO W p n c 25)) hn (hf.below hb0)
  cases e1 : celB W n f with
  | false =>
    have e0 : clearB W n f a b = false := by simp [clearB, e1]
    rw [e0]
    rw [e1] at kg
    go_enter Try.func17, Try.ntmps17
    go_wp2_with fail
    refine kg.mono ?_
    rintro e w1 ⟨rfl, hb1⟩
    have hB1 := stepA hb0 hb1
    clear kg
    go_wp2
    go_ret
    exact ⟨rfl, hB1⟩
  | true =>
    have e0 : clearB W n f a b = clrB W n f a b := by simp [clearB, e1]
    rw [e0]
    rw [e1] at kg
    have hs := (celB_parts e1).1
    go_enter Try.func17, Try.ntmps17
    go_wp2_with fail
    refine kg.mono ?_
    rintro e w1 ⟨rfl, hb1⟩
    have hB1 := stepA hb0 hb1
    have bA1 := bA.on hb1
    have y0 := bA1.c0
    have y1 := bA1.c1
    clear kg x0 x1
    go_wp2_with fail
    refine (sClear W p n c f a b w1 hs (hf.below hB1)).mono ?_
    rintro e w2 ⟨rfl, hb2⟩
    have hB2 := stepA hB1 hb2
    go_wp2
    go_ret
    exact ⟨rfl, hB2⟩
end Go.Proofs.Ytfciecoigfnnhaa
