/- Two boxes that are good and of as many numbers; whether one lies within the other, as the specification says it. -/
import Derived.Test.YtfciecoigfnnhaaBxGood
namespace Go.Proofs.Ytfciecoigfnnhaa
open Go.RowKit

set_option maxHeartbeats 1000000 in
theorem specPair (a b a2 b2 : Option Addr) (n c m d n2 c2 m2 d2 : Nat) (f g f2 g2 : Nat → Nat) (w : World) (hf : FS w a n f) (hg : FS w b m g) (hf2 : FS w a2 n2 f2) (hg2 : FS w b2 m2 g2) :
    Calls Try.prog 59 #[bxv a n c b m d, bxv a2 n2 c2 b2 m2 d2] w fun e w' => e = .returned (.bool (pairB n f m g n2 f2 m2 g2)) ∧ Below w.heap.size w w' := by
  have hb0 : Below w.heap.size w ((w.alloc (bxO a n c b m d 45)).alloc (bxO a2 n2 c2 b2 m2 d2 45)) := ((Below.refl _ _).alloc (Nat.le_refl _) _).alloc (by simp) _
  have bA := (bx_new (w := w) (bxL a n c b m d) 45 rfl).alloc (bxO a2 n2 c2 b2 m2 d2 45)
  have bB := bx_new (w := w.alloc (bxO a n c b m d 45)) (b := w.heap.size + 1) (bxL a2 n2 c2 b2 m2 d2) 45 (by simp)
  have hn := hf.1
  have hm := hg.1
  have hn2 := hf2.1
  have hm2 := hg2.1
  have x0 := bA.c0
  have x1 := bA.c1
  have hc := specGoodBox a b n c m d f g ((w.alloc (bxO a n c b m d 45)).alloc (bxO a2 n2 c2 b2 m2 d2 45)) hn hm (hf.below hb0) (hg.below hb0)
  cases e1 : boxB n f m g with
  | false =>
    have e0 : pairB n f m g n2 f2 m2 g2 = false := by simp [pairB, e1]
    rw [e0]
    rw [e1] at hc
    go_enter Try.func59, Try.ntmps59
    go_wp2_with fail
    refine hc.mono ?_
    rintro e w1 ⟨rfl, hb1⟩
    have hB1 := stepA hb0 hb1
    clear hc
    go_wp2
    go_ret
    exact ⟨rfl, hB1⟩
  | true =>
    rw [e1] at hc
    cases e2 : boxB n2 f2 m2 g2 with
    | false =>
      have e0 : pairB n f m g n2 f2 m2 g2 = false := by simp [pairB, e2]
      rw [e0]
      go_enter Try.func59, Try.ntmps59
      go_wp2_with fail
      refine hc.mono ?_
      rintro e w1 ⟨rfl, hb1⟩
      have hB1 := stepA hb0 hb1
      have bB1 := bB.on hb1
      have hc2 := specGoodBox a2 b2 n2 c2 m2 d2 f2 g2 w1 hn2 hm2 (hf2.below hB1) (hg2.below hB1)
      have y0 := bB1.c0
      have y1 := bB1.c1
      clear hc x0 x1 bA bB
      rw [e2] at hc2
      go_wp2_with fail
      refine hc2.mono ?_
      rintro e w2 ⟨rfl, hb2⟩
      have hB2 := stepA hB1 hb2
      clear hc2
      go_wp2
      go_ret
      exact ⟨rfl, hB2⟩
    | true =>
      have e0 : pairB n f m g n2 f2 m2 g2 = ((n : Int) == (n2 : Int)) := by
        simp only [pairB, e1, e2, Bool.and_self, Bool.true_and]
        rw [Bool.eq_iff_iff]; simp; constructor <;> intro h <;> omega
      rw [e0]
      go_enter Try.func59, Try.ntmps59
      go_wp2_with fail
      refine hc.mono ?_
      rintro e w1 ⟨rfl, hb1⟩
      have hB1 := stepA hb0 hb1
      have bA1 := bA.on hb1
      have bB1 := bB.on hb1
      have hc2 := specGoodBox a2 b2 n2 c2 m2 d2 f2 g2 w1 hn2 hm2 (hf2.below hB1) (hg2.below hB1)
      have y0 := bB1.c0
      have y1 := bB1.c1
      clear hc x0 x1 bA bB
      rw [e2] at hc2
      go_wp2_with fail
      refine hc2.mono ?_
      rintro e w2 ⟨rfl, hb2⟩
      have hB2 := stepA hB1 hb2
      have z0 := (bA1.on hb2).c0
      have z1 := (bB1.on hb2).c0
      clear hc2
      go_wp2
      go_ret
      exact ⟨rfl, hB2⟩

end Go.Proofs.Ytfciecoigfnnhaa
