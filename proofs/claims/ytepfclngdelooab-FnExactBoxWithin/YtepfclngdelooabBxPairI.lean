/- Two boxes that are good and of as many numbers; whether one lies within the other, as the program says it. -/
import Derived.Test.YtepfclngdelooabBxGoodI
import Derived.Test.YtepfclngdelooabBxPair
namespace Go.Proofs.Ytepfclngdelooab
open Go.RowKit

set_option maxHeartbeats 1000000 in
theorem implPair (a b a2 b2 : Option Addr) (n c m d n2 c2 m2 d2 : Nat) (f g f2 g2 : Nat → Nat) (w : World) (hf : FS w a n f) (hg : FS w b m g) (hf2 : FS w a2 n2 f2) (hg2 : FS w b2 m2 g2) :
    Calls Try.prog 13 #[bxv a n c b m d, bxv a2 n2 c2 b2 m2 d2] w fun e w' => e = .returned (.bool (pairB n f m g n2 f2 m2 g2)) ∧ Below w.heap.size w w' := by
  have hb0 : Below w.heap.size w ((w.alloc (bxO a n c b m d 27)).alloc (bxO a2 n2 c2 b2 m2 d2 27)) := ((Below.refl _ _).alloc (Nat.le_refl _) _).alloc (by simp) _
  have bA := (bx_new (w := w) (bxL a n c b m d) 27 rfl).alloc (bxO a2 n2 c2 b2 m2 d2 27)
  have bB := bx_new (w := w.alloc (bxO a n c b m d 27)) (b := w.heap.size + 1) (bxL a2 n2 c2 b2 m2 d2) 27 (by simp)
  have hn := hf.1
  have hm := hg.1
  have hn2 := hf2.1
  have hm2 := hg2.1
  have x0 := bA.c0
  have x1 := bA.c1
  have hc := implGoodBox a b n c m d f g ((w.alloc (bxO a n c b m d 27)).alloc (bxO a2 n2 c2 b2 m2 d2 27)) hn hm (hf.below hb0) (hg.below hb0)
  cases e1 : boxB n f m g with
  | false =>
    have e0 : pairB n f m g n2 f2 m2 g2 = false := by simp [pairB, e1]
    rw [e0]
    rw [e1] at hc
    go_enter Try.func13, Try.ntmps13
    go_wp2_with fail
    refine hc.mono ?_
    rintro e w1 ⟨rfl, hb1⟩
    have hB1 := stepA hb0 hb1
    clear hc
    go_wp2
    go_ret
    exact ⟨rfl, hB1⟩
  | true =>
    rw [e1] at hc
    cases e2 : boxB n2 f2 m2 g2 with
    | false =>
      have e0 : pairB n f m g n2 f2 m2 g2 = false := by simp [pairB, e2]
      rw [e0]
      go_enter Try.func13, Try.ntmps13
      go_wp2_with fail
      refine hc.mono ?_
      rintro e w1 ⟨rfl, hb1⟩
      have hB1 := stepA hb0 hb1
      have bB1 := bB.on hb1
      have hc2 := implGoodBox a2 b2 n2 c2 m2 d2 f2 g2 w1 hn2 hm2 (hf2.below hB1) (hg2.below hB1)
      have y0 := bB1.c0
      have y1 := bB1.c1
      clear hc x0 x1 bA bB
      rw [e2] at hc2
      go_wp2_with fail
      refine hc2.mono ?_
      rintro e w2 ⟨rfl, hb2⟩
      have hB2 := stepA hB1 hb2
      clear hc2
      go_wp2
      go_ret
      exact ⟨rfl, hB2⟩
    | true =>
      have e0 : pairB n f m g n2 f2 m2 g2 = ((n : Int) == (n2 : Int)) := by
        simp only [pairB, e1, e2, Bool.and_self, Bool.true_and]
        rw [Bool.eq_iff_iff]; simp; constructor <;> intro h <;> omega
      rw [e0]
      go_enter Try.func13, Try.ntmps13
      go_wp2_with fail
      refine hc.mono ?_
      rintro e w1 ⟨rfl, hb1⟩
      have hB1 := stepA hb0 hb1
      have bA1 := bA.on hb1
      have bB1 := bB.on hb1
      have hc2 := implGoodBox a2 b2 n2 c2 m2 d2 f2 g2 w1 hn2 hm2 (hf2.below hB1) (hg2.below hB1)
      have y0 := bB1.c0
      have y1 := bB1.c1
      clear hc x0 x1 bA bB
      rw [e2] at hc2
      go_wp2_with fail
      refine hc2.mono ?_
      rintro e w2 ⟨rfl, hb2⟩
      have hB2 := stepA hB1 hb2
      have z0 := (bA1.on hb2).c0
      have z1 := (bB1.on hb2).c0
      clear hc2
      go_wp2
      go_ret
      exact ⟨rfl, hB2⟩

set_option maxHeartbeats 1000000 in
theorem implBoxWithin (a b a2 b2 : Option Addr) (n c m d n2 c2 m2 d2 : Nat) (f g f2 g2 : Nat → Nat) (w : World) (hf : FS w a n f) (hg : FS w b m g) (hf2 : FS w a2 n2 f2) (hg2 : FS w b2 m2 g2) :
    Calls Try.prog 7 #[bxv a n c b m d, bxv a2 n2 c2 b2 m2 d2] w fun e w' => e = .returned (.bool (withinB n f m g n2 f2 m2 g2)) ∧ Below w.heap.size w w' := by
  have hb0 : Below w.heap.size w ((w.alloc (bxO a n c b m d 27)).alloc (bxO a2 n2 c2 b2 m2 d2 27)) := ((Below.refl _ _).alloc (Nat.le_refl _) _).alloc (by simp) _
  have bA := (bx_new (w := w) (bxL a n c b m d) 27 rfl).alloc (bxO a2 n2 c2 b2 m2 d2 27)
  have bB := bx_new (w := w.alloc (bxO a n c b m d 27)) (b := w.heap.size + 1) (bxL a2 n2 c2 b2 m2 d2) 27 (by simp)
  have x0 := bA.c0
  have x1 := bA.c1
  have y0 := bB.c0
  have y1 := bB.c1
  have hc := implPair a b a2 b2 n c m d n2 c2 m2 d2 f g f2 g2 ((w.alloc (bxO a n c b m d 27)).alloc (bxO a2 n2 c2 b2 m2 d2 27)) (hf.below hb0) (hg.below hb0) (hf2.below hb0) (hg2.below hb0)
  cases e1 : pairB n f m g n2 f2 m2 g2 with
  | false =>
    have e0 : withinB n f m g n2 f2 m2 g2 = false := by simp [withinB, e1]
    rw [e0]
    rw [e1] at hc
    go_enter Try.func7, Try.ntmps7
    go_wp2_with fail
    refine hc.mono ?_
    rintro e w1 ⟨rfl, hb1⟩
    have hB1 := stepA hb0 hb1
    clear hc
    go_wp2
    go_ret
    exact ⟨rfl, hB1⟩
  | true =>
    have e0 : withinB n f m g n2 f2 m2 g2 = (noneB f2 f n && noneB g g2 n) := by rw [← allIn_cut]; simp [withinB, e1]
    rw [e0]
    rw [e1] at hc
    simp only [pairB, Bool.and_eq_true, decide_eq_true_eq] at e1
    obtain ⟨⟨g1, g3⟩, g4⟩ := e1
    obtain ⟨k1, k2, k3, _⟩ := boxB_len g1
    obtain ⟨_, _, k4, _⟩ := boxB_len g3
    subst g4 k3 k4
    go_enter Try.func7, Try.ntmps7
    go_wp2_with fail
    refine hc.mono ?_
    rintro e w1 ⟨rfl, hb1⟩
    have hB1 := stepA hb0 hb1
    have k1 := implNone a2 a m2 c2 c f2 f w1 (hf2.below hB1) (hf.below hB1)
    have bA1 := bA.on hb1
    have bB1 := bB.on hb1
    have z0 := bA1.c0
    have z2 := bB1.c0
    clear hc x0 x1 y0 y1 bA bB
    cases q1 : noneB f2 f m2 with
    | false =>
      rw [q1] at k1
      go_wp2_with fail
      refine k1.mono ?_
      rintro e w2 ⟨rfl, hb2⟩
      have hB2 := stepA hB1 hb2
      clear k1
      go_wp2
      go_ret
      exact ⟨ret_bool (by simp [q1]), hB2⟩
    | true =>
      rw [q1] at k1
      go_wp2_with fail
      refine k1.mono ?_
      rintro e w2 ⟨rfl, hb2⟩
      have hB2 := stepA hB1 hb2
      have k2 := implNone b b2 m2 d d2 g g2 w2 (hg.below hB2) (hg2.below hB2)
      have z1 := (bA1.on hb2).c1
      have z3 := (bB1.on hb2).c1
      clear k1 z0 z2
      go_wp2_with fail
      refine k2.mono ?_
      rintro e w3 ⟨rfl, hb3⟩
      have hB3 := stepA hB2 hb3
      clear k2
      go_wp2
      go_ret
      exact ⟨ret_bool (by simp [q1]), hB3⟩
end Go.Proofs.Ytepfclngdelooab
