/- Two boxes that are good and of as many numbers; whether one lies within the other, as the specification says it. -/
import Derived.Test.YtepfclngdelooabBxGood
namespace Go.Proofs.Ytepfclngdelooab
open Go.RowKit

set_option maxHeartbeats 1000000 in
theorem specPair (a b a2 b2 : Option Addr) (n c m d n2 c2 m2 d2 : Nat) (f g f2 g2 : Nat → Nat) (w : World) (hf : FS w a n f) (hg : FS w b m g) (hf2 : FS w a2 n2 f2) (hg2 : FS w b2 m2 g2) :
    Calls Try.prog 10 #[bxv a n c b m d, bxv a2 n2 c2 b2 m2 d2] w fun e w' => e = .returned (.bool (pairB n f m g n2 f2 m2 g2)) ∧ Below w.heap.size w w' := by
  have hb0 : Below w.heap.size w ((w.alloc (bxO a n c b m d 27)).alloc (bxO a2 n2 c2 b2 m2 d2 27)) := ((Below.refl _ _).alloc (Nat.le_refl _) _).alloc (by simp) _
  have bA := (bx_new (w := w) (bxL a n c b m d) 27 rfl).alloc (bxO a2 n2 c2 b2 m2 d2 27)
  have bB := bx_new (w := w.alloc (bxO a n c b m d 27)) (b := w.heap.size + 1) (bxL a2 n2 c2 b2 m2 d2) 27 (by simp)
  have hn := hf.1
  have hm := hg.1
  have hn2 := hf2.1
  have hm2 := hg2.1
  have x0 := bA.c0
  have x1 := bA.c1
  have hc := specGoodBox a b n c m d f g ((w.alloc (bxO a n c b m d 27)).alloc (bxO a2 n2 c2 b2 m2 d2 27)) hn hm (hf.below hb0) (hg.below hb0)
  cases e1 : boxB n f m g with
  | false =>
    have e0 : pairB n f m g n2 f2 m2 g2 = false := by simp [pairB, e1]
    rw [e0]
    rw [e1] at hc
    go_enter Try.func10, Try.ntmps10
    go_wp2_with fail
    refine hc.mono ?_
    rintro e w1 ⟨rfl, hb1⟩
    have hB1 := stepA hb0 hb1
    clear hc
    go_wp2
    go_ret
    exact ⟨rfl, hB1⟩
  | true =>
    rw [e1] at hc
    cases e2 : boxB n2 f2 m2 g2 with
    | false =>
      have e0 : pairB n f m g n2 f2 m2 g2 = false := by simp [pairB, e2]
      rw [e0]
      go_enter Try.func10, Try.ntmps10
      go_wp2_with fail
      refine hc.mono ?_
      rintro e w1 ⟨rfl, hb1⟩
      have hB1 := stepA hb0 hb1
      have bB1 := bB.on hb1
      have hc2 := specGoodBox a2 b2 n2 c2 m2 d2 f2 g2 w1 hn2 hm2 (hf2.below hB1) (hg2.below hB1)
      have y0 := bB1.c0
      have y1 := bB1.c1
      clear hc x0 x1 bA bB
      rw [e2] at hc2
      go_wp2_with fail
      refine hc2.mono ?_
      rintro e w2 ⟨rfl, hb2⟩
      have hB2 := stepA hB1 hb2
      clear hc2
      go_wp2
      go_ret
      exact ⟨rfl, hB2⟩
    | true =>
      have e0 : pairB n f m g n2 f2 m2 g2 = ((n : Int) == (n2 : Int)) := by
        simp only [pairB, e1, e2, Bool.and_self, Bool.true_and]
        rw [Bool.eq_iff_iff]; simp; constructor <;> intro h <;> omega
      rw [e0]
      go_enter Try.func10, Try.ntmps10
      go_wp2_with fail
      refine hc.mono ?_
      rintro e w1 ⟨rfl, hb1⟩
      have hB1 := stepA hb0 hb1
      have bA1 := bA.on hb1
      have bB1 := bB.on hb1
      have hc2 := specGoodBox a2 b2 n2 c2 m2 d2 f2 g2 w1 hn2 hm2 (hf2.below hB1) (hg2.below hB1)
      have y0 := bB1.c0
      have y1 := bB1.c1
      clear hc x0 x1 bA bB
      rw [e2] at hc2
      go_wp2_with fail
      refine hc2.mono ?_
      rintro e w2 ⟨rfl, hb2⟩
      have hB2 := stepA hB1 hb2
      have z0 := (bA1.on hb2).c0
      have z1 := (bB1.on hb2).c0
      clear hc2
      go_wp2
      go_ret
      exact ⟨rfl, hB2⟩

set_option maxHeartbeats 1000000 in
theorem specIn (a b a2 b2 : Option Addr) (n c d c2 d2 : Nat) (f g f2 g2 : Nat → Nat) (w : World) (h0 : 1 ≤ n) (h3 : n ≤ 3) (hf : FS w a n f) (hg : FS w b n g) (hf2 : FS w a2 n f2) (hg2 : FS w b2 n g2) :
    Calls Try.prog 11 #[bxv a n c b n d, bxv a2 n c2 b2 n d2] w fun e w' => e = .returned (.bool (allIn f g f2 g2 n)) ∧ Below w.heap.size w w' := by
  have hb0 : Below w.heap.size w ((w.alloc (bxO a n c b n d 27)).alloc (bxO a2 n c2 b2 n d2 27)) := ((Below.refl _ _).alloc (Nat.le_refl _) _).alloc (by simp) _
  have bA := (bx_new (w := w) (bxL a n c b n d) 27 rfl).alloc (bxO a2 n c2 b2 n d2 27)
  have bB := bx_new (w := w.alloc (bxO a n c b n d 27)) (b := w.heap.size + 1) (bxL a2 n c2 b2 n d2) 27 (by simp)
  obtain ⟨b1, o1, rfl, hl1, hc1⟩ := (hf.below hb0).2.2 (by omega)
  obtain ⟨b3, o3, rfl, hl3, hc3⟩ := (hg.below hb0).2.2 (by omega)
  obtain ⟨b4, o4, rfl, hl4, hc4⟩ := (hf2.below hb0).2.2 (by omega)
  obtain ⟨b5, o5, rfl, hl5, hc5⟩ := (hg2.below hb0).2.2 (by omega)
  have X : Hid _ := hc1
  have Y : Hid _ := hc3
  have U : Hid _ := hc4
  have V : Hid _ := hc5
  have HB : Hid _ := hb0
  have x0 := bA.c0
  have x1 := bA.c1
  have y0 := bB.c0
  have y1 := bB.c1
  clear hc1 hc3 hc4 hc5 hb0 bA bB
  go_enter Try.func11, Try.ntmps11
  go_wp2
  go_loopw [9] (fun i wr => ∃ k : Nat, k ≤ n ∧ i = .int .i64 k ∧ allIn f g f2 g2 k = true ∧ ∃ q, wr = ((w.alloc (bxO (some ⟨b1, o1, none⟩) n c (some ⟨b3, o3, none⟩) n d 27)).alloc (bxO (some ⟨b4, o4, none⟩) n c2 (some ⟨b5, o5, none⟩) n d2 27)).drewN q) (fun i _ => n - (intOf i).toNat)
  case atStart => exact ⟨0, Nat.zero_le _, rfl, rfl, 0, rfl⟩
  case round =>
    obtain ⟨k, hk, rfl, hall, q, hw⟩ := hrel
    have HA : Hid (allIn f g f2 g2 k = true) := hall
    clear hall
    have HW : Hid _ := hw
    have HB2 : Hid (Below w.heap.size w wr) := (by rw [hw]; exact below_dr HB.out q : Below w.heap.size w wr)
    have x0' : wr.cell? ⟨w.heap.size, 0, none⟩ = some (.slice (some ⟨b1, o1, none⟩) n c) := by rw [hw]; exact x0
    have x1' : wr.cell? ⟨w.heap.size, 1, none⟩ = some (.slice (some ⟨b3, o3, none⟩) n d) := by rw [hw]; exact x1
    have y0' : wr.cell? ⟨w.heap.size + 1, 0, none⟩ = some (.slice (some ⟨b4, o4, none⟩) n c2) := by rw [hw]; exact y0
    have y1' : wr.cell? ⟨w.heap.size + 1, 1, none⟩ = some (.slice (some ⟨b5, o5, none⟩) n d2) := by rw [hw]; exact y1
    clear hw x0 x1 y0 y1
    by_cases hlt : k < n
    · have u0 : wr.cell? ⟨b1, o1 + k, none⟩ = some (.float .f64 (f k)) := by rw [HW.out]; exact X.out k hlt
      have u1 : wr.cell? ⟨b3, o3 + k, none⟩ = some (.float .f64 (g k)) := by rw [HW.out]; exact Y.out k hlt
      have u2 : wr.cell? ⟨b4, o4 + k, none⟩ = some (.float .f64 (f2 k)) := by rw [HW.out]; exact U.out k hlt
      have u3 : wr.cell? ⟨b5, o5 + k, none⟩ = some (.float .f64 (g2 k)) := by rw [HW.out]; exact V.out k hlt
      have i0 : (0 : Int) ≤ (k : Int) := by omega
      have i1 : (k : Int) < (n : Int) := by omega
      have hno : inR (f k) (g k) (f2 k) (g2 k) = false → allIn f g f2 g2 n = false := allIn_not hlt
      have hyes : inR (f k) (g k) (f2 k) (g2 k) = true → allIn f g f2 g2 (k + 1) = true := fun q => by simp [allIn, HA.out, q]
      generalize f k = x at u0 hno hyes
      generalize g k = y at u1 hno hyes
      generalize f2 k = x2 at u2 hno hyes
      generalize g2 k = y2 at u3 hno hyes
      clear X Y U V hf hg hf2 hg2
      cases e1 : (FloatKind.f64.format.order x x2 == some .lt) with
      | true =>
        have h0 := hno (by simp [inR, ltF, e1])
        clear hno hyes
        go_wp2
        go_quiet (fail)
        go_wp2
        go_ret
        exact ⟨ret_bool h0.symm, below_dr HB2.out _⟩
      | false =>
        cases e2 : (FloatKind.f64.format.order y y2 == some .gt) with
        | true =>
          have h0 := hno (by simp [inR, gtF, e2])
          clear hno hyes
          go_wp2
          go_quiet (fail)
          go_wp2
          go_ret
          exact ⟨ret_bool h0.symm, below_dr HB2.out _⟩
        | false =>
          have h0 := hyes (by simp [inR, gtF, ltF, e1, e2])
          clear hno hyes
          go_wp2
          go_quiet (fail)
          go_wp2
          exact ⟨⟨k + 1, by omega, by go_num, h0, _, by rw [HW.out, World.drewN_drewN]⟩, by simp [intOf]; omega⟩
    · have hke : k = n := by omega
      subst hke
      clear X Y U V
      go_wp2
      go_ret
      exact ⟨ret_bool HA.out.symm, HB2.out⟩

set_option maxHeartbeats 1000000 in
theorem specBoxWithin (a b a2 b2 : Option Addr) (n c m d n2 c2 m2 d2 : Nat) (f g f2 g2 : Nat → Nat) (w : World) (hf : FS w a n f) (hg : FS w b m g) (hf2 : FS w a2 n2 f2) (hg2 : FS w b2 m2 g2) :
    Calls Try.prog 5 #[bxv a n c b m d, bxv a2 n2 c2 b2 m2 d2] w fun e w' => e = .returned (.bool (withinB n f m g n2 f2 m2 g2)) ∧ Below w.heap.size w w' := by
  have hb0 : Below w.heap.size w ((w.alloc (bxO a n c b m d 27)).alloc (bxO a2 n2 c2 b2 m2 d2 27)) := ((Below.refl _ _).alloc (Nat.le_refl _) _).alloc (by simp) _
  have bA := (bx_new (w := w) (bxL a n c b m d) 27 rfl).alloc (bxO a2 n2 c2 b2 m2 d2 27)
  have bB := bx_new (w := w.alloc (bxO a n c b m d 27)) (b := w.heap.size + 1) (bxL a2 n2 c2 b2 m2 d2) 27 (by simp)
  have x0 := bA.c0
  have x1 := bA.c1
  have y0 := bB.c0
  have y1 := bB.c1
  have hc := specPair a b a2 b2 n c m d n2 c2 m2 d2 f g f2 g2 ((w.alloc (bxO a n c b m d 27)).alloc (bxO a2 n2 c2 b2 m2 d2 27)) (hf.below hb0) (hg.below hb0) (hf2.below hb0) (hg2.below hb0)
  cases e1 : pairB n f m g n2 f2 m2 g2 with
  | false =>
    have e0 : withinB n f m g n2 f2 m2 g2 = false := by simp [withinB, e1]
    rw [e0]
    rw [e1] at hc
    go_enter Try.func5, Try.ntmps5
    go_wp2_with fail
    refine hc.mono ?_
    rintro e w1 ⟨rfl, hb1⟩
    have hB1 := stepA hb0 hb1
    clear hc
    go_wp2
    go_ret
    exact ⟨rfl, hB1⟩
  | true =>
    have e0 : withinB n f m g n2 f2 m2 g2 = allIn f g f2 g2 n := by simp [withinB, e1]
    rw [e0]
    rw [e1] at hc
    simp only [pairB, Bool.and_eq_true, decide_eq_true_eq] at e1
    obtain ⟨⟨g1, g3⟩, g4⟩ := e1
    obtain ⟨k1, k2, k3, _⟩ := boxB_len g1
    obtain ⟨_, _, k4, _⟩ := boxB_len g3
    subst g4 k3 k4
    go_enter Try.func5, Try.ntmps5
    go_wp2_with fail
    refine hc.mono ?_
    rintro e w1 ⟨rfl, hb1⟩
    have hB1 := stepA hb0 hb1
    have z0 := (bA.on hb1).c0
    have z1 := (bA.on hb1).c1
    have z2 := (bB.on hb1).c0
    have z3 := (bB.on hb1).c1
    clear hc x0 x1 y0 y1
    go_wp2_with fail
    refine (specIn _ _ _ _ _ _ _ _ _ f g f2 g2 _ k1 k2 (hf.below hB1) (hg.below hB1) (hf2.below hB1) (hg2.below hB1)).mono ?_
    rintro e w2 ⟨rfl, hb2⟩
    have hB2 := stepA hB1 hb2
    go_wp2
    go_ret
    exact ⟨rfl, hB2⟩
end Go.Proofs.Ytepfclngdelooab
