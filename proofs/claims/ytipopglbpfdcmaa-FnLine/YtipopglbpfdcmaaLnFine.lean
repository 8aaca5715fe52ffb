/- Whether a line is fine: what the model looks at. -/
import Derived.Test.YtipopglbpfdcmaaLnLaw
import Derived.Test.YtipopglbpfdcmaaCurPick
namespace Go.Proofs.Ytipopglbpfdcmaa
open Go.RowKit

theorem ln_bd {x1 y1 x2 y2 : Int} (h : lnB x1 y1 x2 y2 = true) {k : Nat} (hk : k ≤ steps (ab (x2 - x1)) (ab (y2 - y1))) : (-5000 ≤ lnX x1 y1 x2 y2 k ∧ lnX x1 y1 x2 y2 k ≤ 5000) ∧ (-5000 ≤ lnY x1 y1 x2 y2 k ∧ lnY x1 y1 x2 y2 k ≤ 5000) :=
  ⟨(rnd_at h k hk).bx, (rnd_at h k hk).byy⟩
theorem ln_step {x1 y1 x2 y2 : Int} (h : lnB x1 y1 x2 y2 = true) {k : Nat} (hk : k < steps (ab (x2 - x1)) (ab (y2 - y1))) : ab (lnX x1 y1 x2 y2 (k + 1) - lnX x1 y1 x2 y2 k) ≤ 1 ∧ ab (lnY x1 y1 x2 y2 (k + 1) - lnY x1 y1 x2 y2 k) ≤ 1 := by
  obtain ⟨n1, n2, -⟩ := (rnd_at h k (by omega)).next hk
  have s1 := (ab_sgn (x2 - x1)).2.2
  have s2 := (ab_sgn (y2 - y1)).2.2
  rw [n1, n2]
  generalize lnX x1 y1 x2 y2 k = x
  generalize lnY x1 y1 x2 y2 k = y
  generalize sgn1 (x2 - x1) = sx at *
  generalize sgn1 (y2 - y1) = sy at *
  unfold ab
  constructor
  · split <;> split <;> omega
  · split <;> split <;> omega
theorem ln_zero (x1 y1 x2 y2 : Int) : lnX x1 y1 x2 y2 0 = x1 ∧ lnY x1 y1 x2 y2 0 = y1 := by simp [lnX, lnY, pt]
theorem ln_last {x1 y1 x2 y2 : Int} (h : lnB x1 y1 x2 y2 = true) : lnX x1 y1 x2 y2 (steps (ab (x2 - x1)) (ab (y2 - y1))) = x2 ∧ lnY x1 y1 x2 y2 (steps (ab (x2 - x1)) (ab (y2 - y1))) = y2 :=
  (rnd_at h _ (Nat.le_refl _)).fin rfl

set_option maxHeartbeats 4000000 in
theorem fine_any (x1 y1 x2 y2 : Int) (a : Option Addr) (c lo hi : Nat) (w : World) (h : lnB x1 y1 x2 y2 = true) (hL : LP w lo hi a (steps (ab (x2 - x1)) (ab (y2 - y1)) + 1) (lnX x1 y1 x2 y2) (lnY x1 y1 x2 y2)) :
    Calls Try.prog 11 #[.slice a (steps (ab (x2 - x1)) (ab (y2 - y1)) + 1) c, .int .i64 x1, .int .i64 y1, .int .i64 x2, .int .i64 y2] w fun e w' => e = .returned (.bool true) ∧ Below w.heap.size w w' := by
  obtain ⟨h1, h2, h3, h4⟩ := lnB_parts h
  have b1 := inK_t h1
  have b2 := inK_t h2
  have b3 := inK_t h3
  have b4 := inK_t h4
  have p4 : ab (x2 - x1) ≤ 2000 ∧ 0 ≤ ab (x2 - x1) := by unfold ab; split <;> omega
  have q4 : ab (y2 - y1) ≤ 2000 ∧ 0 ≤ ab (y2 - y1) := by unfold ab; split <;> omega
  have hn : ((steps (ab (x2 - x1)) (ab (y2 - y1)) : Nat) : Int) = max (ab (x2 - x1)) (ab (y2 - y1)) := by unfold steps; omega
  have a1 := l4Abs_any (x2 - x1)
  have a2 := l4Abs_any (y2 - y1)
  have hbd := fun k hk => ln_bd h (k := k) hk
  have hst := fun k hk => ln_step h (k := k) hk
  have hz := ln_zero x1 y1 x2 y2
  have hl := ln_last h
  generalize ab (x2 - x1) = ax at *
  generalize ab (y2 - y1) = ay at *
  generalize steps ax ay = n at *
  generalize lnX x1 y1 x2 y2 = X at *
  generalize lnY x1 y1 x2 y2 = Y at *
  obtain ⟨g, B, rfl, -, -, hg, hc, hP, -⟩ := hL (by omega)
  clear hL h h1 h2 h3 h4
  replace hP : ∀ i, i < n + 1 → IP w (B i) 2 (pr (X i) (Y i)) := fun i hi => (hP i hi).2.2
  go_enter Try.func11, Try.ntmps11
  go_wp2_with fail
  refine (a1 _ (by omega)).mono ?_
  rintro e w1 ⟨rfl, hw1⟩
  have hs1 := hw1.symm
  clear hw1
  subst hs1
  go_wp2_with fail
  refine (a2 _ (by omega)).mono ?_
  rintro e w1 ⟨rfl, hw1⟩
  have hs1 := hw1.symm
  clear hw1 a1 a2
  subst hs1
  by_cases hm : ax < ay
  · have en : ay = (n : Int) := by omega
    subst en
    clear hn
    go_wp2
    go_loopw [34] (fun i wr => ∃ k : Nat, k ≤ n + 1 ∧ i = .int .i64 k ∧ Below w.heap.size w wr) (fun i _ => n + 1 - (intOf i).toNat)
    case atStart => exact ⟨0, Nat.zero_le _, rfl, Below.refl _ _⟩
    case round =>
      obtain ⟨k, hk, rfl, hB⟩ := hrel
      by_cases hlt : k < n + 1
      · have x1' := (hB.cell (p := ⟨g, k, none⟩) hg).trans (hc k hlt)
        have P1 := (hP k hlt).below hB (hP k hlt).lt
        have y0 : wr.cell? ⟨B k, 0, none⟩ = some (.int .i64 (X k)) := P1.c 0 (by omega)
        have y1' : wr.cell? ⟨B k, 1, none⟩ = some (.int .i64 (Y k)) := P1.c 1 (by omega)
        have j1 : (k : Int) < (n : Int) + 1 := by omega
        have j0 : (0 : Int) ≤ (k : Int) := by omega
        have d0 := hbd k (by omega)
        clear P1
        by_cases k0 : k = 0
        · subst k0
          clear hc hP hbd hst
          go_wp2_with fail
          go_quiet (fail)
          go_wp2
          refine ⟨⟨1, by omega, rfl, ?_⟩, by simp [intOf]⟩
          first | exact hB | exact below_dr hB _ | exact hB.drew
        · have x2' := (hB.cell (p := ⟨g, k - 1, none⟩) hg).trans (hc (k - 1) (by omega))
          have P2 := (hP (k - 1) (by omega)).below hB (hP (k - 1) (by omega)).lt
          have z0 : wr.cell? ⟨B (k - 1), 0, none⟩ = some (.int .i64 (X (k - 1))) := P2.c 0 (by omega)
          have z1 : wr.cell? ⟨B (k - 1), 1, none⟩ = some (.int .i64 (Y (k - 1))) := P2.c 1 (by omega)
          have d1 := hbd (k - 1) (by omega)
          have d2 := hst (k - 1) (by omega)
          rw [show k - 1 + 1 = k by omega] at d2
          have c1 := fun w => l4Abs_any (X k - X (k - 1)) w (by omega)
          have c2 := fun w => l4Abs_any (Y k - Y (k - 1)) w (by omega)
          clear hc hP hbd hst P2
          generalize ab (X k - X (k - 1)) = u1 at d2 c1
          generalize ab (Y k - Y (k - 1)) = u2 at d2 c2
          generalize X k = xa at y0 d0 c1
          generalize Y k = ya at y1' d0 c2
          generalize X (k - 1) = xb at z0 d1 c1
          generalize Y (k - 1) = yb at z1 d1 c2
          have i2 : (0 : Int) < (k : Int) := by omega
          have i3 : (0 : Int) ≤ (k : Int) - 1 := by omega
          have i4 : (k : Int) - 1 < (n : Int) + 1 := by omega
          have q0 : decide (0 < k) = true := decide_eq_true (by omega)
          have q1 : decide ((1 : Int) < u1) = false := decide_eq_false (by omega)
          have q2 : decide ((1 : Int) < u2) = false := decide_eq_false (by omega)
          go_wp2_with fail
          go_quiet (first | (go_at_call_of 35 xa; exact Calls.quiet_of_same (c1 _)) | (go_at_call_of 35 ya; exact Calls.quiet_of_same (c2 _)))
          go_wp2
          go_roundw
          case rel =>
            refine ⟨k + 1, by omega, by go_num, ?_⟩
            repeat' (first | exact hB | refine below_dr ?_ _)
          case measure => simp [intOf]; omega
      · have hke : k = n + 1 := by omega
        subst hke
        have x1' := (hB.cell (p := ⟨g, 0, none⟩) hg).trans (hc 0 (by omega))
        have P1 := (hP 0 (by omega)).below hB (hP 0 (by omega)).lt
        have y0 : wr.cell? ⟨B 0, 0, none⟩ = some (.int .i64 (X 0)) := P1.c 0 (by omega)
        have y1' : wr.cell? ⟨B 0, 1, none⟩ = some (.int .i64 (Y 0)) := P1.c 1 (by omega)
        have x2' := (hB.cell (p := ⟨g, n, none⟩) hg).trans (hc n (by omega))
        have P2 := (hP n (by omega)).below hB (hP n (by omega)).lt
        have z0 : wr.cell? ⟨B n, 0, none⟩ = some (.int .i64 (X n)) := P2.c 0 (by omega)
        have z1 : wr.cell? ⟨B n, 1, none⟩ = some (.int .i64 (Y n)) := P2.c 1 (by omega)
        rw [hz.1] at y0
        rw [hz.2] at y1'
        rw [hl.1] at z0
        rw [hl.2] at z1
        have i3 : (0 : Int) ≤ (n : Int) := by omega
        have i4 : (n : Int) < (n : Int) + 1 := by omega
        clear hc hP hbd hst P1 P2 hz hl
        go_wp2_with fail
        first | go_quiet (fail) | skip
        go_wp2
        go_ret
        refine ⟨rfl, ?_⟩
        repeat' (first | exact hB | refine below_dr ?_ _)
  · have en : ax = (n : Int) := by omega
    subst en
    clear hn
    go_wp2
    go_loopw [34] (fun i wr => ∃ k : Nat, k ≤ n + 1 ∧ i = .int .i64 k ∧ Below w.heap.size w wr) (fun i _ => n + 1 - (intOf i).toNat)
    case atStart => exact ⟨0, Nat.zero_le _, rfl, Below.refl _ _⟩
    case round =>
      obtain ⟨k, hk, rfl, hB⟩ := hrel
      by_cases hlt : k < n + 1
      · have x1' := (hB.cell (p := ⟨g, k, none⟩) hg).trans (hc k hlt)
        have P1 := (hP k hlt).below hB (hP k hlt).lt
        have y0 : wr.cell? ⟨B k, 0, none⟩ = some (.int .i64 (X k)) := P1.c 0 (by omega)
        have y1' : wr.cell? ⟨B k, 1, none⟩ = some (.int .i64 (Y k)) := P1.c 1 (by omega)
        have j1 : (k : Int) < (n : Int) + 1 := by omega
        have j0 : (0 : Int) ≤ (k : Int) := by omega
        have d0 := hbd k (by omega)
        clear P1
        by_cases k0 : k = 0
        · subst k0
          clear hc hP hbd hst
          go_wp2_with fail
          go_quiet (fail)
          go_wp2
          refine ⟨⟨1, by omega, rfl, ?_⟩, by simp [intOf]⟩
          first | exact hB | exact below_dr hB _ | exact hB.drew
        · have x2' := (hB.cell (p := ⟨g, k - 1, none⟩) hg).trans (hc (k - 1) (by omega))
          have P2 := (hP (k - 1) (by omega)).below hB (hP (k - 1) (by omega)).lt
          have z0 : wr.cell? ⟨B (k - 1), 0, none⟩ = some (.int .i64 (X (k - 1))) := P2.c 0 (by omega)
          have z1 : wr.cell? ⟨B (k - 1), 1, none⟩ = some (.int .i64 (Y (k - 1))) := P2.c 1 (by omega)
          have d1 := hbd (k - 1) (by omega)
          have d2 := hst (k - 1) (by omega)
          rw [show k - 1 + 1 = k by omega] at d2
          have c1 := fun w => l4Abs_any (X k - X (k - 1)) w (by omega)
          have c2 := fun w => l4Abs_any (Y k - Y (k - 1)) w (by omega)
          clear hc hP hbd hst P2
          generalize ab (X k - X (k - 1)) = u1 at d2 c1
          generalize ab (Y k - Y (k - 1)) = u2 at d2 c2
          generalize X k = xa at y0 d0 c1
          generalize Y k = ya at y1' d0 c2
          generalize X (k - 1) = xb at z0 d1 c1
          generalize Y (k - 1) = yb at z1 d1 c2
          have i2 : (0 : Int) < (k : Int) := by omega
          have i3 : (0 : Int) ≤ (k : Int) - 1 := by omega
          have i4 : (k : Int) - 1 < (n : Int) + 1 := by omega
          have q0 : decide (0 < k) = true := decide_eq_true (by omega)
          have q1 : decide ((1 : Int) < u1) = false := decide_eq_false (by omega)
          have q2 : decide ((1 : Int) < u2) = false := decide_eq_false (by omega)
          go_wp2_with fail
          go_quiet (first | (go_at_call_of 35 xa; exact Calls.quiet_of_same (c1 _)) | (go_at_call_of 35 ya; exact Calls.quiet_of_same (c2 _)))
          go_wp2
          go_roundw
          case rel =>
            refine ⟨k + 1, by omega, by go_num, ?_⟩
            repeat' (first | exact hB | refine below_dr ?_ _)
          case measure => simp [intOf]; omega
      · have hke : k = n + 1 := by omega
        subst hke
        have x1' := (hB.cell (p := ⟨g, 0, none⟩) hg).trans (hc 0 (by omega))
        have P1 := (hP 0 (by omega)).below hB (hP 0 (by omega)).lt
        have y0 : wr.cell? ⟨B 0, 0, none⟩ = some (.int .i64 (X 0)) := P1.c 0 (by omega)
        have y1' : wr.cell? ⟨B 0, 1, none⟩ = some (.int .i64 (Y 0)) := P1.c 1 (by omega)
        have x2' := (hB.cell (p := ⟨g, n, none⟩) hg).trans (hc n (by omega))
        have P2 := (hP n (by omega)).below hB (hP n (by omega)).lt
        have z0 : wr.cell? ⟨B n, 0, none⟩ = some (.int .i64 (X n)) := P2.c 0 (by omega)
        have z1 : wr.cell? ⟨B n, 1, none⟩ = some (.int .i64 (Y n)) := P2.c 1 (by omega)
        rw [hz.1] at y0
        rw [hz.2] at y1'
        rw [hl.1] at z0
        rw [hl.2] at z1
        have i3 : (0 : Int) ≤ (n : Int) := by omega
        have i4 : (n : Int) < (n : Int) + 1 := by omega
        clear hc hP hbd hst P1 P2 hz hl
        go_wp2_with fail
        first | go_quiet (fail) | skip
        go_wp2
        go_ret
        refine ⟨rfl, ?_⟩
        repeat' (first | exact hB | refine below_dr ?_ _)
end Go.Proofs.Ytipopglbpfdcmaa
