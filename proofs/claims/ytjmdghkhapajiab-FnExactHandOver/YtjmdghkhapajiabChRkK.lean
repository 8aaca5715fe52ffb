/- (marked) Lists of lists of different lengths, each in a block of its own: marked and looked at again. -/
import Derived.Test.YtjmdghkhapajiabChRkC
import Derived.Test.YtjmdghkhapajiabLqMark
namespace Go.Proofs.Ytjmdghkhapajiab
open Go.RowKit
/-- the numbers that a marking writes -/
def mkK (k : Nat) (K : Nat → Nat) (i j : Nat) : Int := ((k + sumK K i : Nat) : Int) + (j : Int)
/-- the rows below p are marked -/
def mrkK (k : Nat) (K : Nat → Nat) (R : Nat → Nat → Int) (p i : Nat) : Nat → Int := if i < p then mkK k K i else R i
set_option maxHeartbeats 2000000 in
theorem markK (a : Option Addr) (n cap k lo hi : Nat) (K : Nat → Nat) (R : Nat → Nat → Int) (w : World) (hn : n ≤ 1048576) (hk : k ≤ 1) (hs : sumK K n ≤ 1048576) (h : RK w lo hi a n K R) :
    Calls Try.prog 11 #[.slice a n cap, .int .i64 (k : Int)] w fun e w' => e = .returned (.int .i64 ((k + sumK K n : Nat) : Int)) ∧ RK w' lo hi a n K (mkK k K) ∧ Turns lo hi w w' := by
  by_cases h0 : 0 < n
  case neg =>
    have hm0 : n = 0 := by omega
    subst hm0
    go_enter Try.func11, Try.ntmps11
    go_wp2
    go_loopw [1, 5] (fun v i wr => v = .int .i64 (k : Int) ∧ i = .int .i64 0 ∧ wr = w) (fun _ _ _ => 0)
    case atStart => exact ⟨rfl, rfl, rfl⟩
    case round =>
      obtain ⟨rfl, rfl, hw⟩ := hrel
      have hw' := hw.symm
      clear hw
      subst hw'
      go_wp2
      go_ret
      exact ⟨ret_int (by simp [sumK]), fun h => by omega, turns_of (Below.refl _ _)⟩
  case pos =>
    obtain ⟨g, A, C, hq⟩ := h h0
    obtain rfl := hq.at_
    have HQ0 : Hid (Rk w lo hi (some ⟨g, 0, none⟩) n K (mrkK k K R 0) g A C) := by
      have : mrkK k K R 0 = R := by funext i; simp [mrkK]
      rw [this]; exact hq
    have HL : Hid (∀ i, i < n → sumK K i + K i ≤ sumK K n) := fun i hi => sumK_le K n i hi
    have HM : Hid (∀ i, i ≤ n → sumK K i ≤ sumK K n) := fun i hi => sumK_mono K n i hi
    clear hq h
    go_enter Try.func11, Try.ntmps11
    go_wp2
    go_loopw [1, 5] (fun v i wr => ∃ (p Q : Nat), v = .int .i64 (Q : Int) ∧ i = .int .i64 (p : Int) ∧ p ≤ n ∧ Hid (Q = k + sumK K p) ∧ Hid (Rk wr lo hi (some ⟨g, 0, none⟩) n K (mrkK k K R p) g A C) ∧ Turns lo hi w wr) (fun _ i _ => n - (intOf i).toNat)
    case atStart => exact ⟨0, k, rfl, rfl, Nat.zero_le _, (by show k = k + 0; omega), HQ0, turns_of (Below.refl _ _)⟩
    case round =>
      obtain ⟨p, Q, rfl, rfl, hp, HQ, HR, hT⟩ := hrel
      have hQ : Q ≤ 1048577 := by have := HQ.out; have := HM.out p hp; omega
      by_cases hlt : p < n
      · have x0 := HR.out.cell p hlt
        have hQ2 : Q + K p ≤ 1048577 := by have := HQ.out; have := HL.out p hlt; omega
        have hKp2 : K p ≤ 1048576 := by have := HL.out p hlt; omega
        have j0 : (0 : Int) ≤ (p : Int) := by omega
        have j1 : (p : Int) < (n : Int) := by omega
        have HQ2 : Hid (Q + K p = k + sumK K (p + 1)) := by have := HQ.out; show Q + K p = k + (sumK K p + K p); omega
        have q1 : (0 : Int) ≤ (Q : Int) + (K p : Int) := by omega
        by_cases hKp : 0 < K p
        · obtain ⟨B, eA, e2, e3, e4, hrow⟩ := HR.out.row p hlt hKp
          have hLQ : LQ wr B (B + 1) (A p) (K p) (mrkK k K R p p) := fun _ => ⟨B, eA, Nat.le_refl _, Nat.lt_succ_self _, hrow⟩
          have kM := markT (A p) (K p) (C p) Q B (B + 1) (mrkK k K R p p) wr (by omega) (by omega) hLQ
          have HR2' : ∀ w5, LQ w5 B (B + 1) (A p) (K p) (fun i => (Q : Int) + (i : Int)) → Turns B (B + 1) wr w5 → Rk w5 lo hi (some ⟨g, 0, none⟩) n K (mrkK k K R (p + 1)) g A C := fun w5 hL5 hT5 => by
            have hR := HR.out
            refine ⟨rfl, hR.glo, hR.ghi, Nat.lt_of_lt_of_le hR.glt hT5.size, fun i hi => (cell_same (hT5.block g hR.glt (by omega)) i).trans (hR.cell i hi), fun i hi h9 => ?_, hR.inj⟩
            by_cases e : i = p
            · subst e
              obtain ⟨b, e1, _, _, hI⟩ := hL5 hKp
              have e5 : b = B := by rw [eA] at e1; cases e1; rfl
              rw [e5] at hI
              refine ⟨B, eA, e2, e3, e4, hI.congr fun j _ => ?_⟩
              unfold mrkK mkK
              rw [if_pos (by omega), ← HQ.out]
            · obtain ⟨B', f1, f2, f3, f4, hr⟩ := hR.row i hi h9
              have hne : B' ≠ B := fun e6 => hR.inj i p hi hlt h9 hKp e (by rw [f1, eA, e6])
              have e7 := hT5.block B' hr.lt (by omega)
              have e8 : mrkK k K R (p + 1) i = mrkK k K R p i := by
                unfold mrkK
                by_cases e9 : i < p
                · rw [if_pos e9, if_pos (by omega)]
                · rw [if_neg e9, if_neg (by omega)]
              rw [e8]
              exact ⟨B', f1, f2, f3, f4, Nat.lt_of_lt_of_le hr.lt hT5.size, fun j hj => (cell_same e7 j).trans (hr.c j hj), fun j => (frozen_same e7 j).trans (hr.fz j)⟩
          have HR3 : Hid (∀ w5, LQ w5 B (B + 1) (A p) (K p) (fun i => (Q : Int) + (i : Int)) → Turns B (B + 1) wr w5 → Rk w5 lo hi (some ⟨g, 0, none⟩) n K (mrkK k K R (p + 1)) g A C) := HR2'
          clear hLQ hrow HQ0 HR2' HQ HR HL HM eA
          generalize K p = X at *
          generalize C p = Y at *
          generalize A p = Z at *
          go_wp2_with fail
          refine kM.mono ?_
          rintro e w5 ⟨rfl, hL5, hT5⟩
          have hT6 := hT.trans (hT5.wide e2 (by omega))
          have HR4 : Hid (Rk w5 lo hi (some ⟨g, 0, none⟩) n K (mrkK k K R (p + 1)) g A C) := HR3.out w5 hL5 hT5
          clear hL5 hT5 HR3 kM x0
          go_wp2
          exact ⟨⟨p + 1, Q + X, by go_num, by go_num, by omega, HQ2, HR4, hT6⟩, by simp [intOf]; omega⟩
        · have hz : K p = 0 := by omega
          have kM := (markI_zero (A p) (C p) Q wr)
          have HR4 : Hid (Rk wr lo hi (some ⟨g, 0, none⟩) n K (mrkK k K R (p + 1)) g A C) := by
            have hR := HR.out
            refine ⟨rfl, hR.glo, hR.ghi, hR.glt, hR.cell, fun i hi h9 => ?_, hR.inj⟩
            obtain ⟨B', f1, f2, f3, f4, hr⟩ := hR.row i hi h9
            have hne : i ≠ p := fun e6 => by subst e6; omega
            have e8 : mrkK k K R (p + 1) i = mrkK k K R p i := by
              unfold mrkK
              by_cases e9 : i < p
              · rw [if_pos e9, if_pos (by omega)]
              · rw [if_neg e9, if_neg (by omega)]
            rw [e8]
            exact ⟨B', f1, f2, f3, f4, hr⟩
          have HQ3 : Hid (Q = k + sumK K (p + 1)) := by have h9 := HQ2.out; show Q = k + sumK K (p + 1); omega
          rw [hz] at x0
          clear HQ0 HQ HR HL HM HQ2 hQ2 q1 hz hKp hKp2
          go_wp2_with fail
          refine kM.mono ?_
          rintro e w5 ⟨rfl, hw5⟩
          have hs5 := hw5.symm
          clear hw5
          subst hs5
          go_wp2
          exact ⟨⟨p + 1, Q, by go_num, by go_num, by omega, HQ3, HR4, hT⟩, by simp [intOf]; omega⟩
      · have hpm : p = n := by omega
        subst hpm
        have HR2 : Hid (Rk wr lo hi (some ⟨g, 0, none⟩) p K (mkK k K) g A C) := by
          have hR := HR.out
          exact ⟨rfl, hR.glo, hR.ghi, hR.glt, hR.cell, fun i hi h9 => by have := hR.row i hi h9; unfold mrkK at this; rwa [if_pos hi] at this, hR.inj⟩
        clear HR HQ0 HL HM
        go_wp2
        go_ret
        exact ⟨ret_int (by rw [HQ.out]), fun _ => ⟨g, A, C, HR2.out⟩, hT⟩
end Go.Proofs.Ytjmdghkhapajiab
