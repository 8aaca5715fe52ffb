/- Lists of lists of different lengths: held. -/
import Derived.Test.YtjmdghkhapajiabChRkK
namespace Go.Proofs.Ytjmdghkhapajiab
open Go.RowKit
set_option maxHeartbeats 2000000 in
theorem heldK (a : Option Addr) (n cap k lo hi : Nat) (K : Nat → Nat) (w : World) (hn : n ≤ 1048576) (hk : k ≤ 1) (hs : sumK K n ≤ 1048576) (h : RK w lo hi a n K (mkK k K)) :
    Calls Try.prog 13 #[.slice a n cap, .int .i64 (k : Int)] w fun e w' => e = .returned (.int .i64 ((k + sumK K n : Nat) : Int)) ∧ w' = w := by
  by_cases h0 : 0 < n
  case neg =>
    have hm0 : n = 0 := by omega
    subst hm0
    go_enter Try.func13, Try.ntmps13
    go_wp2
    go_loopw [1, 5] (fun v i wr => v = .int .i64 (k : Int) ∧ i = .int .i64 0 ∧ wr = w) (fun _ _ _ => 0)
    case atStart => exact ⟨rfl, rfl, rfl⟩
    case round =>
      obtain ⟨rfl, rfl, hw⟩ := hrel
      have hw' := hw.symm
      clear hw
      subst hw'
      go_wp2
      go_ret
      exact ⟨ret_int (by simp [sumK]), rfl⟩
  case pos =>
    obtain ⟨g, A, C, hq⟩ := h h0
    obtain rfl := hq.at_
    have HR : Hid (Rk w lo hi (some ⟨g, 0, none⟩) n K (mkK k K) g A C) := hq
    have HL : Hid (∀ i, i < n → sumK K i + K i ≤ sumK K n) := fun i hi => sumK_le K n i hi
    have HM : Hid (∀ i, i ≤ n → sumK K i ≤ sumK K n) := fun i hi => sumK_mono K n i hi
    clear hq h
    go_enter Try.func13, Try.ntmps13
    go_wp2
    go_loopw [1, 5] (fun v i wr => ∃ (p Q : Nat), v = .int .i64 (Q : Int) ∧ i = .int .i64 (p : Int) ∧ p ≤ n ∧ Hid (Q = k + sumK K p) ∧ wr = w) (fun _ i _ => n - (intOf i).toNat)
    case atStart => exact ⟨0, k, rfl, rfl, Nat.zero_le _, (by show k = k + 0; omega), rfl⟩
    case round =>
      obtain ⟨p, Q, rfl, rfl, hp, HQ, hw⟩ := hrel
      have hw' := hw.symm
      clear hw
      subst hw'
      have hQ : Q ≤ 1048577 := by have := HQ.out; have := HM.out p hp; omega
      by_cases hlt : p < n
      · have x0 := HR.out.cell p hlt
        have hQ2 : Q + K p ≤ 1048577 := by have := HQ.out; have := HL.out p hlt; omega
        have hKp2 : K p ≤ 1048576 := by have := HL.out p hlt; omega
        have hLQ : LQ w lo hi (A p) (K p) (fun j => (Q : Int) + (j : Int)) := fun h9 => by
          obtain ⟨B, e1, e2, e3, e4, hr⟩ := HR.out.row p hlt h9
          exact ⟨B, e1, e2, e3, hr.congr fun j _ => by unfold mkK; rw [← HQ.out]⟩
        have j0 : (0 : Int) ≤ (p : Int) := by omega
        have j1 : (p : Int) < (n : Int) := by omega
        have kM := heldQ (A p) (K p) (C p) Q lo hi w (by omega) (by omega) hLQ
        have q1 : (0 : Int) ≤ (Q : Int) + (K p : Int) := by omega
        have q2 : ¬ (Q : Int) + (K p : Int) < 0 := by omega
        have HQ2 : Hid (Q + K p = k + sumK K (p + 1)) := by have := HQ.out; show Q + K p = k + (sumK K p + K p); omega
        clear hLQ HQ HL HM
        generalize K p = X at *
        generalize C p = Y at *
        generalize A p = Z at *
        go_wp2_with (first | (go_at_call 21; refine kM.mono ?_; rintro e9 w9 ⟨rfl, hw9⟩; have hs' := hw9.symm; clear hw9; subst hs') | (fail))
        exact ⟨⟨p + 1, Q + X, by go_num, by go_num, by omega, HQ2, trivial⟩, by simp [intOf]; omega⟩
      · have hpm : p = n := by omega
        subst hpm
        clear HR HL HM
        go_wp2
        go_ret
        exact ⟨ret_int (by rw [HQ.out]), rfl⟩
end Go.Proofs.Ytjmdghkhapajiab
