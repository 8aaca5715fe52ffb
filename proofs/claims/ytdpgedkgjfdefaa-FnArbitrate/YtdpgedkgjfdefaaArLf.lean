/- The first of the least is left: the model's look at what was told. -/
import Derived.Test.YtdpgedkgjfdefaaArS
namespace Go.Proofs.Ytdpgedkgjfdefaa
open Go.RowKit
theorem dfK_none (x y : Int) (h : ∀ d, d < 11 → ib x d = ib y d) : dfK x y 11 = -1 := dfK_same x y 11 h
set_option maxHeartbeats 4000000 in
theorem leastFirst_any (a b : Option Addr) (n c d : Nat) (f : Nat → Int) (K : Nat) (w : World) (hn : n ≤ 6) (hid : ∀ i, i < n → 0 ≤ f i ∧ f i ≤ 2047) (hK : Fst (lv n f 11) n K) (hf : IL w a n f) (hg : IL w b n (lv n f 11)) :
    Calls Try.prog 12 #[.slice a n c, .int .i64 (K : Int), .slice b n d] w fun e w' => e = .returned (.bool true) ∧ w' = w := by
  have HL : Hid (∀ i, i < n → f K ≤ f i ∧ ¬ (f i = f K ∧ i < K) ∧ lv n f 11 i = dfK (f i) (f K) 11) := fun i hi => least_first n f hid K hK i hi
  have HD : Hid (∀ i, i < n → 0 ≤ f i ∧ f i ≤ 2047) := hid
  have HF : Hid (IL w a n f) := hf
  have HG : Hid (IL w b n (lv n f 11)) := hg
  have hKn := hK.1
  clear hid hK hg
  obtain ⟨b0, o0, rfl, l0, hc0⟩ := hf (by omega)
  have y0 := hc0 K hKn
  have j0 : (0 : Int) ≤ (K : Int) := by omega
  have j1 : (K : Int) < (n : Int) := by omega
  have j3 : decide ((n : Int) ≤ (K : Int)) = false := decide_eq_false (by omega)
  have j4 : decide (n ≤ K) = false := decide_eq_false (by omega)
  have hdK := HD.out K hKn
  clear hc0
  generalize hM : f K = Mn at *
  have HM : Hid (f K = Mn) := hM
  clear hM
  go_enter Try.func12, Try.ntmps12
  go_wp2
  go_loopw [26] (fun i wr => ∃ k : Nat, k ≤ n ∧ i = .int .i64 (k : Int) ∧ wr = w) (fun i _ => n - (intOf i).toNat)
  case atStart => exact ⟨0, Nat.zero_le _, rfl, rfl⟩
  case round =>
    obtain ⟨k, hk, rfl, hw⟩ := hrel
    have hw' := hw.symm
    clear hw
    subst hw'
    by_cases hlt : k < n
    · obtain ⟨b1, o1, e1, l1, hc1⟩ := HF.out (by omega)
      cases e1
      have y1 := hc1 k hlt
      obtain ⟨b2, o2, rfl, l2, hc2⟩ := HG.out (by omega)
      have y2 := hc2 k hlt
      have i0 : (0 : Int) ≤ (k : Int) := by omega
      have i1 : (k : Int) < (n : Int) := by omega
      have hl := HL.out k hlt
      have hdk := HD.out k hlt
      have HV : Hid (lv n f 11 k = dfK (f k) Mn 11) := hl.2.2
      have h1 := hl.1
      have h2 := hl.2.1
      clear hc1 hc2 hl
      generalize f k = X at *
      generalize lv n f 11 k = V at *
      have t1 : ¬ X < Mn := by omega
      cases hq : (X == Mn) with
      | true =>
        have t2 : ¬ (k : Int) < (K : Int) := fun h => h2 ⟨eq_of_beq hq, by omega⟩
        clear h2
        go_wp2
        go_loopw [10, 11] (fun v i wr => ∃ q : Nat, q ≤ 11 ∧ v = .int .i64 (-1) ∧ ((q ≤ 10 ∧ ∃ Q : Nat, Q + q = 10 ∧ i = .int .i64 (Q : Int)) ∨ (q = 11 ∧ i = .int .i64 (-1))) ∧ Hid (∀ d, d < q → ib X d = ib Mn d) ∧ wr = w) (fun _ i _ => (intOf i + 1).toNat)
        case atStart => exact ⟨0, by omega, rfl, .inl ⟨by omega, 10, by omega, rfl⟩, (fun d h => absurd h (Nat.not_lt_zero _) : ∀ d, d < 0 → ib X d = ib Mn d), rfl⟩
        case round =>
          obtain ⟨q, hq11, rfl, hor, HA, hw⟩ := hrel
          have hw' := hw.symm
          clear hw
          subst hw'
          rcases hor with ⟨hq10, Q, hQ, rfl⟩ | ⟨hq1, rfl⟩
          · have a1 := ib_and X q hdk.1 hdk.2
            have a2 := ib_and Mn q hdK.1 hdK.2
            rw [show 10 - q = Q by omega] at a1 a2
            have k0 : (0 : Int) ≤ (Q : Int) := by omega
            have k1 : (Q : Int) ≤ 10 := by omega
            have HQ : Hid (Q + q = 10) := hQ
            have HS : Hid ((ib X q == ib Mn q) = true → ∀ d, d < q + 1 → ib X d = ib Mn d) := fun h d hd => by
              rcases Nat.lt_or_eq_of_le (Nat.le_of_lt_succ hd) with h2 | rfl
              · exact HA.out d h2
              · exact eq_of_beq h
            have HT : Hid ((ib X q == ib Mn q) = false → V = (q : Int)) := fun h => by
              rw [HV.out]; exact dfK_at X Mn 11 q (by omega) HA.out (ne_of_beq_false h)
            clear HA hQ
            generalize ib X q = A1 at *
            generalize ib Mn q = A2 at *
            cases hz : (A1 == A2) with
            | true =>
              have HR : Hid (∀ d, d < q + 1 → ib X d = ib Mn d) := HS.out hz
              clear HS HT
              go_wp2
              go_roundw
              case rel =>
                refine ⟨q + 1, by omega, rfl, ?_, HR, trivial⟩
                have h10 := HQ.out
                by_cases c0 : Q = 0
                · subst c0
                  exact .inr ⟨by omega, by go_num⟩
                · exact .inl ⟨by omega, Q - 1, by omega, by congr 1; omega⟩
              case measure => simp [intOf] <;> omega
            | false =>
              have hVq : V = 10 - (Q : Int) := by rw [HT.out hz]; have := HQ.out; omega
              subst hVq
              clear HS HT HV
              go_wp2
              go_roundw
              case rel => exact ⟨k + 1, by omega, by go_num, trivial⟩
              case measure => simp [intOf]; omega
          · subst hq1
            have hVq : V = -1 := by rw [HV.out]; exact dfK_same X Mn 11 HA.out
            subst hVq
            clear HV
            go_wp2
            go_roundw
            case rel => exact ⟨k + 1, by omega, by go_num, trivial⟩
            case measure => simp [intOf]; omega
      | false =>
        clear h2
        go_wp2
        go_loopw [10, 11] (fun v i wr => ∃ q : Nat, q ≤ 11 ∧ v = .int .i64 (-1) ∧ ((q ≤ 10 ∧ ∃ Q : Nat, Q + q = 10 ∧ i = .int .i64 (Q : Int)) ∨ (q = 11 ∧ i = .int .i64 (-1))) ∧ Hid (∀ d, d < q → ib X d = ib Mn d) ∧ wr = w) (fun _ i _ => (intOf i + 1).toNat)
        case atStart => exact ⟨0, by omega, rfl, .inl ⟨by omega, 10, by omega, rfl⟩, (fun d h => absurd h (Nat.not_lt_zero _) : ∀ d, d < 0 → ib X d = ib Mn d), rfl⟩
        case round =>
          obtain ⟨q, hq11, rfl, hor, HA, hw⟩ := hrel
          have hw' := hw.symm
          clear hw
          subst hw'
          rcases hor with ⟨hq10, Q, hQ, rfl⟩ | ⟨hq1, rfl⟩
          · have a1 := ib_and X q hdk.1 hdk.2
            have a2 := ib_and Mn q hdK.1 hdK.2
            rw [show 10 - q = Q by omega] at a1 a2
            have k0 : (0 : Int) ≤ (Q : Int) := by omega
            have k1 : (Q : Int) ≤ 10 := by omega
            have HQ : Hid (Q + q = 10) := hQ
            have HS : Hid ((ib X q == ib Mn q) = true → ∀ d, d < q + 1 → ib X d = ib Mn d) := fun h d hd => by
              rcases Nat.lt_or_eq_of_le (Nat.le_of_lt_succ hd) with h2 | rfl
              · exact HA.out d h2
              · exact eq_of_beq h
            have HT : Hid ((ib X q == ib Mn q) = false → V = (q : Int)) := fun h => by
              rw [HV.out]; exact dfK_at X Mn 11 q (by omega) HA.out (ne_of_beq_false h)
            clear HA hQ
            generalize ib X q = A1 at *
            generalize ib Mn q = A2 at *
            cases hz : (A1 == A2) with
            | true =>
              have HR : Hid (∀ d, d < q + 1 → ib X d = ib Mn d) := HS.out hz
              clear HS HT
              go_wp2
              go_roundw
              case rel =>
                refine ⟨q + 1, by omega, rfl, ?_, HR, trivial⟩
                have h10 := HQ.out
                by_cases c0 : Q = 0
                · subst c0
                  exact .inr ⟨by omega, by go_num⟩
                · exact .inl ⟨by omega, Q - 1, by omega, by congr 1; omega⟩
              case measure => simp [intOf] <;> omega
            | false =>
              have hVq : V = 10 - (Q : Int) := by rw [HT.out hz]; have := HQ.out; omega
              subst hVq
              clear HS HT HV
              go_wp2
              go_roundw
              case rel => exact ⟨k + 1, by omega, by go_num, trivial⟩
              case measure => simp [intOf]; omega
          · subst hq1
            have hVq : V = -1 := by rw [HV.out]; exact dfK_same X Mn 11 HA.out
            subst hVq
            clear HV
            go_wp2
            go_roundw
            case rel => exact ⟨k + 1, by omega, by go_num, trivial⟩
            case measure => simp [intOf]; omega
    · have : k = n := by omega
      subst this
      go_wp2
      go_ret
      exact ⟨rfl, rfl⟩
end Go.Proofs.Ytdpgedkgjfdefaa
