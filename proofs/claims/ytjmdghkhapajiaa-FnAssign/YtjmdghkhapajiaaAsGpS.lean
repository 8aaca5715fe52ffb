/- Whether prices are good, as the model says it. -/
import Derived.Test.YtjmdghkhapajiaaAsGp
import Derived.BigQuiet
namespace Go.Proofs.Ytjmdghkhapajiaa
open Go.RowKit
set_option maxHeartbeats 4000000 in
set_option maxRecDepth 20000 in
theorem sGoodP (a : Option Addr) (n c : Nat) (K : Nat → Nat) (F : Nat → Nat → Int) (w : World) (hn : n ≤ 1048576) (hK : ∀ i, i < n → K i ≤ 1048576) (h : RR w a n K F) :
    Calls Try.prog 20 #[.slice a n c] w fun e w' => e = .returned (.bool (gpB n K F)) ∧ Below w.heap.size w w' := by
  obtain ⟨A, C, hA⟩ := h
  by_cases h0 : n < 1
  · have j0 : (n : Int) < 1 := by omega
    have HV : Hid (gpB n K F = false) := by show gpB n K F = false; unfold gpB; rw [decide_eq_false (by omega)]; rfl
    go_enter Try.func20, Try.ntmps20
    go_wp2
    go_ret
    exact ⟨by rw [HV.out]; try rfl, Below.refl _ _⟩
  have j0 : ¬ (n : Int) < 1 := by omega
  by_cases h1 : 6 < n
  · have j1 : (6 : Int) < (n : Int) := by omega
    have HV : Hid (gpB n K F = false) := by show gpB n K F = false; unfold gpB; rw [decide_eq_false (by omega)]; rfl
    go_enter Try.func20, Try.ntmps20
    go_wp2
    go_ret
    exact ⟨by rw [HV.out]; try rfl, Below.refl _ _⟩
  have j1 : ¬ (6 : Int) < (n : Int) := by omega
  have HV : Hid (gpB n K F = gpK n K F n) := by show gpB n K F = _; unfold gpB; rw [decide_eq_true (by omega)]; rfl
  go_enter Try.func20, Try.ntmps20
  go_wp2
  go_loopw [18] (fun i wr => ∃ k : Nat, k ≤ n ∧ i = .int .i64 (k : Int) ∧ Hid (gpK n K F k = true) ∧ wr = w) (fun i _ => n - (intOf i).toNat)
  case atStart => exact ⟨0, Nat.zero_le _, rfl, (rfl : gpK n K F 0 = true), rfl⟩
  case round =>
    obtain ⟨k, hk, rfl, HE, hw⟩ := hrel
    have hw' := hw.symm
    clear hw
    subst hw'
    by_cases hlt : k < n
    · obtain ⟨gb, go_, rfl, gl_, x0⟩ := ll_at1 hA hlt
      have hrow := hA.row k hlt
      have hKk := hK k hlt
      have i0 : (0 : Int) ≤ (k : Int) := by omega
      have i1 : (k : Int) < (n : Int) := by omega
      have HY : Hid (K k = n → hasN (F k) n = false → gpK n K F (k + 1) = true) := fun h1 h2 => by show gpK n K F (k + 1) = true; unfold gpK rowP; rw [HE.out, h2, decide_eq_true h1]; rfl
      have HN : Hid ((¬ K k = n) ∨ hasN (F k) n = true → gpB n K F = false) := fun h1 => by
        show gpB n K F = false
        rw [HV.out]; refine gpK_no hlt ?_
        unfold rowP
        rcases h1 with h1 | h1
        · rw [decide_eq_false h1]; rfl
        · rw [h1]; simp
      generalize A k = Ak at x0 hrow
      generalize C k = Ck at x0
      generalize F k = f at hrow HY HN
      generalize K k = Kk at x0 hrow HY HN hKk
      clear hA hK
      by_cases e : Kk = n
      rotate_left
      · have e1 : ((Kk : Int) != (n : Int)) = true := by simp; omega
        have HV2 : Hid (gpB n K F = false) := HN.out (.inl e)
        clear HN HY e
        go_wp2
        go_ret
        exact ⟨ret_bool HV2.out.symm, Below.refl _ _⟩
      have e1 : ((Kk : Int) != (n : Int)) = false := by simp; omega
      have HY2 : Hid (hasN f n = false → gpK n K F (k + 1) = true) := HY.out e
      have HN2 : Hid (hasN f n = true → gpB n K F = false) := fun h => HN.out (.inr h)
      clear HN HY
      go_wp2_with fail
      go_loopw [28] (fun i wr => ∃ j : Nat, j ≤ n ∧ i = .int .i64 (j : Int) ∧ Hid (∀ p, p < j → noP (f p) = false) ∧ wr = w) (fun i _ => n - (intOf i).toNat)
      case atStart => exact ⟨0, Nat.zero_le _, rfl, fun j hj => absurd hj (Nat.not_lt_zero _), rfl⟩
      case round =>
        obtain ⟨j, hj, rfl, HJ, hw⟩ := hrel
        have hw' := hw.symm
        clear hw
        subst hw'
        have i2 : (0 : Int) ≤ (j : Int) := by omega
        by_cases hjl : j < n
        · obtain ⟨rb, ro, rfl, rl_, y0⟩ := il_at1 hrow (i := j) (by omega)
          have i3 : (j : Int) < (Kk : Int) := by omega
          by_cases g0 : f j < 0
          · have HV2 : Hid (gpB n K F = false) := HN2.out (hasN_t hjl (decide_eq_true (.inl g0)))
            clear HN2 HY2 HJ
            generalize f j = X at *
            go_wp2
            go_ret
            exact ⟨ret_bool HV2.out.symm, Below.refl _ _⟩
          by_cases g1 : 100000 < f j
          · have HV2 : Hid (gpB n K F = false) := HN2.out (hasN_t hjl (decide_eq_true (.inr g1)))
            clear HN2 HY2 HJ
            generalize f j = X at *
            go_wp2
            go_ret
            exact ⟨ret_bool HV2.out.symm, Below.refl _ _⟩
          have HJ2 : Hid (∀ p, p < j + 1 → noP (f p) = false) := fun p hp => by
            by_cases c : p = j
            · subst c; exact decide_eq_false (by omega)
            · exact HJ.out p (by omega)
          clear HJ HN2 HY2
          generalize f j = X at *
          go_wp2
          exact ⟨⟨j + 1, by omega, by go_num, HJ2, by first | trivial | rfl⟩, by simp [intOf]; omega⟩
        · have i3 : ¬ (j : Int) < (Kk : Int) := by omega
          have hjn : j = n := by omega
          have HV2 : Hid (gpK n K F (k + 1) = true) := HY2.out (hasN_none fun p hp => HJ.out p (by omega))
          clear HJ HN2 HY2 hrow
          go_wp2
          exact ⟨⟨k + 1, by omega, by go_num, HV2, by first | trivial | rfl⟩, by simp [intOf]; omega⟩
    · have hke : k = n := by omega
      subst hke
      go_wp2
      go_ret
      exact ⟨ret_bool (by rw [HV.out]; exact HE.out.symm), Below.refl _ _⟩
end Go.Proofs.Ytjmdghkhapajiaa
