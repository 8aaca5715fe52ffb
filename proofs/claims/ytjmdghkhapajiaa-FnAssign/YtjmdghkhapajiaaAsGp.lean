/- Whether prices are good, both sides. -/
import Derived.Test.YtjmdghkhapajiaaAsM
import Derived.Test.YtjmdghkhapajiaaLqBase
import Derived.BigQuiet
namespace Go.Proofs.Ytjmdghkhapajiaa
open Go.RowKit
theorem hasN_none {f : Nat → Int} : ∀ {n : Nat}, (∀ j, j < n → noP (f j) = false) → hasN f n = false
  | 0, _ => rfl
  | n + 1, h => by unfold hasN; rw [hasN_none fun j hj => h j (by omega), h n (by omega)]; rfl
set_option maxHeartbeats 1000000 in
theorem iNoP (x : Int) (w : World) : Calls Try.prog 47 #[.int .i64 x] w fun e w' => e = .returned (.bool (noP x)) ∧ w' = w := by
  by_cases h0 : x < 0
  · go_enter Try.func47, Try.ntmps47
    go_wp2
    go_ret
    exact ⟨ret_bool (decide_eq_true (by omega)).symm, rfl⟩
  by_cases h1 : 100000 < x
  · go_enter Try.func47, Try.ntmps47
    go_wp2
    go_ret
    exact ⟨ret_bool (decide_eq_true (by omega)).symm, rfl⟩
  · go_enter Try.func47, Try.ntmps47
    go_wp2
    go_ret
    exact ⟨ret_bool (by first | exact (decide_eq_false (by omega)).symm | exact decide_eq_decide.2 (by omega)), rfl⟩
set_option maxHeartbeats 1000000 in
theorem iIdxN (a : Option Addr) (n c : Nat) (F : Nat → Int) (w : World) (hn : n ≤ 1048576) (ha : IL w a n F) :
    Calls Try.prog 54 #[.slice a n c, .func (.func 47) #[] #[]] w fun e w' => (∃ z : Int, e = .returned (.int .i64 z) ∧ hasN F n = decide (0 ≤ z)) ∧ w' = w := by
  have HN : Hid (∀ k, k < n → noP (F k) = true → hasN F n = true) := fun k hk h => by
    exact hasN_t hk h
  go_enter Try.func54, Try.ntmps54
  go_wp2
  go_loopw [8] (fun i wr => ∃ k : Nat, k ≤ n ∧ i = .int .i64 (k : Int) ∧ Hid (∀ j, j < k → noP (F j) = false) ∧ wr = w) (fun i _ => n - (intOf i).toNat)
  case atStart => exact ⟨0, Nat.zero_le _, rfl, fun j hj => absurd hj (Nat.not_lt_zero _), rfl⟩
  case round =>
    obtain ⟨k, hk, rfl, HE, hw⟩ := hrel
    have hw' := hw.symm
    clear hw
    subst hw'
    by_cases hlt : k < n
    · obtain ⟨b1, o1, rfl, l1, hc1⟩ := ha (by omega)
      have y1 := hc1 k hlt
      have j0 : (0 : Int) ≤ (k : Int) := by omega
      have j1 : (k : Int) < (n : Int) := by omega
      have HN2 : Hid (noP (F k) = true → hasN F n = true) := HN.out k hlt
      have HE2 : Hid (noP (F k) = false → ∀ j, j < k + 1 → noP (F j) = false) := fun h j hj => by
        by_cases e : j = k
        · subst e; exact h
        · exact HE.out j (by omega)
      have kB := iNoP (F k) w
      clear hc1 ha HN HE
      generalize noP (F k) = B at *
      generalize F k = X at *
      cases B with
      | true =>
        have HR : Hid (hasN F n = true) := HN2.out rfl
        clear HN2 HE2
        go_wp2_with (first | (go_at_call 47; refine kB.mono ?_; rintro e w9 ⟨rfl, hw9⟩; have hs' := hw9.symm; clear hw9 kB; subst hs') | fail)
        go_ret
        exact ⟨⟨(k : Int), rfl, by rw [HR.out]; simp⟩, rfl⟩
      | false =>
        have HR : Hid (∀ j, j < k + 1 → noP (F j) = false) := HE2.out rfl
        clear HN2 HE2
        go_wp2_with (first | (go_at_call 47; refine kB.mono ?_; rintro e w9 ⟨rfl, hw9⟩; have hs' := hw9.symm; clear hw9 kB; subst hs') | fail)
        exact ⟨⟨k + 1, by omega, by go_num, HR, by first | trivial | rfl⟩, by simp [intOf]; omega⟩
    · have : k = n := by omega
      subst this
      have HR : Hid (hasN F k = false) := by
        exact hasN_none HE.out
      go_wp2
      go_ret
      exact ⟨⟨-1, rfl, by rw [HR.out]; rfl⟩, rfl⟩
set_option maxHeartbeats 1000000 in
theorem iConN (a : Option Addr) (n c : Nat) (F : Nat → Int) (w : World) (hn : n ≤ 1048576) (ha : IL w a n F) :
    Calls Try.prog 46 #[.slice a n c, .func (.func 47) #[] #[]] w fun e w' => e = .returned (.bool (hasN F n)) ∧ w' = w := by
  have k := iIdxN a n c F w hn ha
  generalize hasN F n = B at *
  go_enter Try.func46, Try.ntmps46
  go_wp2_with fail
  refine k.mono ?_
  rintro e w2 ⟨⟨z, rfl, hz⟩, hw2⟩
  have hs2 := hw2.symm
  clear hw2 k
  subst hs2 hz
  go_wp2
  go_ret
  exact ⟨rfl, rfl⟩
set_option maxHeartbeats 4000000 in
set_option maxRecDepth 20000 in
theorem iGoodP (a : Option Addr) (n c : Nat) (K : Nat → Nat) (F : Nat → Nat → Int) (w : World) (hn : n ≤ 1048576) (hK : ∀ i, i < n → K i ≤ 1048576) (h : RR w a n K F) :
    Calls Try.prog 22 #[.slice a n c] w fun e w' => e = .returned (.bool (gpB n K F)) ∧ Below w.heap.size w w' := by
  obtain ⟨A, C, hA⟩ := h
  by_cases h0 : n < 1
  · have j0 : (n : Int) < 1 := by omega
    have HV : Hid (gpB n K F = false) := by show gpB n K F = false; unfold gpB; rw [decide_eq_false (by omega)]; rfl
    go_enter Try.func22, Try.ntmps22
    go_wp2
    go_ret
    exact ⟨by rw [HV.out]; try rfl, Below.refl _ _⟩
  have j0 : ¬ (n : Int) < 1 := by omega
  by_cases h1 : 6 < n
  · have j1 : (6 : Int) < (n : Int) := by omega
    have HV : Hid (gpB n K F = false) := by show gpB n K F = false; unfold gpB; rw [decide_eq_false (by omega)]; rfl
    go_enter Try.func22, Try.ntmps22
    go_wp2
    go_ret
    exact ⟨by rw [HV.out]; try rfl, Below.refl _ _⟩
  have j1 : ¬ (6 : Int) < (n : Int) := by omega
  have HV : Hid (gpB n K F = gpK n K F n) := by show gpB n K F = _; unfold gpB; rw [decide_eq_true (by omega)]; rfl
  go_enter Try.func22, Try.ntmps22
  go_wp2
  go_loopw [15] (fun i wr => ∃ k : Nat, k ≤ n ∧ i = .int .i64 (k : Int) ∧ Hid (gpK n K F k = true) ∧ wr = w) (fun i _ => n - (intOf i).toNat)
  case atStart => exact ⟨0, Nat.zero_le _, rfl, (rfl : gpK n K F 0 = true), rfl⟩
  case round =>
    obtain ⟨k, hk, rfl, HE, hw⟩ := hrel
    have hw' := hw.symm
    clear hw
    subst hw'
    by_cases hlt : k < n
    · obtain ⟨gb, go_, rfl, gl_, x0⟩ := ll_at1 hA hlt
      have hrow := hA.row k hlt
      have hKk := hK k hlt
      have i0 : (0 : Int) ≤ (k : Int) := by omega
      have i1 : (k : Int) < (n : Int) := by omega
      have HY : Hid (K k = n → hasN (F k) n = false → gpK n K F (k + 1) = true) := fun h1 h2 => by show gpK n K F (k + 1) = true; unfold gpK rowP; rw [HE.out, h2, decide_eq_true h1]; rfl
      have HN : Hid ((¬ K k = n) ∨ hasN (F k) n = true → gpB n K F = false) := fun h1 => by
        show gpB n K F = false
        rw [HV.out]; refine gpK_no hlt ?_
        unfold rowP
        rcases h1 with h1 | h1
        · rw [decide_eq_false h1]; rfl
        · rw [h1]; simp
      generalize A k = Ak at x0 hrow
      generalize C k = Ck at x0
      generalize F k = f at hrow HY HN
      generalize K k = Kk at x0 hrow HY HN hKk
      clear hA hK
      by_cases e : Kk = n
      rotate_left
      · have e1 : ((Kk : Int) != (n : Int)) = true := by simp; omega
        have HV2 : Hid (gpB n K F = false) := HN.out (.inl e)
        clear HN HY e
        go_wp2
        go_ret
        exact ⟨ret_bool HV2.out.symm, Below.refl _ _⟩
      have e1 : ((Kk : Int) != (n : Int)) = false := by simp; omega
      have HY2 : Hid (hasN f n = false → gpK n K F (k + 1) = true) := HY.out e
      have HN2 : Hid (hasN f n = true → gpB n K F = false) := fun h => HN.out (.inr h)
      clear HN HY
      rw [e] at hrow
      have kC := iConN Ak n Ck f w hn hrow
      have kC2 : Calls Try.prog 46 #[.slice Ak Kk Ck, .func (.func 47) #[] #[]] w fun e w' => e = .returned (.bool (hasN f n)) ∧ w' = w := by rw [e]; exact kC
      clear kC hrow e
      cases eh : hasN f n with
      | true =>
        have HV2 : Hid (gpB n K F = false) := HN2.out eh
        rw [eh] at kC2
        clear eh HN2 HY2
        go_wp2_with (first | (go_at_call 46; refine kC2.mono ?_; rintro e w9 ⟨rfl, hw9⟩; have hs' := hw9.symm; clear hw9 kC2; subst hs') | fail)
        go_ret
        exact ⟨ret_bool HV2.out.symm, Below.refl _ _⟩
      | false =>
        have HV2 : Hid (gpK n K F (k + 1) = true) := HY2.out eh
        rw [eh] at kC2
        clear eh HN2 HY2
        go_wp2_with (first | (go_at_call 46; refine kC2.mono ?_; rintro e w9 ⟨rfl, hw9⟩; have hs' := hw9.symm; clear hw9 kC2; subst hs') | fail)
        exact ⟨⟨k + 1, by omega, by go_num, HV2, by first | trivial | rfl⟩, by simp [intOf]; omega⟩
    · have hke : k = n := by omega
      subst hke
      go_wp2
      go_ret
      exact ⟨ret_bool (by rw [HV.out]; exact HE.out.symm), Below.refl _ _⟩
end Go.Proofs.Ytjmdghkhapajiaa
