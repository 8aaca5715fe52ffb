/- The two words among names, as the program finds them. -/
import Derived.Test.YtmlfijapndkfhaaDoorQWhWtM
namespace Go.Proofs.YtmlfijapndkfhaaDoor
open Go.RowKit
set_option maxHeartbeats 1000000 in
theorem iIsW (s : ByteArray) (w : World) : Calls Tryd.prog 38 #[.string s] w fun e w' => e = .returned (.bool (isW s)) ∧ w' = w := by
  unfold isW
  by_cases e1 : s.toList = [114, 101, 97, 99, 104]
  · go_enter Tryd.func38, Tryd.ntmps38
    go_wp2
    go_ret
    exact ⟨by simp [e1], rfl⟩
  · go_enter Tryd.func38, Tryd.ntmps38
    go_wp2
    go_ret
    exact ⟨rfl, rfl⟩
set_option maxHeartbeats 1000000 in
theorem iIdxW (a : Option Addr) (n c : Nat) (F : Nat → ByteArray) (w : World) (hn : n ≤ 1048576) (ha : SL w a n F) :
    Calls Tryd.prog 60 #[.slice a n c, .func (.func 38) #[] #[]] w fun e w' => (∃ z : Int, e = .returned (.int .i64 z) ∧ hwB F n = decide (0 ≤ z)) ∧ w' = w := by
  have HN : Hid (∀ k, k < n → isW (F k) = true → hwB F n = true) := fun k hk h => by
    unfold hwB; exact decide_eq_true ⟨k, hk, h⟩
  go_enter Tryd.func60, Tryd.ntmps60
  go_wp2
  go_loopw [8] (fun i wr => ∃ k : Nat, k ≤ n ∧ i = .int .i64 (k : Int) ∧ Hid (∀ j, j < k → isW (F j) = false) ∧ wr = w) (fun i _ => n - (intOf i).toNat)
  case atStart => exact ⟨0, Nat.zero_le _, rfl, fun j hj => absurd hj (Nat.not_lt_zero _), rfl⟩
  case round =>
    obtain ⟨k, hk, rfl, HE, hw⟩ := hrel
    have hw' := hw.symm
    clear hw
    subst hw'
    by_cases hlt : k < n
    · obtain ⟨b1, o1, rfl, l1, hc1⟩ := ha (by omega)
      have y1 := hc1 k hlt
      have j0 : (0 : Int) ≤ (k : Int) := by omega
      have j1 : (k : Int) < (n : Int) := by omega
      have HN2 : Hid (isW (F k) = true → hwB F n = true) := HN.out k hlt
      have HE2 : Hid (isW (F k) = false → ∀ j, j < k + 1 → isW (F j) = false) := fun h j hj => by
        by_cases e : j = k
        · subst e; exact h
        · exact HE.out j (by omega)
      have kB := iIsW (F k) w
      clear hc1 ha HN HE
      generalize isW (F k) = B at *
      generalize F k = X at *
      cases B with
      | true =>
        have HR : Hid (hwB F n = true) := HN2.out rfl
        clear HN2 HE2
        go_wp2_with (first | (go_at_call 38; refine kB.mono ?_; rintro e w9 ⟨rfl, hw9⟩; have hs' := hw9.symm; clear hw9 kB; subst hs') | fail)
        go_ret
        exact ⟨⟨(k : Int), rfl, by rw [HR.out]; simp⟩, rfl⟩
      | false =>
        have HR : Hid (∀ j, j < k + 1 → isW (F j) = false) := HE2.out rfl
        clear HN2 HE2
        go_wp2_with (first | (go_at_call 38; refine kB.mono ?_; rintro e w9 ⟨rfl, hw9⟩; have hs' := hw9.symm; clear hw9 kB; subst hs') | fail)
        exact ⟨⟨k + 1, by omega, by go_num, HR, by first | trivial | rfl⟩, by simp [intOf]; omega⟩
    · have : k = n := by omega
      subst this
      have HR : Hid (hwB F k = false) := by
        show hwB F k = false
        unfold hwB; exact decide_eq_false fun ⟨i, hi, h⟩ => by rw [HE.out i hi] at h; cases h
      go_wp2
      go_ret
      exact ⟨⟨-1, rfl, by rw [HR.out]; rfl⟩, rfl⟩
set_option maxHeartbeats 1000000 in
theorem iConW (a : Option Addr) (n c : Nat) (F : Nat → ByteArray) (w : World) (hn : n ≤ 1048576) (ha : SL w a n F) :
    Calls Tryd.prog 37 #[.slice a n c, .func (.func 38) #[] #[]] w fun e w' => e = .returned (.bool (hwB F n)) ∧ w' = w := by
  have k := iIdxW a n c F w hn ha
  generalize hwB F n = B at *
  go_enter Tryd.func37, Tryd.ntmps37
  go_wp2_with fail
  refine k.mono ?_
  rintro e w2 ⟨⟨z, rfl, hz⟩, hw2⟩
  have hs2 := hw2.symm
  clear hw2 k
  subst hs2 hz
  go_wp2
  go_ret
  exact ⟨rfl, rfl⟩
set_option maxHeartbeats 1000000 in
theorem iHasW (a : Option Addr) (n c : Nat) (F : Nat → ByteArray) (w : World) (hn : n ≤ 1048576) (ha : SL w a n F) :
    Calls Tryd.prog 17 #[.slice a n c] w fun e w' => e = .returned (.bool (hwB F n)) ∧ w' = w := by
  have k := iConW a n c F w hn ha
  generalize hwB F n = B at *
  go_enter Tryd.func17, Tryd.ntmps17
  go_wp2_with fail
  refine k.mono ?_
  rintro e w2 ⟨rfl, hw2⟩
  have hs2 := hw2.symm
  clear hw2 k
  subst hs2
  go_wp2
  go_ret
  exact ⟨rfl, rfl⟩
end Go.Proofs.YtmlfijapndkfhaaDoor
