/- The contracts of both NextReal functions, and the walk of the law on NextReal. -/
import Derived.Test.YtjamfjhdeijbpaaNext
namespace Go.Proofs.Ytjamfjhdeijbpaa
open Go.RowKit

theorem ord_val {x y : Nat} {o : Ordering} (hx : rung x ≤ INF) (hy : rung y ≤ INF) (h : compare (key x) (key y) = o) : FloatKind.f64.format.order x y = some o := by
  rw [ord_some hx hy, h]
theorem cmp_lt {a b : Int} (h : a < b) : compare a b = .lt := by simp [compare, compareOfLessAndEq, h]
theorem cmp_gt {a b : Int} (h : b < a) : compare a b = .gt := by
  have h1 : ¬ a < b := by omega
  have h2 : ¬ a = b := by omega
  simp [compare, compareOfLessAndEq, h1, h2]

/-- a good float is 0, above 0, or below 0 -/
theorem good_parts {x : Nat} (hx : x < 18446744073709551616) (h : goodB x = true) : x = 0 ∨ (0 < x ∧ x < INF) ∨ (9223372036854775808 < x ∧ x < 9223372036854775808 + INF) := by
  have hi : INF = 9218868437227405312 := by decide
  have hr : rung x = x % 9223372036854775808 := rfl
  simp only [goodB, nanB, infB, zeroB, sgnB, Bool.and_eq_true, Bool.not_eq_true', decide_eq_false_iff_not, Bool.and_eq_false_iff] at h
  rw [hr, hi] at h
  rw [hi]
  omega

theorem pos_facts {x : Nat} (h0 : 0 < x) (h1 : x < INF) : rung x = x ∧ key x = x ∧ rung x ≤ INF := by
  have hr : rung x = x := by unfold rung; unfold INF at h1; omega
  have hn : neg x = false := by unfold neg; unfold INF at h1; rw [Nat.div_eq_of_lt (by omega)]; rfl
  refine ⟨hr, ?_, by omega⟩
  unfold key; rw [hn, hr]; rfl
theorem neg_facts {x : Nat} (h0 : 9223372036854775808 < x) (h1 : x < 9223372036854775808 + INF) : rung x = x - 9223372036854775808 ∧ key x = 9223372036854775808 - (x : Int) ∧ rung x ≤ INF := by
  have hr : rung x = x - 9223372036854775808 := by unfold rung; unfold INF at h1; omega
  have hn : neg x = true := by
    have : x / 2 ^ 63 = 1 := by unfold INF at h1; omega
    unfold neg; rw [this]; rfl
  refine ⟨hr, ?_, by omega⟩
  unfold key; rw [hn, hr]; simp only [if_true]; omega

theorem keyInf : key 9218868437227405312 = 9218868437227405312 := by decide
theorem rungInf : rung 9218868437227405312 ≤ INF := by decide
theorem nanInf : nanB 9218868437227405312 = false := by decide

theorem next_pos (x : Nat) (w : World) (h0 : 0 < x) (h1 : x < INF) :
    Calls Try.prog 14 #[.float .f64 x, .float .f64 9218868437227405312] w fun e w' => e = .returned (.float .f64 (x + 1)) ∧ w' = w := by
  obtain ⟨hr, hk, hl⟩ := pos_facts h0 h1
  have hn : nanB x = false := by unfold nanB; simp; omega
  have hI := nanInf
  have hi : INF = 9218868437227405312 := by decide
  have a1 : FloatKind.f64.format.order x 9218868437227405312 = some .lt := ord_val hl rungInf (by rw [hk, keyInf]; exact cmp_lt (by omega))
  have a2 : FloatKind.f64.format.order 9218868437227405312 x = some .gt := ord_val rungInf hl (by rw [hk, keyInf]; exact cmp_gt (by omega))
  have a3 : FloatKind.f64.format.order x 0 = some .gt := ord_val hl (by decide) (by rw [hk, key0]; exact cmp_gt (by omega))
  have hx : x < 9218868437227405312 := by omega
  clear hr hk hl hi h1
  have hb := f64bits
  have hf := f64from
  go_enter Try.func14, Try.ntmps14
  go_wp2_with (go_at_call 10; refine (isNaN_any _ _).mono ?_; rintro e w' ⟨rfl, rfl⟩)
  go_ret
  exact ⟨rfl, rfl⟩
theorem next_neg (x : Nat) (w : World) (h0 : 9223372036854775808 < x) (h1 : x < 9223372036854775808 + INF) :
    Calls Try.prog 14 #[.float .f64 x, .float .f64 9218868437227405312] w fun e w' => e = .returned (.float .f64 (x - 1)) ∧ w' = w := by
  obtain ⟨hr, hk, hl⟩ := neg_facts h0 h1
  have hn : nanB x = false := by unfold nanB; simp; omega
  have hI := nanInf
  have hi : INF = 9218868437227405312 := by decide
  have a1 : FloatKind.f64.format.order x 9218868437227405312 = some .lt := ord_val hl rungInf (by rw [hk, keyInf]; exact cmp_lt (by omega))
  have a2 : FloatKind.f64.format.order 9218868437227405312 x = some .gt := ord_val rungInf hl (by rw [hk, keyInf]; exact cmp_gt (by omega))
  have a3 : FloatKind.f64.format.order x 0 = some .lt := ord_val hl (by decide) (by rw [hk, key0]; exact cmp_lt (by omega))
  have hx : x < 18446744073709551616 := by omega
  clear hr hk hl hi h1
  have hb := f64bits
  have hf := f64from
  go_enter Try.func14, Try.ntmps14
  go_wp2_with (go_at_call 10; refine (isNaN_any _ _).mono ?_; rintro e w' ⟨rfl, rfl⟩)
  go_ret
  exact ⟨rfl, rfl⟩
theorem next_zero (w : World) :
    Calls Try.prog 14 #[.float .f64 0, .float .f64 9218868437227405312] w fun e w' => e = .returned (.float .f64 1) ∧ w' = w := by
  have hn : nanB 0 = false := by decide
  have hI := nanInf
  have a1 : FloatKind.f64.format.order 0 9218868437227405312 = some .lt := by decide
  have a3 : FloatKind.f64.format.order 0 0 = some .eq := by decide
  have hf := f64from
  go_enter Try.func14, Try.ntmps14
  go_wp2_with (first | (go_at_call 10; refine (isNaN_any _ _).mono ?_; rintro e w' ⟨rfl, rfl⟩) | (go_at_call 20; refine (copysign_any _).mono ?_; rintro e w' ⟨rfl, rfl⟩))
  go_ret
  exact ⟨rfl, rfl⟩

/-- the float above a good one that is not the greatest -/
def upF (x : Nat) : Nat := if 9223372036854775808 < x then plain (x - 1) else x + 1

theorem plain_of {x : Nat} (h : ¬ rung x = 0) : plain x = x := by unfold plain zeroB; simp [h]

theorem nextafter_any (x : Nat) (w : World) (hx : x < 18446744073709551616) (h : goodB x = true) :
    Calls Try.prog 14 #[.float .f64 x, .float .f64 9218868437227405312] w fun e w' => ∃ y, e = .returned (.float .f64 y) ∧ plain y = upF x ∧ w' = w := by
  rcases good_parts hx h with rfl | ⟨h0, h1⟩ | ⟨h0, h1⟩
  · exact (next_zero w).mono fun e w' ⟨he, hw⟩ => ⟨_, he, by decide, hw⟩
  · refine (next_pos x w h0 h1).mono fun e w' ⟨he, hw⟩ => ⟨_, he, ?_, hw⟩
    have : ¬ 9223372036854775808 < x := by unfold INF at h1; omega
    unfold upF; rw [if_neg this]
    exact plain_of (by unfold rung; unfold INF at h1; omega)
  · refine (next_neg x w h0 h1).mono fun e w' ⟨he, hw⟩ => ⟨_, he, ?_, hw⟩
    unfold upF; rw [if_pos h0]

theorem realUp_any (x : Nat) (w : World) (hx : x < 18446744073709551616) (h : goodB x = true) :
    Calls Try.prog 16 #[.float .f64 x] w fun e w' => e = .returned (.float .f64 (upF x)) ∧ w' = w := by
  rcases good_parts hx h with rfl | ⟨h0, h1⟩ | ⟨h0, h1⟩
  · exact realUp_pos 0 w (by omega) (by decide)
  · obtain ⟨hr, hk, hl⟩ := pos_facts h0 h1
    have a3 : FloatKind.f64.format.order x 0 = some .gt := ord_val hl (by decide) (by rw [hk, key0]; exact cmp_gt (by omega))
    have e : upF x = x + 1 := by
      have : ¬ 9223372036854775808 < x := by unfold INF at h1; omega
      unfold upF; rw [if_neg this]
    rw [e]
    exact realUp_pos x w (by unfold INF at h1; omega) (by rw [a3]; decide)
  · obtain ⟨hr, hk, hl⟩ := neg_facts h0 h1
    have a3 : FloatKind.f64.format.order x 0 = some .lt := ord_val hl (by decide) (by rw [hk, key0]; exact cmp_lt (by omega))
    have e : upF x = plain (x - 1) := by unfold upF; rw [if_pos h0]
    rw [e]
    exact realUp_neg x w (by omega) hx a3

theorem specNext_bad (x : Nat) (w : World) (hx : x < 18446744073709551616) (h : goodB x = false) :
    Calls Try.prog 7 #[.float .f64 x] w fun e w' => e = .returned (.tuple #[.float .f64 0, .bool false]) ∧ w' = w := by
  go_enter Try.func7, Try.ntmps7
  go_wp2_with (go_at_call 5; refine (specGood_any _ _ hx).mono ?_; rintro e w' ⟨rfl, rfl⟩)
  go_ret2
  exact ⟨rfl, rfl⟩
theorem implNext_bad (x : Nat) (w : World) (hx : x < 18446744073709551616) (h : goodB x = false) :
    Calls Try.prog 8 #[.float .f64 x] w fun e w' => e = .returned (.tuple #[.float .f64 0, .bool false]) ∧ w' = w := by
  go_enter Try.func8, Try.ntmps8
  go_wp2_with (go_at_call 6; refine (implGood_any _ _ hx).mono ?_; rintro e w' ⟨rfl, rfl⟩)
  go_ret2
  exact ⟨rfl, rfl⟩
theorem specNext_max (x : Nat) (w : World) (hx : x < 18446744073709551616) (h : goodB x = true) (hm : (FloatKind.f64.format.order x 9218868437227405311 == some .eq) = true) :
    Calls Try.prog 7 #[.float .f64 x] w fun e w' => e = .returned (.tuple #[.float .f64 0, .bool false]) ∧ w' = w := by
  go_enter Try.func7, Try.ntmps7
  go_wp2_with (go_at_call 5; refine (specGood_any _ _ hx).mono ?_; rintro e w' ⟨rfl, rfl⟩)
  go_ret2
  exact ⟨rfl, rfl⟩
theorem implNext_max (x : Nat) (w : World) (hx : x < 18446744073709551616) (h : goodB x = true) (hm : (FloatKind.f64.format.order x 9218868437227405311 == some .eq) = true) :
    Calls Try.prog 8 #[.float .f64 x] w fun e w' => e = .returned (.tuple #[.float .f64 0, .bool false]) ∧ w' = w := by
  go_enter Try.func8, Try.ntmps8
  go_wp2_with (go_at_call 6; refine (implGood_any _ _ hx).mono ?_; rintro e w' ⟨rfl, rfl⟩)
  go_ret2
  exact ⟨rfl, rfl⟩
theorem specNext_good (x : Nat) (w : World) (hx : x < 18446744073709551616) (h : goodB x = true) (hm : (FloatKind.f64.format.order x 9218868437227405311 == some .eq) = false) :
    Calls Try.prog 7 #[.float .f64 x] w fun e w' => e = .returned (.tuple #[.float .f64 (upF x), .bool true]) ∧ w' = w := by
  go_enter Try.func7, Try.ntmps7
  go_wp2_with (first | (go_at_call 5; refine (specGood_any _ _ hx).mono ?_; rintro e w' ⟨rfl, rfl⟩) | (go_at_call 15; refine (inf1_any _).mono ?_; rintro e w' ⟨rfl, rfl⟩) | (go_at_call 14; refine (nextafter_any x _ hx h).mono ?_; rintro e w' ⟨y, rfl, hy, rfl⟩) | (go_at_call 13; refine (l2Plain_any _ _).mono ?_; rintro e w' ⟨rfl, rfl⟩))
  go_ret2
  exact ⟨rfl, rfl⟩
theorem implNext_good (x : Nat) (w : World) (hx : x < 18446744073709551616) (h : goodB x = true) (hm : (FloatKind.f64.format.order x 9218868437227405311 == some .eq) = false) :
    Calls Try.prog 8 #[.float .f64 x] w fun e w' => e = .returned (.tuple #[.float .f64 (upF x), .bool true]) ∧ w' = w := by
  go_enter Try.func8, Try.ntmps8
  go_wp2_with (first | (go_at_call 6; refine (implGood_any _ _ hx).mono ?_; rintro e w' ⟨rfl, rfl⟩) | (go_at_call 16; refine (realUp_any _ _ hx h).mono ?_; rintro e w' ⟨rfl, rfl⟩))
  go_ret2
  exact ⟨rfl, rfl⟩

theorem plain_lt {x : Nat} (hx : x < 18446744073709551616) : plain x < 18446744073709551616 := by unfold plain; split <;> omega
theorem upF_lt {x : Nat} (hx : x < 18446744073709551616) : upF x < 18446744073709551616 := by
  unfold upF
  split
  · exact plain_lt (by omega)
  · omega

theorem nextLaw (x : Nat) (w : World) (hx : x < 18446744073709551616) :
    Calls Try.prog 4 #[.float .f64 x] w fun e w' => e = .returned (.bool true) ∧ w' = w := by
  by_cases h : goodB x = true
  · by_cases hm : (FloatKind.f64.format.order x 9218868437227405311 == some .eq) = true
    · go_enter Try.func4, Try.ntmps4
      go_wp2_with (first | (go_at_call 7; refine (specNext_max _ _ hx h hm).mono ?_; rintro e w' ⟨rfl, rfl⟩) | (go_at_call 8; refine (implNext_max _ _ hx h hm).mono ?_; rintro e w' ⟨rfl, rfl⟩) | (go_at_call 9; refine (same_any _ _ (by decide)).mono ?_; rintro e w' ⟨rfl, rfl⟩))
      go_ret
      exact ⟨rfl, rfl⟩
    · have hm' : (FloatKind.f64.format.order x 9218868437227405311 == some .eq) = false := by simpa using hm
      clear hm
      go_enter Try.func4, Try.ntmps4
      go_wp2_with (first | (go_at_call 7; refine (specNext_good _ _ hx h hm').mono ?_; rintro e w' ⟨rfl, rfl⟩) | (go_at_call 8; refine (implNext_good _ _ hx h hm').mono ?_; rintro e w' ⟨rfl, rfl⟩) | (go_at_call 9; refine (same_any _ _ (upF_lt hx)).mono ?_; rintro e w' ⟨rfl, rfl⟩))
      go_ret
      exact ⟨rfl, rfl⟩
  · have h' : goodB x = false := by simpa using h
    clear h
    go_enter Try.func4, Try.ntmps4
    go_wp2_with (first | (go_at_call 7; refine (specNext_bad _ _ hx h').mono ?_; rintro e w' ⟨rfl, rfl⟩) | (go_at_call 8; refine (implNext_bad _ _ hx h').mono ?_; rintro e w' ⟨rfl, rfl⟩) | (go_at_call 9; refine (same_any _ _ (by decide)).mono ?_; rintro e w' ⟨rfl, rfl⟩))
    go_ret
    exact ⟨rfl, rfl⟩
end Go.Proofs.Ytjamfjhdeijbpaa
