/- The contracts of both LastReal functions, and the walk of the law on LastReal. -/
import Derived.Test.YtjamfjhdeijbpabFlUp
namespace Go.Proofs.Ytjamfjhdeijbpab
open Go.RowKit

/-- the float on the other side of 0 -/
def negF (x : Nat) : Nat := if x < 9223372036854775808 then x + 9223372036854775808 else x - 9223372036854775808

theorem negF_xor {x : Nat} (hx : x < 18446744073709551616) : x ^^^ 2 ^ 63 = negF x := by
  have h1 : (x ^^^ 2 ^ 63) % 2 ^ 63 = x % 2 ^ 63 := by rw [Nat.xor_mod_two_pow, Nat.mod_self, Nat.xor_zero]
  have h2 : (x ^^^ 2 ^ 63) / 2 ^ 63 = (x / 2 ^ 63) ^^^ 1 := by rw [Nat.xor_div_two_pow, Nat.div_self (Nat.two_pow_pos _)]
  have h3 : x / 2 ^ 63 = 0 ∨ x / 2 ^ 63 = 1 := by omega
  have h4 : x ^^^ 2 ^ 63 = (x ^^^ 2 ^ 63) / 2 ^ 63 * 2 ^ 63 + (x ^^^ 2 ^ 63) % 2 ^ 63 := by omega
  rw [h4, h1, h2]
  unfold negF
  rcases h3 with h3 | h3
  · rw [h3, if_pos (by omega)]; simp; omega
  · rw [h3, if_neg (by omega)]; simp; omega
theorem negF_lt {x : Nat} (hx : x < 18446744073709551616) : negF x < 18446744073709551616 := by unfold negF; split <;> omega

theorem run_neg (x : Nat) (w : World) : (Op.unary .neg (.float .f64 x)).run Try.prog w = .ok (.float .f64 (x ^^^ 2 ^ 63)) w := rfl

theorem negReal_any (x : Nat) (w : World) (hx : x < 18446744073709551616) :
    Calls Try.prog 23 #[.float .f64 x] w fun e w' => e = .returned (.float .f64 (plain (negF x))) ∧ w' = w := by
  have hn : ∀ w, (Op.unary .neg (.float .f64 x)).run Try.prog w = .ok (.float .f64 (negF x)) w := fun w => by rw [run_neg, negF_xor hx]
  go_enter Try.func23, Try.ntmps23
  go_wp2_with (go_at_call 40; refine (unsigned_any _ _).mono ?_; rintro e w' ⟨rfl, rfl⟩)
  go_ret
  exact ⟨rfl, rfl⟩

theorem infm_any (w : World) :
    Calls Try.prog 21 #[.int .i64 (-1)] w fun e w' => e = .returned (.float .f64 18442240474082181120) ∧ w' = w := by
  have hf := f64from
  go_enter Try.func21, Try.ntmps21
  go_wp2
  go_ret
  exact ⟨rfl, rfl⟩
theorem copysign_neg (w : World) :
    Calls Try.prog 37 #[.float .f64 1, .float .f64 18442240474082181120] w fun e w' => e = .returned (.float .f64 9223372036854775809) ∧ w' = w := by
  have hb := f64bits
  have hf := f64from
  go_enter Try.func37, Try.ntmps37
  go_wp2
  go_ret
  exact ⟨ret_float (by decide), rfl⟩

theorem keyMinf : key 18442240474082181120 = -9218868437227405312 := by decide
theorem rungMinf : rung 18442240474082181120 ≤ INF := by decide
theorem nanMinf : nanB 18442240474082181120 = false := by decide

theorem last_pos (x : Nat) (w : World) (h0 : 0 < x) (h1 : x < INF) :
    Calls Try.prog 20 #[.float .f64 x, .float .f64 18442240474082181120] w fun e w' => e = .returned (.float .f64 (x - 1)) ∧ w' = w := by
  obtain ⟨hr, hk, hl⟩ := pos_facts h0 h1
  have hn : nanB x = false := by unfold nanB; simp; omega
  have hI := nanMinf
  have hi : INF = 9218868437227405312 := by decide
  have a1 : FloatKind.f64.format.order x 18442240474082181120 = some .gt := ord_val hl rungMinf (by rw [hk, keyMinf]; exact cmp_gt (by omega))
  have a2 : FloatKind.f64.format.order 18442240474082181120 x = some .lt := ord_val rungMinf hl (by rw [hk, keyMinf]; exact cmp_lt (by omega))
  have a3 : FloatKind.f64.format.order x 0 = some .gt := ord_val hl (by decide) (by rw [hk, key0]; exact cmp_gt (by omega))
  have hx : x < 9218868437227405312 := by omega
  clear hr hk hl hi h1
  have hb := f64bits
  have hf := f64from
  go_enter Try.func20, Try.ntmps20
  go_wp2_with (go_at_call 33; refine (isNaN_any _ _).mono ?_; rintro e w' ⟨rfl, rfl⟩)
  go_ret
  exact ⟨rfl, rfl⟩
theorem last_neg (x : Nat) (w : World) (h0 : 9223372036854775808 < x) (h1 : x < 9223372036854775808 + INF) :
    Calls Try.prog 20 #[.float .f64 x, .float .f64 18442240474082181120] w fun e w' => e = .returned (.float .f64 (x + 1)) ∧ w' = w := by
  obtain ⟨hr, hk, hl⟩ := neg_facts h0 h1
  have hn : nanB x = false := by unfold nanB; simp; omega
  have hI := nanMinf
  have hi : INF = 9218868437227405312 := by decide
  have a1 : FloatKind.f64.format.order x 18442240474082181120 = some .gt := ord_val hl rungMinf (by rw [hk, keyMinf]; exact cmp_gt (by omega))
  have a2 : FloatKind.f64.format.order 18442240474082181120 x = some .lt := ord_val rungMinf hl (by rw [hk, keyMinf]; exact cmp_lt (by omega))
  have a3 : FloatKind.f64.format.order x 0 = some .lt := ord_val hl (by decide) (by rw [hk, key0]; exact cmp_lt (by omega))
  have hx : x + 1 < 18446744073709551616 := by omega
  clear hr hk hl hi h1
  have hb := f64bits
  have hf := f64from
  go_enter Try.func20, Try.ntmps20
  go_wp2_with (go_at_call 33; refine (isNaN_any _ _).mono ?_; rintro e w' ⟨rfl, rfl⟩)
  go_ret
  exact ⟨rfl, rfl⟩
theorem last_zero (w : World) :
    Calls Try.prog 20 #[.float .f64 0, .float .f64 18442240474082181120] w fun e w' => e = .returned (.float .f64 9223372036854775809) ∧ w' = w := by
  have hn : nanB 0 = false := by decide
  have hI := nanMinf
  have a1 : FloatKind.f64.format.order 0 18442240474082181120 = some .gt := by decide
  have a3 : FloatKind.f64.format.order 0 0 = some .eq := by decide
  have hf := f64from
  go_enter Try.func20, Try.ntmps20
  go_wp2_with (first | (go_at_call 33; refine (isNaN_any _ _).mono ?_; rintro e w' ⟨rfl, rfl⟩) | (go_at_call 37; refine (copysign_neg _).mono ?_; rintro e w' ⟨rfl, rfl⟩))
  go_ret
  exact ⟨rfl, rfl⟩

/-- the float below a good one that is not the least -/
def downF (x : Nat) : Nat := plain (negF (upF (plain (negF x))))

theorem down_pos {x : Nat} (h0 : 0 < x) (h1 : x < INF) : plain (x - 1) = downF x := by
  have hi : INF = 9218868437227405312 := by decide
  rw [hi] at h1
  have e1 : negF x = x + 9223372036854775808 := by unfold negF; rw [if_pos (by omega)]
  have e2 : plain (x + 9223372036854775808) = x + 9223372036854775808 := plain_of (by unfold rung; omega)
  have e3 : upF (x + 9223372036854775808) = plain (x + 9223372036854775808 - 1) := by unfold upF; rw [if_pos (by omega)]
  unfold downF
  rw [e1, e2, e3]
  by_cases hx : x = 1
  · subst hx; decide
  · have e4 : plain (x + 9223372036854775808 - 1) = x + 9223372036854775808 - 1 := plain_of (by unfold rung; omega)
    have e5 : negF (x + 9223372036854775808 - 1) = x - 1 := by unfold negF; rw [if_neg (by omega)]; omega
    rw [e4, e5]
theorem down_neg {x : Nat} (h0 : 9223372036854775808 < x) (h1 : x < 9223372036854775808 + INF) : plain (x + 1) = downF x := by
  have hi : INF = 9218868437227405312 := by decide
  rw [hi] at h1
  have e1 : negF x = x - 9223372036854775808 := by unfold negF; rw [if_neg (by omega)]
  have e2 : plain (x - 9223372036854775808) = x - 9223372036854775808 := plain_of (by unfold rung; omega)
  have e3 : upF (x - 9223372036854775808) = x - 9223372036854775808 + 1 := by unfold upF; rw [if_neg (by omega)]
  have e5 : negF (x - 9223372036854775808 + 1) = x + 1 := by unfold negF; rw [if_pos (by omega)]; omega
  unfold downF
  rw [e1, e2, e3, e5]

theorem lastafter_any (x : Nat) (w : World) (hx : x < 18446744073709551616) (h : goodB x = true) :
    Calls Try.prog 20 #[.float .f64 x, .float .f64 18442240474082181120] w fun e w' => ∃ y, e = .returned (.float .f64 y) ∧ plain y = downF x ∧ w' = w := by
  rcases good_parts hx h with rfl | ⟨h0, h1⟩ | ⟨h0, h1⟩
  · exact (last_zero w).mono fun e w' ⟨he, hw⟩ => ⟨_, he, by decide, hw⟩
  · exact (last_pos x w h0 h1).mono fun e w' ⟨he, hw⟩ => ⟨_, he, down_pos h0 h1, hw⟩
  · exact (last_neg x w h0 h1).mono fun e w' ⟨he, hw⟩ => ⟨_, he, down_neg h0 h1, hw⟩

theorem good_neg {x : Nat} (hx : x < 18446744073709551616) (h : goodB x = true) : goodB (plain (negF x)) = true := by
  have hi : INF = 9218868437227405312 := by decide
  rcases good_parts hx h with rfl | ⟨h0, h1⟩ | ⟨h0, h1⟩
  · decide
  · rw [hi] at h1
    have e1 : negF x = x + 9223372036854775808 := by unfold negF; rw [if_pos (by omega)]
    have hr : rung (x + 9223372036854775808) = x := by unfold rung; omega
    rw [e1, plain_of (by rw [hr]; omega)]
    unfold goodB nanB infB zeroB
    rw [hr, hi]
    have a1 : ¬ 9218868437227405312 < x := by omega
    have a2 : ¬ x = 9218868437227405312 := by omega
    have a3 : ¬ x = 0 := by omega
    simp [a1, a2, a3]
  · rw [hi] at h1
    have e1 : negF x = x - 9223372036854775808 := by unfold negF; rw [if_neg (by omega)]
    have hr : rung (x - 9223372036854775808) = x - 9223372036854775808 := by unfold rung; omega
    rw [e1, plain_of (by rw [hr]; omega)]
    unfold goodB nanB infB zeroB
    rw [hr, hi]
    have a1 : ¬ 9218868437227405312 < x - 9223372036854775808 := by omega
    have a2 : ¬ x - 9223372036854775808 = 9218868437227405312 := by omega
    have a3 : ¬ x - 9223372036854775808 = 0 := by omega
    simp [a1, a2, a3]

theorem specLast_bad (x : Nat) (w : World) (hx : x < 18446744073709551616) (h : goodB x = false) :
    Calls Try.prog 7 #[.float .f64 x] w fun e w' => e = .returned (.tuple #[.float .f64 0, .bool false]) ∧ w' = w := by
  go_enter Try.func7, Try.ntmps7
  go_wp2_with (go_at_call 18; refine (specGood_any _ _ hx).mono ?_; rintro e w' ⟨rfl, rfl⟩)
  go_ret2
  exact ⟨rfl, rfl⟩
theorem implLast_bad (x : Nat) (w : World) (hx : x < 18446744073709551616) (h : goodB x = false) :
    Calls Try.prog 8 #[.float .f64 x] w fun e w' => e = .returned (.tuple #[.float .f64 0, .bool false]) ∧ w' = w := by
  go_enter Try.func8, Try.ntmps8
  go_wp2_with (go_at_call 22; refine (implGood_any _ _ hx).mono ?_; rintro e w' ⟨rfl, rfl⟩)
  go_ret2
  exact ⟨rfl, rfl⟩
theorem specLast_max (x : Nat) (w : World) (hx : x < 18446744073709551616) (h : goodB x = true) (hm : (FloatKind.f64.format.order x 18442240474082181119 == some .eq) = true) :
    Calls Try.prog 7 #[.float .f64 x] w fun e w' => e = .returned (.tuple #[.float .f64 0, .bool false]) ∧ w' = w := by
  go_enter Try.func7, Try.ntmps7
  go_wp2_with (go_at_call 18; refine (specGood_any _ _ hx).mono ?_; rintro e w' ⟨rfl, rfl⟩)
  go_ret2
  exact ⟨rfl, rfl⟩
theorem implLast_max (x : Nat) (w : World) (hx : x < 18446744073709551616) (h : goodB x = true) (hm : (FloatKind.f64.format.order x 18442240474082181119 == some .eq) = true) :
    Calls Try.prog 8 #[.float .f64 x] w fun e w' => e = .returned (.tuple #[.float .f64 0, .bool false]) ∧ w' = w := by
  go_enter Try.func8, Try.ntmps8
  go_wp2_with (go_at_call 22; refine (implGood_any _ _ hx).mono ?_; rintro e w' ⟨rfl, rfl⟩)
  go_ret2
  exact ⟨rfl, rfl⟩
theorem specLast_good (x : Nat) (w : World) (hx : x < 18446744073709551616) (h : goodB x = true) (hm : (FloatKind.f64.format.order x 18442240474082181119 == some .eq) = false) :
    Calls Try.prog 7 #[.float .f64 x] w fun e w' => e = .returned (.tuple #[.float .f64 (downF x), .bool true]) ∧ w' = w := by
  go_enter Try.func7, Try.ntmps7
  go_wp2_with (first | (go_at_call 18; refine (specGood_any _ _ hx).mono ?_; rintro e w' ⟨rfl, rfl⟩) | (go_at_call 21; refine (infm_any _).mono ?_; rintro e w' ⟨rfl, rfl⟩) | (go_at_call 20; refine (lastafter_any x _ hx h).mono ?_; rintro e w' ⟨y, rfl, hy, rfl⟩) | (go_at_call 19; refine (l2Plain_any _ _).mono ?_; rintro e w' ⟨rfl, rfl⟩))
  go_ret2
  exact ⟨rfl, rfl⟩
theorem implLast_good (x : Nat) (w : World) (hx : x < 18446744073709551616) (h : goodB x = true) (hm : (FloatKind.f64.format.order x 18442240474082181119 == some .eq) = false) :
    Calls Try.prog 8 #[.float .f64 x] w fun e w' => e = .returned (.tuple #[.float .f64 (downF x), .bool true]) ∧ w' = w := by
  have hg := good_neg hx h
  have hp := plain_lt (negF_lt hx)
  have hu := upF_lt hp
  have n1 := fun w => negReal_any x w hx
  have n2 := fun w => realUp_any (plain (negF x)) w hp hg
  have n3 := fun w => negReal_any (upF (plain (negF x))) w hu
  clear hg hp hu
  go_enter Try.func8, Try.ntmps8
  go_wp2_with (first | (go_at_call 22; refine (implGood_any _ _ hx).mono ?_; rintro e w' ⟨rfl, rfl⟩) | (go_at_call 24; refine (n2 _).mono ?_; rintro e w' ⟨rfl, rfl⟩) | (go_at_call 23; refine (n1 _).mono ?_; rintro e w' ⟨rfl, rfl⟩) | (go_at_call 23; refine (n3 _).mono ?_; rintro e w' ⟨rfl, rfl⟩))
  go_ret2
  exact ⟨rfl, rfl⟩

theorem lastLaw (x : Nat) (w : World) (hx : x < 18446744073709551616) :
    Calls Try.prog 3 #[.float .f64 x] w fun e w' => e = .returned (.bool true) ∧ w' = w := by
  by_cases h : goodB x = true
  · by_cases hm : (FloatKind.f64.format.order x 18442240474082181119 == some .eq) = true
    · go_enter Try.func3, Try.ntmps3
      go_wp2_with (first | (go_at_call 7; refine (specLast_max _ _ hx h hm).mono ?_; rintro e w' ⟨rfl, rfl⟩) | (go_at_call 8; refine (implLast_max _ _ hx h hm).mono ?_; rintro e w' ⟨rfl, rfl⟩) | (go_at_call 9; refine (same_any _ _ (by decide)).mono ?_; rintro e w' ⟨rfl, rfl⟩))
      go_ret
      exact ⟨rfl, rfl⟩
    · have hm' : (FloatKind.f64.format.order x 18442240474082181119 == some .eq) = false := by simpa using hm
      clear hm
      have hd : downF x < 18446744073709551616 := plain_lt (negF_lt (upF_lt (plain_lt (negF_lt hx))))
      go_enter Try.func3, Try.ntmps3
      go_wp2_with (first | (go_at_call 7; refine (specLast_good _ _ hx h hm').mono ?_; rintro e w' ⟨rfl, rfl⟩) | (go_at_call 8; refine (implLast_good _ _ hx h hm').mono ?_; rintro e w' ⟨rfl, rfl⟩) | (go_at_call 9; refine (same_any _ _ hd).mono ?_; rintro e w' ⟨rfl, rfl⟩))
      go_ret
      exact ⟨rfl, rfl⟩
  · have h' : goodB x = false := by simpa using h
    clear h
    go_enter Try.func3, Try.ntmps3
    go_wp2_with (first | (go_at_call 7; refine (specLast_bad _ _ hx h').mono ?_; rintro e w' ⟨rfl, rfl⟩) | (go_at_call 8; refine (implLast_bad _ _ hx h').mono ?_; rintro e w' ⟨rfl, rfl⟩) | (go_at_call 9; refine (same_any _ _ (by decide)).mono ?_; rintro e w' ⟨rfl, rfl⟩))
    go_ret
    exact ⟨rfl, rfl⟩
end Go.Proofs.Ytjamfjhdeijbpab
