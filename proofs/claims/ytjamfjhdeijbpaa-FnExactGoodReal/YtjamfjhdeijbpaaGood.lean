/- The contracts of IsNaN, IsInf, Signbit and both GoodReal functions, and the walk of the law on GoodReal. -/
import Derived.Test.YtjamfjhdeijbpaaRows
import Derived.Test.YtjamfjhdeijbpaaKey
import Derived.WalkKit
import Derived.WalkLawsBesides
import Derived.Laws.Externs
import Derived.Laws.BitsAllLaws
namespace Go.Proofs.Ytjamfjhdeijbpaa
open Go.RowKit

theorem f64bits (x : Nat) (w : World) : (callFunc 18 #[.float .f64 x]).run Try.prog w = .ok (.value (.int .u64 x)) w := by
  rw [run_callFunc_extern (e := Extern.MathFloatBits.float64bits) Try.func18 (by kernel_rfl) (by kernel_rfl) (by kernel_rfl) (by kernel_rfl)]; rfl
theorem f64from (n : Int) (w : World) : (callFunc 21 #[.int .u64 n]).run Try.prog w = .ok (.value (.float .f64 n.toNat)) w := by
  rw [run_callFunc_extern (e := Extern.MathFloatBits.float64frombits) Try.func21 (by kernel_rfl) (by kernel_rfl) (by kernel_rfl) (by kernel_rfl)]; rfl

theorem ret_float {a b : Nat} (h : a = b) : Ending.returned (.float .f64 a) = .returned (.float .f64 b) := by rw [h]
theorem ret_bool {a b : Bool} (h : a = b) : Ending.returned (.bool a) = .returned (.bool b) := by rw [h]

theorem andNot_top (x : Nat) (hx : x < 18446744073709551616) : (bits BinOp.andNot IntKind.u64 (↑x) 9223372036854775808).toNat = x % 2 ^ 63 := by
  rw [show (9223372036854775808 : Int) = ((9223372036854775808 : Nat) : Int) from rfl, u64_andNot_nat x _ hx (by decide)]
  rw [show 18446744073709551615 - 9223372036854775808 = 2 ^ 63 - 1 from rfl, Nat.and_two_pow_sub_one_eq_mod, Int.toNat_natCast]

theorem wrap_neg (x : Nat) (hx : x < 18446744073709551616) : decide (wrap64 (x : Int) < 0) = decide (9223372036854775808 ≤ x) := by
  unfold wrap64
  by_cases h : 9223372036854775808 ≤ x
  · simp only [h, decide_true, decide_eq_true_eq]; omega
  · simp only [h, decide_false, decide_eq_false_iff_not]; omega

/-- x is a NaN -/
def nanB (x : Nat) : Bool := decide (INF < rung x)
/-- x is infinite -/
def infB (x : Nat) : Bool := decide (rung x = INF)
/-- x has its sign's bit -/
def sgnB (x : Nat) : Bool := decide (9223372036854775808 ≤ x)
/-- x is a nought -/
def zeroB (x : Nat) : Bool := decide (rung x = 0)
/-- x is a good float -/
def goodB (x : Nat) : Bool := !nanB x && !infB x && !(zeroB x && sgnB x)

theorem nan_ord (x : Nat) : (FloatKind.f64.format.order x x != some .eq) = nanB x := by
  unfold nanB bne
  rw [ord_eq_iff]
  rcases Nat.lt_or_ge INF (rung x) with h | h
  · simp [h]
  · simp [h, Nat.not_lt.2 h]
theorem rung0 : rung 0 = 0 := rfl
theorem key0 : key 0 = 0 := by decide
theorem rung_ne_of_nan {x : Nat} (h : ¬ rung x ≤ INF) : ¬ rung x = 0 := by omega
theorem key_zero (x : Nat) : key x = 0 ↔ rung x = 0 := by unfold key; split <;> omega
theorem zero_ord (x : Nat) : (FloatKind.f64.format.order x 0 == some .eq) = zeroB x := by
  unfold zeroB
  rw [ord_eq_iff, rung0, key0, Bool.eq_iff_iff]
  simp only [Bool.and_eq_true, decide_eq_true_eq, key_zero]
  constructor
  · exact fun h => h.2
  · intro h; exact ⟨⟨by omega, Nat.zero_le _⟩, h⟩
theorem zero_ord_ne (x : Nat) : (FloatKind.f64.format.order x 0 != some .eq) = !zeroB x := by rw [← zero_ord]; rfl
theorem rung_mod (x : Nat) : rung (x % 2 ^ 63) = rung x := by unfold rung; omega
theorem key_mod (x : Nat) : key (x % 2 ^ 63) = rung x := by
  have : neg (x % 2 ^ 63) = false := by unfold neg; rw [Nat.div_eq_of_lt (Nat.mod_lt _ (Nat.two_pow_pos _))]; rfl
  unfold key; rw [this, rung_mod]; rfl
theorem inf_ord (x : Nat) : (FloatKind.f64.format.order (x % 2 ^ 63) 9218868437227405311 == some .gt) = infB x := by
  unfold infB
  have k : key 9218868437227405311 = 9218868437227405311 := by decide
  have r : rung 9218868437227405311 = 9218868437227405311 := by decide
  have i : INF = 9218868437227405312 := by decide
  rw [ord_gt_iff, rung_mod, key_mod, k, r, Bool.eq_iff_iff]
  simp only [Bool.and_eq_true, decide_eq_true_eq, i]
  omega

theorem zero_iff (x : Nat) : FloatKind.f64.format.order x 0 = some Ordering.eq ↔ zeroB x = true := by rw [← zero_ord]; simp

theorem isNaN_any (x : Nat) (w : World) :
    Calls Try.prog 10 #[.float .f64 x] w fun e w' => e = .returned (.bool (nanB x)) ∧ w' = w := by
  go_enter Try.func10, Try.ntmps10
  go_wp2
  all_goals (go_ret; exact ⟨ret_bool (nan_ord x), rfl⟩)

theorem abs_any (x : Nat) (w : World) (hx : x < 18446744073709551616) :
    Calls Try.prog 17 #[.float .f64 x] w fun e w' => e = .returned (.float .f64 (x % 2 ^ 63)) ∧ w' = w := by
  have hb := f64bits
  have hf := f64from
  go_enter Try.func17, Try.ntmps17
  go_wp2
  go_ret
  exact ⟨ret_float (andNot_top x hx), rfl⟩

theorem isInf_any (x : Nat) (w : World) (hx : x < 18446744073709551616) :
    Calls Try.prog 11 #[.float .f64 x, .int .i64 0] w fun e w' => e = .returned (.bool (infB x)) ∧ w' = w := by
  go_enter Try.func11, Try.ntmps11
  go_wp2_with (go_at_call 17; refine (abs_any _ _ hx).mono ?_; rintro e w' ⟨rfl, rfl⟩)
  go_ret
  exact ⟨ret_bool (inf_ord x), rfl⟩

theorem signbit_any (x : Nat) (w : World) (hx : x < 18446744073709551616) :
    Calls Try.prog 12 #[.float .f64 x] w fun e w' => e = .returned (.bool (sgnB x)) ∧ w' = w := by
  have hb := f64bits
  go_enter Try.func12, Try.ntmps12
  go_wp2
  go_ret
  exact ⟨ret_bool (wrap_neg x hx), rfl⟩

theorem specGood_any (x : Nat) (w : World) (hx : x < 18446744073709551616) :
    Calls Try.prog 5 #[.float .f64 x] w fun e w' => e = .returned (.bool (goodB x)) ∧ w' = w := by
  go_enter Try.func5, Try.ntmps5
  go_wp2_with (first | (go_at_call 10; refine (isNaN_any _ _).mono ?_; rintro e w' ⟨rfl, rfl⟩) | (go_at_call 11; refine (isInf_any _ _ hx).mono ?_; rintro e w' ⟨rfl, rfl⟩) | (go_at_call 12; refine (signbit_any _ _ hx).mono ?_; rintro e w' ⟨rfl, rfl⟩))
  all_goals (go_ret; refine ⟨ret_bool ?_, rfl⟩; try simp only [zero_iff] at *
             unfold goodB; simp [*])

theorem implGood_any (x : Nat) (w : World) (hx : x < 18446744073709551616) :
    Calls Try.prog 6 #[.float .f64 x] w fun e w' => e = .returned (.bool (goodB x)) ∧ w' = w := by
  go_enter Try.func6, Try.ntmps6
  go_wp2_with (first | (go_at_call 10; refine (isNaN_any _ _).mono ?_; rintro e w' ⟨rfl, rfl⟩) | (go_at_call 11; refine (isInf_any _ _ hx).mono ?_; rintro e w' ⟨rfl, rfl⟩) | (go_at_call 12; refine (signbit_any _ _ hx).mono ?_; rintro e w' ⟨rfl, rfl⟩))
  all_goals (go_ret; refine ⟨ret_bool ?_, rfl⟩; try simp only [zero_iff] at *
             unfold goodB; simp [*])

theorem goodLaw (x : Nat) (w : World) (hx : x < 18446744073709551616) :
    Calls Try.prog 3 #[.float .f64 x] w fun e w' => e = .returned (.bool true) ∧ w' = w := by
  go_enter Try.func3, Try.ntmps3
  go_wp2_with (first | (go_at_call 5; refine (specGood_any _ _ hx).mono ?_; rintro e w' ⟨rfl, rfl⟩) | (go_at_call 6; refine (implGood_any _ _ hx).mono ?_; rintro e w' ⟨rfl, rfl⟩))
  go_ret
  exact ⟨rfl, rfl⟩
end Go.Proofs.Ytjamfjhdeijbpaa
