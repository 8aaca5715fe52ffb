/- The contracts of small float functions that NextReal needs, on both sides. -/
import Derived.Test.YtjamfjhdeijbpaaGood
namespace Go.Proofs.Ytjamfjhdeijbpaa
open Go.RowKit

def plain (x : Nat) : Nat := if zeroB x then 0 else x

theorem unsigned_any (x : Nat) (w : World) :
    Calls Try.prog 22 #[.float .f64 x] w fun e w' => e = .returned (.float .f64 (plain x)) ∧ w' = w := by
  by_cases hz : zeroB x = true
  · have hz' : (FloatKind.f64.format.order x 0 == some .eq) = true := by rw [zero_ord, hz]
    have e : plain x = 0 := by unfold plain; rw [if_pos hz]
    rw [e]; clear e hz
    go_enter Try.func22, Try.ntmps22
    go_wp2
    go_ret
    exact ⟨rfl, rfl⟩
  · have hz' : (FloatKind.f64.format.order x 0 == some .eq) = false := by rw [zero_ord]; simpa using hz
    have e : plain x = x := by unfold plain; rw [if_neg hz]
    rw [e]; clear e hz
    go_enter Try.func22, Try.ntmps22
    go_wp2
    go_ret
    exact ⟨rfl, rfl⟩
theorem l2Plain_any (x : Nat) (w : World) :
    Calls Try.prog 13 #[.float .f64 x] w fun e w' => e = .returned (.float .f64 (plain x)) ∧ w' = w := by
  by_cases hz : zeroB x = true
  · have hz' : (FloatKind.f64.format.order x 0 == some .eq) = true := by rw [zero_ord, hz]
    have e : plain x = 0 := by unfold plain; rw [if_pos hz]
    rw [e]; clear e hz
    go_enter Try.func13, Try.ntmps13
    go_wp2
    go_ret
    exact ⟨rfl, rfl⟩
  · have hz' : (FloatKind.f64.format.order x 0 == some .eq) = false := by rw [zero_ord]; simpa using hz
    have e : plain x = x := by unfold plain; rw [if_neg hz]
    rw [e]; clear e hz
    go_enter Try.func13, Try.ntmps13
    go_wp2
    go_ret
    exact ⟨rfl, rfl⟩

theorem inf1_any (w : World) :
    Calls Try.prog 15 #[.int .i64 1] w fun e w' => e = .returned (.float .f64 9218868437227405312) ∧ w' = w := by
  have hf := f64from
  go_enter Try.func15, Try.ntmps15
  go_wp2
  go_ret
  exact ⟨rfl, rfl⟩

theorem realUp_neg (x : Nat) (w : World) (h1 : 0 < x) (hx : x < 18446744073709551616) (h : FloatKind.f64.format.order x 0 = some Ordering.lt) :
    Calls Try.prog 16 #[.float .f64 x] w fun e w' => e = .returned (.float .f64 (plain (x - 1))) ∧ w' = w := by
  have hb := f64bits
  have hf := f64from
  go_enter Try.func16, Try.ntmps16
  go_wp2_with (go_at_call 22; refine (unsigned_any _ _).mono ?_; rintro e w' ⟨rfl, rfl⟩)
  go_ret
  exact ⟨rfl, rfl⟩
theorem realUp_pos (x : Nat) (w : World) (hx : x + 1 < 18446744073709551616) (h : (FloatKind.f64.format.order x 0 == some Ordering.lt) = false) :
    Calls Try.prog 16 #[.float .f64 x] w fun e w' => e = .returned (.float .f64 (x + 1)) ∧ w' = w := by
  have hb := f64bits
  have hf := f64from
  go_enter Try.func16, Try.ntmps16
  go_wp2_with (go_at_call 22; refine (unsigned_any _ _).mono ?_; rintro e w' ⟨rfl, rfl⟩)
  go_ret
  exact ⟨rfl, rfl⟩
theorem copysign_any (w : World) :
    Calls Try.prog 20 #[.float .f64 1, .float .f64 9218868437227405312] w fun e w' => e = .returned (.float .f64 1) ∧ w' = w := by
  have hb := f64bits
  have hf := f64from
  go_enter Try.func20, Try.ntmps20
  go_wp2
  go_ret
  exact ⟨ret_float (by decide), rfl⟩
theorem same_any (x : Nat) (w : World) (hx : x < 18446744073709551616) :
    Calls Try.prog 9 #[.float .f64 x, .float .f64 x] w fun e w' => e = .returned (.bool true) ∧ w' = w := by
  by_cases hn : FloatKind.f64.format.order x x = none
  · go_enter Try.func9, Try.ntmps9
    go_wp2
    go_ret
    exact ⟨rfl, rfl⟩
  · have he : FloatKind.f64.format.order x x = some .eq := by
      rcases Nat.lt_or_ge INF (rung x) with h | h
      · exact absurd (order_nan_left h) hn
      · rw [ord_some h h]; simp [compare, compareOfLessAndEq]
    clear hn
    by_cases hz : zeroB x = true
    · have hr : rung x = 0 := by simpa [zeroB] using hz
      have hx2 : x = 0 ∨ x = 9223372036854775808 := by unfold rung at hr; omega
      clear hz hr he hx
      rcases hx2 with rfl | rfl
      · have e1 : (FloatKind.f64.format.order 0 0) = some .eq := by decide
        have hd : ∀ w, (binOp .quo 22 (.float .f64 4607182418800017408) (.float .f64 0)).run Try.prog w = .ok (.float .f64 9218868437227405312) w := fun w => run_float_arith w .quo 22 .f64 _ _ _ (by decide)
        go_enter Try.func9, Try.ntmps9
        go_wp2
        go_ret
        exact ⟨rfl, rfl⟩
      · have e1 : (FloatKind.f64.format.order 9223372036854775808 9223372036854775808) = some .eq := by decide
        have e2 : (FloatKind.f64.format.order 9223372036854775808 0) = some .eq := by decide
        have hd : ∀ w, (binOp .quo 22 (.float .f64 4607182418800017408) (.float .f64 9223372036854775808)).run Try.prog w = .ok (.float .f64 18442240474082181120) w := fun w => run_float_arith w .quo 22 .f64 _ _ _ (by decide)
        go_enter Try.func9, Try.ntmps9
        go_wp2
        go_ret
        exact ⟨rfl, rfl⟩
    · have hz' : (FloatKind.f64.format.order x 0 == some .eq) = false := by rw [zero_ord]; simpa using hz
      clear hz
      go_enter Try.func9, Try.ntmps9
      go_wp2
      go_ret
      exact ⟨rfl, rfl⟩
end Go.Proofs.Ytjamfjhdeijbpaa
