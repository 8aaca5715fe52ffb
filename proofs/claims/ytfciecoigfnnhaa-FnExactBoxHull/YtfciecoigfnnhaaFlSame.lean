/- sameFloat at two floats of the same bits. -/
import Derived.Test.YtfciecoigfnnhaaFlBase
namespace Go.Proofs.Ytfciecoigfnnhaa
open Go.RowKit

theorem same_any (x : Nat) (w : World) (hx : x < 18446744073709551616) :
    Calls Try.prog 95 #[.float .f64 x, .float .f64 x] w fun e w' => e = .returned (.bool true) ∧ w' = w := by
  by_cases hn : FloatKind.f64.format.order x x = none
  · go_enter Try.func95, Try.ntmps95
    go_wp2
    go_ret
    exact ⟨rfl, rfl⟩
  · have he : FloatKind.f64.format.order x x = some .eq := by
      rcases Nat.lt_or_ge INF (rung x) with h | h
      · exact absurd (order_nan_left h) hn
      · rw [ord_some h h]; simp [compare, compareOfLessAndEq]
    clear hn
    by_cases hz : zeroB x = true
    · have hr : rung x = 0 := by simpa [zeroB] using hz
      have hx2 : x = 0 ∨ x = 9223372036854775808 := by unfold rung at hr; omega
      clear hz hr he hx
      rcases hx2 with rfl | rfl
      · have e1 : (FloatKind.f64.format.order 0 0) = some .eq := by decide
        have hd : ∀ w, (binOp .quo 106 (.float .f64 4607182418800017408) (.float .f64 0)).run Try.prog w = .ok (.float .f64 9218868437227405312) w := fun w => run_float_arith w .quo 106 .f64 _ _ _ (by decide)
        go_enter Try.func95, Try.ntmps95
        go_wp2
        go_ret
        exact ⟨rfl, rfl⟩
      · have e1 : (FloatKind.f64.format.order 9223372036854775808 9223372036854775808) = some .eq := by decide
        have e2 : (FloatKind.f64.format.order 9223372036854775808 0) = some .eq := by decide
        have hd : ∀ w, (binOp .quo 106 (.float .f64 4607182418800017408) (.float .f64 9223372036854775808)).run Try.prog w = .ok (.float .f64 18442240474082181120) w := fun w => run_float_arith w .quo 106 .f64 _ _ _ (by decide)
        go_enter Try.func95, Try.ntmps95
        go_wp2
        go_ret
        exact ⟨rfl, rfl⟩
    · have hz' : (FloatKind.f64.format.order x 0 == some .eq) = false := by rw [zero_ord]; simpa using hz
      clear hz
      go_enter Try.func95, Try.ntmps95
      go_wp2
      go_ret
      exact ⟨rfl, rfl⟩
end Go.Proofs.Ytfciecoigfnnhaa
