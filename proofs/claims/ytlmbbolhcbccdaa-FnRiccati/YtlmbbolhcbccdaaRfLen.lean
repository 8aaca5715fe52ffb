/- math/bits.Len at 1. -/
import Derived.Test.YtlmbbolhcbccdaaRows
import Derived.WalkKit
import Derived.KernelRfl
namespace Go.Proofs.Ytlmbbolhcbccdaa
open Go.RowKit
set_option maxRecDepth 20000 in
set_option maxHeartbeats 1000000 in
theorem len64_one (w : World) : Calls Try.prog 52 #[.int .u64 1] w fun e w' => e = .returned (.int .i64 1) ∧ w' = w := by
  go_enter Try.func52, Try.ntmps52
  go_wp2
  go_ret
  exact ⟨by first | kernel_rfl | (simp [wrap64]; done) | decide, rfl⟩
theorem len_one (w : World) : Calls Try.prog 47 #[.int .u64 1] w fun e w' => e = .returned (.int .i64 1) ∧ w' = w := by
  go_enter Try.func47, Try.ntmps47
  go_wp2_with (go_at_call 52; refine (len64_one _).mono ?_; rintro e w' ⟨rfl, rfl⟩)
  go_ret
  exact ⟨rfl, rfl⟩
end Go.Proofs.Ytlmbbolhcbccdaa
