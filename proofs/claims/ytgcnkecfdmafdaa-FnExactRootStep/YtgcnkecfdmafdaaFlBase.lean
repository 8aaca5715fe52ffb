/- The contracts of IsNaN, IsInf, Signbit and both GoodReal functions, at every float. -/
import Derived.Test.YtgcnkecfdmafdaaRows
import Derived.Test.YtgcnkecfdmafdaaFlMath
import Derived.WalkKit
import Derived.WalkLawsBesides
import Derived.Laws.Externs
import Derived.Laws.BitsAllLaws
namespace Go.Proofs.Ytgcnkecfdmafdaa
open Go.RowKit

theorem f64bits (x : Nat) (w : World) : (callFunc 65 #[.float .f64 x]).run Try.prog w = .ok (.value (.int .u64 x)) w := by
  rw [run_callFunc_extern (e := Extern.MathFloatBits.float64bits) Try.func65 (by kernel_rfl) (by kernel_rfl) (by kernel_rfl) (by kernel_rfl)]; rfl
theorem f64from (n : Int) (w : World) : (callFunc 66 #[.int .u64 n]).run Try.prog w = .ok (.value (.float .f64 n.toNat)) w := by
  rw [run_callFunc_extern (e := Extern.MathFloatBits.float64frombits) Try.func66 (by kernel_rfl) (by kernel_rfl) (by kernel_rfl) (by kernel_rfl)]; rfl

theorem isNaN_any (x : Nat) (w : World) :
    Calls Try.prog 57 #[.float .f64 x] w fun e w' => e = .returned (.bool (nanB x)) ∧ w' = w := by
  go_enter Try.func57, Try.ntmps57
  go_wp2
  all_goals (go_ret; exact ⟨ret_bool (nan_ord x), rfl⟩)

theorem abs_any (x : Nat) (w : World) (hx : x < 18446744073709551616) :
    Calls Try.prog 64 #[.float .f64 x] w fun e w' => e = .returned (.float .f64 (x % 2 ^ 63)) ∧ w' = w := by
  have hb := f64bits
  have hf := f64from
  go_enter Try.func64, Try.ntmps64
  go_wp2
  go_ret
  exact ⟨ret_float (andNot_top x hx), rfl⟩

theorem isInf_any (x : Nat) (w : World) (hx : x < 18446744073709551616) :
    Calls Try.prog 58 #[.float .f64 x, .int .i64 0] w fun e w' => e = .returned (.bool (infB x)) ∧ w' = w := by
  go_enter Try.func58, Try.ntmps58
  go_wp2_with (go_at_call 64; refine (abs_any _ _ hx).mono ?_; rintro e w' ⟨rfl, rfl⟩)
  go_ret
  exact ⟨ret_bool (inf_ord x), rfl⟩

theorem signbit_any (x : Nat) (w : World) (hx : x < 18446744073709551616) :
    Calls Try.prog 63 #[.float .f64 x] w fun e w' => e = .returned (.bool (sgnB x)) ∧ w' = w := by
  have hb := f64bits
  go_enter Try.func63, Try.ntmps63
  go_wp2
  go_ret
  exact ⟨ret_bool (wrap_neg x hx), rfl⟩

theorem specGood_any (x : Nat) (w : World) (hx : x < 18446744073709551616) :
    Calls Try.prog 53 #[.float .f64 x] w fun e w' => e = .returned (.bool (goodB x)) ∧ w' = w := by
  go_enter Try.func53, Try.ntmps53
  go_wp2_with (first | (go_at_call 57; refine (isNaN_any _ _).mono ?_; rintro e w' ⟨rfl, rfl⟩) | (go_at_call 58; refine (isInf_any _ _ hx).mono ?_; rintro e w' ⟨rfl, rfl⟩) | (go_at_call 63; refine (signbit_any _ _ hx).mono ?_; rintro e w' ⟨rfl, rfl⟩))
  all_goals (go_ret; refine ⟨ret_bool ?_, rfl⟩; try simp only [zero_iff] at *
             unfold goodB; simp [*])

theorem implGood_any (x : Nat) (w : World) (hx : x < 18446744073709551616) :
    Calls Try.prog 55 #[.float .f64 x] w fun e w' => e = .returned (.bool (goodB x)) ∧ w' = w := by
  go_enter Try.func55, Try.ntmps55
  go_wp2_with (first | (go_at_call 57; refine (isNaN_any _ _).mono ?_; rintro e w' ⟨rfl, rfl⟩) | (go_at_call 58; refine (isInf_any _ _ hx).mono ?_; rintro e w' ⟨rfl, rfl⟩) | (go_at_call 63; refine (signbit_any _ _ hx).mono ?_; rintro e w' ⟨rfl, rfl⟩))
  all_goals (go_ret; refine ⟨ret_bool ?_, rfl⟩; try simp only [zero_iff] at *
             unfold goodB; simp [*])

end Go.Proofs.Ytgcnkecfdmafdaa
