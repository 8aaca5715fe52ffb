/- The contracts of IsNaN, IsInf, Signbit and both GoodReal functions, at every float. -/
import Derived.Test.YtfciecoigfnnhaaRows
import Derived.Test.YtfciecoigfnnhaaFlMath
import Derived.WalkKit
import Derived.WalkLawsBesides
import Derived.Laws.Externs
import Derived.Laws.BitsAllLaws
namespace Go.Proofs.Ytfciecoigfnnhaa
open Go.RowKit

theorem f64bits (x : Nat) (w : World) : (callFunc 114 #[.float .f64 x]).run Try.prog w = .ok (.value (.int .u64 x)) w := by
  rw [run_callFunc_extern (e := Extern.MathFloatBits.float64bits) Try.func114 (by kernel_rfl) (by kernel_rfl) (by kernel_rfl) (by kernel_rfl)]; rfl
theorem f64from (n : Int) (w : World) : (callFunc 115 #[.int .u64 n]).run Try.prog w = .ok (.value (.float .f64 n.toNat)) w := by
  rw [run_callFunc_extern (e := Extern.MathFloatBits.float64frombits) Try.func115 (by kernel_rfl) (by kernel_rfl) (by kernel_rfl) (by kernel_rfl)]; rfl

theorem isNaN_any (x : Nat) (w : World) :
    Calls Try.prog 109 #[.float .f64 x] w fun e w' => e = .returned (.bool (nanB x)) ∧ w' = w := by
  go_enter Try.func109, Try.ntmps109
  go_wp2
  all_goals (go_ret; exact ⟨ret_bool (nan_ord x), rfl⟩)

theorem abs_any (x : Nat) (w : World) (hx : x < 18446744073709551616) :
    Calls Try.prog 113 #[.float .f64 x] w fun e w' => e = .returned (.float .f64 (x % 2 ^ 63)) ∧ w' = w := by
  have hb := f64bits
  have hf := f64from
  go_enter Try.func113, Try.ntmps113
  go_wp2
  go_ret
  exact ⟨ret_float (andNot_top x hx), rfl⟩

theorem isInf_any (x : Nat) (w : World) (hx : x < 18446744073709551616) :
    Calls Try.prog 110 #[.float .f64 x, .int .i64 0] w fun e w' => e = .returned (.bool (infB x)) ∧ w' = w := by
  go_enter Try.func110, Try.ntmps110
  go_wp2_with (go_at_call 113; refine (abs_any _ _ hx).mono ?_; rintro e w' ⟨rfl, rfl⟩)
  go_ret
  exact ⟨ret_bool (inf_ord x), rfl⟩

theorem signbit_any (x : Nat) (w : World) (hx : x < 18446744073709551616) :
    Calls Try.prog 111 #[.float .f64 x] w fun e w' => e = .returned (.bool (sgnB x)) ∧ w' = w := by
  have hb := f64bits
  go_enter Try.func111, Try.ntmps111
  go_wp2
  go_ret
  exact ⟨ret_bool (wrap_neg x hx), rfl⟩

theorem specGood_any (x : Nat) (w : World) (hx : x < 18446744073709551616) :
    Calls Try.prog 107 #[.float .f64 x] w fun e w' => e = .returned (.bool (goodB x)) ∧ w' = w := by
  go_enter Try.func107, Try.ntmps107
  go_wp2_with (first | (go_at_call 109; refine (isNaN_any _ _).mono ?_; rintro e w' ⟨rfl, rfl⟩) | (go_at_call 110; refine (isInf_any _ _ hx).mono ?_; rintro e w' ⟨rfl, rfl⟩) | (go_at_call 111; refine (signbit_any _ _ hx).mono ?_; rintro e w' ⟨rfl, rfl⟩))
  all_goals (go_ret; refine ⟨ret_bool ?_, rfl⟩; try simp only [zero_iff] at *
             unfold goodB; simp [*])

theorem implGood_any (x : Nat) (w : World) (hx : x < 18446744073709551616) :
    Calls Try.prog 112 #[.float .f64 x] w fun e w' => e = .returned (.bool (goodB x)) ∧ w' = w := by
  go_enter Try.func112, Try.ntmps112
  go_wp2_with (first | (go_at_call 109; refine (isNaN_any _ _).mono ?_; rintro e w' ⟨rfl, rfl⟩) | (go_at_call 110; refine (isInf_any _ _ hx).mono ?_; rintro e w' ⟨rfl, rfl⟩) | (go_at_call 111; refine (signbit_any _ _ hx).mono ?_; rintro e w' ⟨rfl, rfl⟩))
  all_goals (go_ret; refine ⟨ret_bool ?_, rfl⟩; try simp only [zero_iff] at *
             unfold goodB; simp [*])

end Go.Proofs.Ytfciecoigfnnhaa
