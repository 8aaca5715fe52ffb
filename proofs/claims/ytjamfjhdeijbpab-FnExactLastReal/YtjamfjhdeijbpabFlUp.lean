/- The contract of realUp at good floats below the greatest one. -/
import Derived.Test.YtjamfjhdeijbpabFlPlain
namespace Go.Proofs.Ytjamfjhdeijbpab
open Go.RowKit

theorem realUp_neg (x : Nat) (w : World) (h1 : 0 < x) (hx : x < 18446744073709551616) (h : FloatKind.f64.format.order x 0 = some Ordering.lt) :
    Calls Try.prog 24 #[.float .f64 x] w fun e w' => e = .returned (.float .f64 (plain (x - 1))) ∧ w' = w := by
  have hb := f64bits
  have hf := f64from
  go_enter Try.func24, Try.ntmps24
  go_wp2_with (go_at_call 40; refine (unsigned_any _ _).mono ?_; rintro e w' ⟨rfl, rfl⟩)
  go_ret
  exact ⟨rfl, rfl⟩
theorem realUp_pos (x : Nat) (w : World) (hx : x + 1 < 18446744073709551616) (h : (FloatKind.f64.format.order x 0 == some Ordering.lt) = false) :
    Calls Try.prog 24 #[.float .f64 x] w fun e w' => e = .returned (.float .f64 (x + 1)) ∧ w' = w := by
  have hb := f64bits
  have hf := f64from
  go_enter Try.func24, Try.ntmps24
  go_wp2_with (go_at_call 40; refine (unsigned_any _ _).mono ?_; rintro e w' ⟨rfl, rfl⟩)
  go_ret
  exact ⟨rfl, rfl⟩
theorem realUp_any (x : Nat) (w : World) (hx : x < 18446744073709551616) (h : goodB x = true) :
    Calls Try.prog 24 #[.float .f64 x] w fun e w' => e = .returned (.float .f64 (upF x)) ∧ w' = w := by
  rcases good_parts hx h with rfl | ⟨h0, h1⟩ | ⟨h0, h1⟩
  · exact realUp_pos 0 w (by omega) (by decide)
  · obtain ⟨hr, hk, hl⟩ := pos_facts h0 h1
    have a3 : FloatKind.f64.format.order x 0 = some .gt := ord_val hl (by decide) (by rw [hk, key0]; exact cmp_gt (by omega))
    have e : upF x = x + 1 := by
      have : ¬ 9223372036854775808 < x := by unfold INF at h1; omega
      unfold upF; rw [if_neg this]
    rw [e]
    exact realUp_pos x w (by unfold INF at h1; omega) (by rw [a3]; decide)
  · obtain ⟨hr, hk, hl⟩ := neg_facts h0 h1
    have a3 : FloatKind.f64.format.order x 0 = some .lt := ord_val hl (by decide) (by rw [hk, key0]; exact cmp_lt (by omega))
    have e : upF x = plain (x - 1) := by unfold upF; rw [if_pos h0]
    rw [e]
    exact realUp_neg x w (by omega) hx a3

end Go.Proofs.Ytjamfjhdeijbpab
