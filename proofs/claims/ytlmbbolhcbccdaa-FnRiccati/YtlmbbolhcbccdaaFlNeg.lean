/- A float turned over. -/
import Derived.Test.YtlmbbolhcbccdaaFlPlain
namespace Go.Proofs.Ytlmbbolhcbccdaa
open Go.RowKit

def negF (x : Nat) : Nat := if x < 9223372036854775808 then x + 9223372036854775808 else x - 9223372036854775808

theorem negF_xor {x : Nat} (hx : x < 18446744073709551616) : x ^^^ 2 ^ 63 = negF x := by
  have h1 : (x ^^^ 2 ^ 63) % 2 ^ 63 = x % 2 ^ 63 := by rw [Nat.xor_mod_two_pow, Nat.mod_self, Nat.xor_zero]
  have h2 : (x ^^^ 2 ^ 63) / 2 ^ 63 = (x / 2 ^ 63) ^^^ 1 := by rw [Nat.xor_div_two_pow, Nat.div_self (Nat.two_pow_pos _)]
  have h3 : x / 2 ^ 63 = 0 ∨ x / 2 ^ 63 = 1 := by omega
  have h4 : x ^^^ 2 ^ 63 = (x ^^^ 2 ^ 63) / 2 ^ 63 * 2 ^ 63 + (x ^^^ 2 ^ 63) % 2 ^ 63 := by omega
  rw [h4, h1, h2]
  unfold negF
  rcases h3 with h3 | h3
  · rw [h3, if_pos (by omega)]; simp; omega
  · rw [h3, if_neg (by omega)]; simp; omega
theorem negF_lt {x : Nat} (hx : x < 18446744073709551616) : negF x < 18446744073709551616 := by unfold negF; split <;> omega

theorem run_neg (x : Nat) (w : World) : (Op.unary .neg (.float .f64 x)).run Try.prog w = .ok (.float .f64 (x ^^^ 2 ^ 63)) w := rfl

end Go.Proofs.Ytlmbbolhcbccdaa
