/- Sets of tasks as bits. -/
import Derived.Test.YtjmdghkhapajiaaLqBase
import Derived.Laws.Bits64
namespace Go.Proofs.Ytjmdghkhapajiaa
open Go.RowKit
theorem or_i64 (a b : Nat) (ha : a < 65536) (hb : b < 65536) : bits .or .i64 (a : Int) (b : Int) = ((a ||| b : Nat) : Int) := by
  have hx : a ||| b < 2 ^ 16 := Nat.or_lt_two_pow (by omega) (by omega)
  have h1 : (BitVec.ofInt 64 (a : Int)).toNat = a := by
    rw [BitVec.ofInt_natCast, BitVec.toNat_ofNat]; exact Nat.mod_eq_of_lt (by omega)
  have h2 : (BitVec.ofInt 64 (b : Int)).toNat = b := by
    rw [BitVec.ofInt_natCast, BitVec.toNat_ofNat]; exact Nat.mod_eq_of_lt (by omega)
  show IntKind.i64.wrap ((BitVec.ofInt 64 (a : Int) ||| BitVec.ofInt 64 (b : Int)).toNat : Int) = _
  rw [BitVec.toNat_or, h1, h2, IntKind.wrap_i64]
  omega
theorem and1_i64 (y : Nat) (h : y < 1048576) : bits .and .i64 (y : Int) 1 = ((y % 2 : Nat) : Int) := by
  have k := bits_mask .i64 62 (by decide) (fun n h0 h1 => by rw [IntKind.wrap_i64]; omega) 1 (by decide) (y : Int) (by omega) (by omega)
  have e : ((2 : Int) ^ 1 - 1) = 1 := by decide
  have e2 : ((2 : Int) ^ 1) = 2 := by decide
  rw [e, e2] at k
  rw [k]; omega
theorem bt_and (M t : Nat) (hM : M < 64) : (bits .and .i64 ((M : Int) / 2 ^ t) 1 == 1) = M.testBit t := by
  have e : (M : Int) / 2 ^ t = ((M / 2 ^ t : Nat) : Int) := by simp
  have hl : M / 2 ^ t ≤ M := Nat.div_le_self _ _
  rw [e, and1_i64 _ (by omega), Nat.testBit_eq_decide_div_mod_eq]
  by_cases c : M / 2 ^ t % 2 = 1
  · rw [c]; rfl
  · rw [decide_eq_false c]; simpa using (by omega : ¬ ((M / 2 ^ t % 2 : Nat) : Int) = 1)
theorem or_bit (M t : Nat) (hM : M < 64) (ht : t < 6) : bits .or .i64 (M : Int) ((2 : Int) ^ t) = ((M ||| 2 ^ t : Nat) : Int) := by
  have e : ((2 : Int) ^ t) = ((2 ^ t : Nat) : Int) := by simp
  have h2 : 2 ^ t < 2 ^ 6 := Nat.pow_lt_pow_right (by omega) ht
  rw [e]; exact or_i64 M (2 ^ t) (by omega) (by omega)
theorem bit_in (t : Nat) (ht : t < 6) : IntKind.i64.wrap ((2 : Int) ^ t) = (2 : Int) ^ t := by
  have e : ((2 : Int) ^ t) = ((2 ^ t : Nat) : Int) := by simp
  have h2 : 2 ^ t < 2 ^ 6 := Nat.pow_lt_pow_right (by omega) ht
  rw [e]
  generalize 2 ^ t = y at h2 ⊢
  rw [IntKind.wrap_i64]; omega
set_option maxHeartbeats 1000000 in
theorem taken_any (M t : Nat) (w : World) (hM : M < 64) (ht : t < 6) :
    Calls Try.prog 50 #[.int .i64 (M : Int), .int .i64 (t : Int)] w fun e w' => e = .returned (.bool (M.testBit t)) ∧ w' = w := by
  have i0 : (0 : Int) ≤ (t : Int) := by omega
  have i1 : (t : Int) < 6 := by omega
  have hb := bt_and M t hM
  go_enter Try.func50, Try.ntmps50
  go_wp2
  go_ret
  exact ⟨by first | exact ret_bool hb | rfl, rfl⟩
end Go.Proofs.Ytjmdghkhapajiaa
