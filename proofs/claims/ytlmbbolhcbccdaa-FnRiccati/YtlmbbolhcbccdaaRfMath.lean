/- A float less another one is the sum with the other one turned over; what is told is good: plain mathematics, no condition. -/
import Derived.Test.YtlmbbolhcbccdaaFlEqv
import Derived.Test.YtlmbbolhcbccdaaFlNeg
import Derived.Test.YtlmbbolhcbccdaaCoRic
namespace Go.Proofs.Ytlmbbolhcbccdaa
open Go.RowKit

theorem good_plain {v : Nat} (h : (nanB v || infB v) = false) : goodB (plain v) = true := by
  have e := plain_nf v
  rw [h] at e
  have e1 : nanB (plain v) = false := by cases x : nanB (plain v) <;> simp_all
  have e2 : infB (plain v) = false := by cases x : infB (plain v) <;> simp_all
  unfold goodB
  rw [e1, e2]
  unfold plain
  cases hz : zeroB v with
  | true => simp only [if_true]; decide
  | false => simp [hz]
theorem good_told {o : Option Nat} (h : toldOk o = true) : goodB (told o) = true := by
  cases o with
  | none => cases h
  | some v =>
    have h' : (nanB v || infB v) = false := by
      have : toldT v = true := h
      unfold toldT at this; simpa using this
    have e : told (some v) = plain v := by show toldV v = _; unfold toldV; rw [h']; rfl
    rw [e]; exact good_plain h'
theorem good_rd {a b q r p : Nat} (h : rdOk a b q r p = true) : goodB (rdV a b q r p) = true := by
  unfold rdV; rw [h, if_pos rfl]
  refine good_told ?_
  unfold rdOk at h
  cases e : toldOk (xO a b q r p) with
  | true => rfl
  | false => rw [e] at h; simp at h
theorem ric_good {a b q r : Nat} (hq : goodB q = true) (k p : Nat) (h : ric a b q r k = some p) : goodB p = true := by
  cases k with
  | zero => cases h; exact hq
  | succ k =>
    simp only [ric] at h
    cases e : ric a b q r k with
    | none => rw [e] at h; cases h
    | some v =>
      rw [e] at h
      simp only [Option.bind_some] at h
      split at h
      · rename_i hk; cases h; exact good_rd hk
      · cases h
theorem good_fin {x : Nat} (h : goodB x = true) : rung x < INF := by
  unfold goodB nanB infB at h
  simp only [Bool.and_eq_true, Bool.not_eq_true', decide_eq_false_iff_not] at h
  omega
theorem eq_self {x : Nat} (h : goodB x = true) : (FloatKind.f64.format.order x x == some .eq) = true := by
  have := good_fin h
  rw [ord_eq_iff]
  simp; omega
theorem ne_self {x : Nat} (h : goodB x = true) : (FloatKind.f64.format.order x x != some .eq) = false := by
  have := eq_self h
  simp only [bne, this]; rfl

theorem rung_neg {x : Nat} : rung (negF x) = rung x := by
  have hr : ∀ m, rung m = m % 9223372036854775808 := fun _ => rfl
  rw [hr, hr]; unfold negF; split <;> omega
theorem neg_neg_ {x : Nat} (hx : x < 18446744073709551616) : neg (negF x) = !neg x := by
  have hd : ∀ m, neg m = (m / 9223372036854775808 % 2 == 1) := fun _ => rfl
  rw [hd, hd]
  unfold negF
  split
  · have e1 : x / 9223372036854775808 = 0 := by omega
    have e2 : (x + 9223372036854775808) / 9223372036854775808 = 1 := by omega
    rw [e1, e2]; rfl
  · have e1 : x / 9223372036854775808 = 1 := by omega
    have e2 : (x - 9223372036854775808) / 9223372036854775808 = 0 := by omega
    rw [e1, e2]; rfl
theorem read_neg {x : Nat} (hx : x < 18446744073709551616) (h : rung x < INF) : D.read (negF x) = (D.read x).opposite := by
  rw [read_num (by rw [rung_neg]; exact h), read_num h, rung_neg, neg_neg_ hx]
  rfl
theorem plain_plain (x : Nat) : plain (plain x) = plain x := by
  unfold plain
  cases hz : zeroB x with
  | true => simp only [if_true]; decide
  | false => simp [hz]
/-- the turned one added is the one taken away -/
theorem add_turned {x p : Nat} (hp : p < 18446744073709551616) (h : goodB p = true) : Eqv (ob .add (some x) (some (plain (negF p)))) (ob .sub (some x) (some p)) := by
  show (floatBits .add .f64 x (plain (negF p))).map plain = (floatBits .sub .f64 x p).map plain
  rw [bits_pr (op := .add) o3a (plain_plain (negF p)), fb_add, fb_sub, read_neg hp (good_fin h)]
theorem add_some {x y : Nat} (hx : goodB x = true) (hy : goodB y = true) : ∃ r, floatBits .add .f64 x y = some r ∧ r < 18446744073709551616 := by
  have h1 := read_num (good_fin hx)
  have h2 := read_num (good_fin hy)
  have : ∃ z, (D.read x).sum (D.read y) = some z := by rw [h1, h2]; exact ⟨_, rfl⟩
  obtain ⟨z, hz⟩ := this
  have e : floatBits .add .f64 x y = some (D.write z) := by show Option.map _ ((D.read x).sum (D.read y)) = _; rw [hz]; rfl
  exact ⟨_, e, bits_lt e⟩
theorem good_turned {p : Nat} (hp : goodB p = true) : goodB (plain (negF p)) = true := by
  refine good_plain ?_
  have := good_fin hp
  rw [← rung_neg] at this
  unfold nanB infB
  simp; omega
end Go.Proofs.Ytlmbbolhcbccdaa
