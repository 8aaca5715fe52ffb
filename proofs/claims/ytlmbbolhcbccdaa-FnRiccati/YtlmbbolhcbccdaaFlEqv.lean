/- A nought's sign does not matter for what comes of it but for its own sign: plain mathematics, no condition. -/
import Derived.Test.YtlmbbolhcbccdaaFlNf
namespace Go.Proofs.Ytlmbbolhcbccdaa
open Go.RowKit

def pw (d : Ieee.Datum) : Nat := plain (D.write d)
theorem pw_zero (s : Bool) (p : Int) : pw (.number s 0 p) = 0 := by
  unfold pw
  have e : D.write (.number s 0 p) = D.word s 0 := rfl
  rw [e]
  unfold plain zeroB
  rw [word_rung _ (by decide)]
  rfl
theorem signed_zero (s : Bool) (u : Nat) : Ieee.signed s 0 u = 0 := by cases s <;> simp [Ieee.signed]
theorem product_zl (s t : Bool) (p : Int) (y : Ieee.Datum) : ((Ieee.Datum.number s 0 p).product y).map pw = ((Ieee.Datum.number t 0 p).product y).map pw := by
  cases y with
  | nan => rfl
  | infinity => rfl
  | number u n j => simp only [Ieee.Datum.product, Nat.zero_mul, Option.map_some, pw_zero]
theorem product_zr (s t : Bool) (p : Int) (y : Ieee.Datum) : (y.product (Ieee.Datum.number s 0 p)).map pw = (y.product (Ieee.Datum.number t 0 p)).map pw := by
  cases y with
  | nan => rfl
  | infinity => rfl
  | number u n j => simp only [Ieee.Datum.product, Nat.mul_zero, Option.map_some, pw_zero]
theorem sum_zl (s t : Bool) (p : Int) (y : Ieee.Datum) : ((Ieee.Datum.number s 0 p).sum y).map pw = ((Ieee.Datum.number t 0 p).sum y).map pw := by
  cases y with
  | nan => rfl
  | infinity => rfl
  | number u n j =>
    simp only [Ieee.Datum.sum, signed_zero, Option.map_some, Int.zero_add]
    by_cases h : Ieee.signed u n (j - min p j).toNat = 0
    · simp only [h, Int.natAbs_zero, pw_zero]
    · simp only [h, if_false]
theorem sum_zr (s t : Bool) (p : Int) (y : Ieee.Datum) : (y.sum (Ieee.Datum.number s 0 p)).map pw = (y.sum (Ieee.Datum.number t 0 p)).map pw := by
  cases y with
  | nan => rfl
  | infinity => rfl
  | number u n j =>
    simp only [Ieee.Datum.sum, signed_zero, Option.map_some, Int.add_zero]
    by_cases h : Ieee.signed u n (j - min j p).toNat = 0
    · simp only [h, Int.natAbs_zero, pw_zero]
    · simp only [h, if_false]
theorem quotient_zl (s t : Bool) (p : Int) (q : Nat) (y : Ieee.Datum) : ((Ieee.Datum.number s 0 p).quotient q y).map pw = ((Ieee.Datum.number t 0 p).quotient q y).map pw := by
  cases y with
  | nan => rfl
  | infinity => simp only [Ieee.Datum.quotient, Option.map_some, pw_zero]
  | number u n j =>
    by_cases h : n = 0
    · subst h; rfl
    · simp only [Ieee.Datum.quotient, h, if_false, Nat.zero_shiftLeft, Nat.zero_div, Nat.mul_zero, Nat.zero_mod, Nat.zero_add, Option.map_some]
      have e : ((0 : Nat) != 0).toNat = 0 := rfl
      simp only [e, pw_zero]

theorem fb_add (a b : Nat) : (floatBits .add .f64 a b).map plain = ((D.read a).sum (D.read b)).map pw := by
  show (Option.map _ _).map plain = _
  rw [Option.map_map]; rfl
theorem fb_sub (a b : Nat) : (floatBits .sub .f64 a b).map plain = ((D.read a).sum (D.read b).opposite).map pw := by
  show (Option.map _ _).map plain = _
  rw [Option.map_map]; rfl
theorem fb_mul (a b : Nat) : (floatBits .mul .f64 a b).map plain = ((D.read a).product (D.read b)).map pw := by
  show (Option.map _ _).map plain = _
  rw [Option.map_map]; rfl
theorem fb_quo (a b : Nat) : (floatBits .quo .f64 a b).map plain = ((D.read a).quotient 54 (D.read b)).map pw := by
  show (Option.map _ _).map plain = _
  rw [Option.map_map]; rfl

theorem plain_eq {a b : Nat} (h : plain a = plain b) : a = b ∨ (rung a = 0 ∧ rung b = 0) := by
  unfold plain zeroB at h
  by_cases ha : rung a = 0
  · by_cases hb : rung b = 0
    · exact .inr ⟨ha, hb⟩
    · simp [ha, hb] at h; subst h; exact absurd rfl hb
  · by_cases hb : rung b = 0
    · simp [ha, hb] at h; subst h; exact absurd rfl ha
    · simp [ha, hb] at h; exact .inl h

def Op3 (op : BinOp) : Prop := op = .add ∨ op = .sub ∨ op = .mul
theorem bits_pl {op : BinOp} (ho : Op3 op ∨ op = .quo) {a a' b : Nat} (h : plain a = plain a') : (floatBits op .f64 a b).map plain = (floatBits op .f64 a' b).map plain := by
  rcases plain_eq h with rfl | ⟨h1, h2⟩
  · rfl
  · rcases ho with (rfl | rfl | rfl) | rfl
    · rw [fb_add, fb_add, zero_read h1, zero_read h2]; exact sum_zl _ _ _ _
    · rw [fb_sub, fb_sub, zero_read h1, zero_read h2]; exact sum_zl _ _ _ _
    · rw [fb_mul, fb_mul, zero_read h1, zero_read h2]; exact product_zl _ _ _ _
    · rw [fb_quo, fb_quo, zero_read h1, zero_read h2]; exact quotient_zl _ _ _ _ _
theorem bits_pr {op : BinOp} (ho : Op3 op) {a b b' : Nat} (h : plain b = plain b') : (floatBits op .f64 a b).map plain = (floatBits op .f64 a b').map plain := by
  rcases plain_eq h with rfl | ⟨h1, h2⟩
  · rfl
  · rcases ho with rfl | rfl | rfl
    · rw [fb_add, fb_add, zero_read h1, zero_read h2]; exact sum_zr _ _ _ _
    · rw [fb_sub, fb_sub, zero_read h1, zero_read h2]; exact sum_zr _ _ _ _
    · rw [fb_mul, fb_mul, zero_read h1, zero_read h2]; exact product_zr _ _ _ _

/-- the same but for a nought's sign -/
def Eqv (o p : Option Nat) : Prop := o.map plain = p.map plain
theorem Eqv.refl (o : Option Nat) : Eqv o o := rfl
theorem eqv_cases {o p : Option Nat} (h : Eqv o p) : (o = none ∧ p = none) ∨ ∃ a b, o = some a ∧ p = some b ∧ plain a = plain b := by
  unfold Eqv at h
  cases o <;> cases p <;> simp at h
  · exact .inl ⟨rfl, rfl⟩
  · exact .inr ⟨_, _, rfl, rfl, h⟩
theorem eqv_ob {op : BinOp} (ho : Op3 op) {o o' p p' : Option Nat} (h : Eqv o o') (k : Eqv p p') : Eqv (ob op o p) (ob op o' p') := by
  rcases eqv_cases h with ⟨rfl, rfl⟩ | ⟨a, a', rfl, rfl, ha⟩
  · exact Eqv.refl _
  · rcases eqv_cases k with ⟨rfl, rfl⟩ | ⟨b, b', rfl, rfl, hb⟩
    · exact Eqv.refl _
    · show (floatBits op .f64 a b).map plain = (floatBits op .f64 a' b').map plain
      exact (bits_pl (.inl ho) ha).trans (bits_pr ho hb)
theorem eqv_quo {o o' : Option Nat} (p : Option Nat) (h : Eqv o o') : Eqv (ob .quo o p) (ob .quo o' p) := by
  rcases eqv_cases h with ⟨rfl, rfl⟩ | ⟨a, a', rfl, rfl, ha⟩
  · exact Eqv.refl _
  · cases p with
    | none => exact Eqv.refl _
    | some b => exact bits_pl (.inr rfl) ha
theorem o3a : Op3 .add := .inl rfl
theorem o3s : Op3 .sub := .inr (.inl rfl)
theorem o3m : Op3 .mul := .inr (.inr rfl)
theorem plain_nf (x : Nat) : (nanB (plain x) || infB (plain x)) = (nanB x || infB x) := by
  unfold plain
  split
  · rename_i h
    have h0 : rung x = 0 := by simpa [zeroB] using h
    unfold nanB infB
    rw [h0]; decide
  · rfl
theorem eqv_told {o p : Option Nat} (h : Eqv o p) : toldOk o = toldOk p ∧ told o = told p := by
  rcases eqv_cases h with ⟨rfl, rfl⟩ | ⟨a, b, rfl, rfl, hab⟩
  · exact ⟨rfl, rfl⟩
  · have e : (nanB a || infB a) = (nanB b || infB b) := by rw [← plain_nf a, ← plain_nf b, hab]
    refine ⟨?_, ?_⟩
    · show toldT a = toldT b
      unfold toldT; rw [e]
    · show toldV a = toldV b
      unfold toldV; rw [e, hab]
end Go.Proofs.Ytlmbbolhcbccdaa
