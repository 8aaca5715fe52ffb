/- One round of a cost in floats: what the two ways to reckon it have in common: plain mathematics, no condition. -/
import Derived.Test.YtlmbbolhcbccdaaFlNf
namespace Go.Proofs.Ytlmbbolhcbccdaa
open Go.RowKit

/-- a float operation at what is known of its arguments -/
theorem run_rep {P : Program} (op : BinOp) (h : op = .add ∨ op = .sub ∨ op = .mul ∨ op = .quo) {o p : Option Nat} {x y : Nat} (hx : Rep o x) (hy : Rep p y) (t : TypeId) (w : World) :
    ∃ v w', (binOp op t (.float .f64 x) (.float .f64 y)).run P w = .ok (.float .f64 v) w' ∧ Rep (ob op o p) v ∧ (∃ n, w' = w.drewN n) :=
  ⟨_, _, run_fl op h t x y w, rep_ob hx hy w, _, rfl⟩

def nO (a b p : Nat) : Option Nat := ob .mul (ob .mul (some a) (some b)) (some p)
def dO (b r p : Nat) : Option Nat := ob .add (some r) (ob .mul (ob .mul (some b) (some b)) (some p))
def hO (a q p : Nat) : Option Nat := ob .add (some q) (ob .mul (ob .mul (some a) (some a)) (some p))
def nnO (a b p : Nat) : Option Nat := ob .mul (nO a b p) (nO a b p)
def xO (a b q r p : Nat) : Option Nat := ob .sub (hO a q p) (ob .quo (nnO a b p) (dO b r p))
def yO (a b r p : Nat) : Option Nat := ob .quo (nO a b p) (dO b r p)

/-- is there a sum to divide by -/
def dOk (b r p : Nat) : Bool := !noDo (dO b r p)
def rdOk (a b q r p : Nat) : Bool := (dOk b r p && toldOk (nO a b p)) && (toldOk (xO a b q r p) && toldOk (nnO a b p))
def rdV (a b q r p : Nat) : Nat := if rdOk a b q r p then told (xO a b q r p) else 0
def gnOk (a b r p : Nat) : Bool := (dOk b r p && toldOk (nO a b p)) && toldOk (yO a b r p)
def gnV (a b r p : Nat) : Nat := if gnOk a b r p then told (yO a b r p) else 0

/-- the same, the sum's nought without its sign, and asked for being finite alone -/
def dP (b r p : Nat) : Option Nat := some (told (dO b r p))
def xP (a b q r p : Nat) : Option Nat := ob .sub (hO a q p) (ob .quo (nnO a b p) (dP b r p))
def yP (a b r p : Nat) : Option Nat := ob .quo (nO a b p) (dP b r p)

theorem told_zero {o : Option Nat} (h : toldOk o = false) : told o = 0 := by
  cases o with
  | none => rfl
  | some v =>
    have h' : toldT v = false := h
    show toldV v = 0
    unfold toldT at h'; unfold toldV
    cases e : (nanB v || infB v) with
    | true => rfl
    | false => rw [e] at h'; cases h'
theorem plain_of_ne {v : Nat} (h : zeroB v = false) : plain v = v := by unfold plain; rw [h]; rfl

theorem d_cases {b r p : Nat} (h : toldOk (dO b r p) = true) : (rung (told (dO b r p)) = 0 ∧ dOk b r p = false) ∨ (dP b r p = dO b r p ∧ dOk b r p = true ∧ noDo (dO b r p) = false) := by
  unfold dOk dP
  generalize dO b r p = o at *
  cases o with
  | none => cases h
  | some v =>
    have h' : (nanB v || infB v) = false := by
      have : toldT v = true := h
      unfold toldT at this; simpa using this
    have e : told (some v) = plain v := by show toldV v = _; unfold toldV; rw [h']; rfl
    rw [e]
    cases hz : zeroB v with
    | true =>
      refine .inl ⟨by unfold plain; rw [hz]; rfl, ?_⟩
      show (!noD v) = false
      unfold noD; rw [zero_ord, hz]; rfl
    | false =>
      have hn : noD v = false := by unfold noD; rw [zero_ord, hz, h']; rfl
      refine .inr ⟨by rw [plain_of_ne hz], ?_, hn⟩
      show (!noD v) = true
      rw [hn]; rfl
theorem dOk_false {b r p : Nat} (h : toldOk (dO b r p) = false) : dOk b r p = false := by
  unfold dOk
  generalize dO b r p = o at *
  cases o with
  | none => rfl
  | some v =>
    have h' : (nanB v || infB v) = true := by
      have : toldT v = false := h
      unfold toldT at this
      cases e : (nanB v || infB v) with
      | true => rfl
      | false => rw [e] at this; cases this
    show (!noD v) = false
    unfold noD; rw [h']; simp

theorem round_none {a b q r p : Nat} (h : toldOk (dO b r p) = false) : rdV a b q r p = 0 ∧ rdOk a b q r p = false := by
  have e : rdOk a b q r p = false := by unfold rdOk; rw [dOk_false h]; rfl
  exact ⟨by unfold rdV; rw [e]; rfl, e⟩
theorem round_some {a b q r p : Nat} (h : toldOk (dO b r p) = true) : told (xP a b q r p) = rdV a b q r p ∧ toldOk (xP a b q r p) = rdOk a b q r p := by
  rcases d_cases h with ⟨hz, hn⟩ | ⟨he, hk, hn⟩
  · have e : rdOk a b q r p = false := by unfold rdOk; rw [hn]; rfl
    have e2 : toldOk (xP a b q r p) = false := nf_sub_r (nf_quo_zero hz)
    exact ⟨by rw [told_zero e2]; unfold rdV; rw [e]; rfl, by rw [e, e2]⟩
  · have ex : xP a b q r p = xO a b q r p := by unfold xP xO; rw [he]
    rw [ex]
    have key : toldOk (xO a b q r p) = true → toldOk (nO a b p) = true ∧ toldOk (nnO a b p) = true := by
      intro hx
      have hnn : toldOk (nnO a b p) = true := by
        cases e : toldOk (nnO a b p) with
        | true => rfl
        | false => rw [show toldOk (xO a b q r p) = false from nf_sub_r (nf_quo_l e hn)] at hx; cases hx
      refine ⟨?_, hnn⟩
      cases e : toldOk (nO a b p) with
      | true => rfl
      | false => rw [show toldOk (nnO a b p) = false from nf_mul_l e] at hnn; cases hnn
    cases hx : toldOk (xO a b q r p) with
    | true =>
      have e : rdOk a b q r p = true := by unfold rdOk; rw [hk, (key hx).1, (key hx).2, hx]; rfl
      exact ⟨by unfold rdV; rw [e]; rfl, e.symm⟩
    | false =>
      have e : rdOk a b q r p = false := by unfold rdOk; rw [hx]; simp
      exact ⟨by rw [told_zero hx]; unfold rdV; rw [e]; rfl, e.symm⟩
theorem gain_none {a b r p : Nat} (h : toldOk (dO b r p) = false) : gnV a b r p = 0 ∧ gnOk a b r p = false := by
  have e : gnOk a b r p = false := by unfold gnOk; rw [dOk_false h]; rfl
  exact ⟨by unfold gnV; rw [e]; rfl, e⟩
theorem gain_some {a b r p : Nat} (h : toldOk (dO b r p) = true) : told (yP a b r p) = gnV a b r p ∧ toldOk (yP a b r p) = gnOk a b r p := by
  rcases d_cases h with ⟨hz, hn⟩ | ⟨he, hk, hn⟩
  · have e : gnOk a b r p = false := by unfold gnOk; rw [hn]; rfl
    have e2 : toldOk (yP a b r p) = false := nf_quo_zero hz
    exact ⟨by rw [told_zero e2]; unfold gnV; rw [e]; rfl, by rw [e, e2]⟩
  · have ex : yP a b r p = yO a b r p := by unfold yP yO; rw [he]
    rw [ex]
    have key : toldOk (yO a b r p) = true → toldOk (nO a b p) = true := by
      intro hx
      cases e : toldOk (nO a b p) with
      | true => rfl
      | false => rw [show toldOk (yO a b r p) = false from nf_quo_l e hn] at hx; cases hx
    cases hx : toldOk (yO a b r p) with
    | true =>
      have e : gnOk a b r p = true := by unfold gnOk; rw [hk, key hx, hx]; rfl
      exact ⟨by unfold gnV; rw [e]; rfl, e.symm⟩
    | false =>
      have e : gnOk a b r p = false := by unfold gnOk; rw [hx]; simp
      exact ⟨by rw [told_zero hx]; unfold gnV; rw [e]; rfl, e.symm⟩

/-- what is asked of the numbers -/
def posB (x : Nat) : Bool := FloatKind.f64.format.order x 0 == some .gt
def g4 (a b q r : Nat) : Bool := goodB a && goodB b && goodB q && goodB r
def askB (a b q r : Nat) : Bool := g4 a b q r && (!zeroB b && (posB q && posB r))

/-- so many rounds: the last p, or none -/
def ric (a b q r : Nat) : Nat → Option Nat
  | 0 => some q
  | k + 1 => (ric a b q r k).bind fun p => if rdOk a b q r p then some (rdV a b q r p) else none
theorem ric_lt {a b q r : Nat} (hx : ∀ p, p < 18446744073709551616 → rdV a b q r p < 18446744073709551616) (hq : q < 18446744073709551616) (k p : Nat) (h : ric a b q r k = some p) : p < 18446744073709551616 := by
  induction k generalizing p with
  | zero => cases h; exact hq
  | succ k ih =>
    simp only [ric] at h
    cases e : ric a b q r k with
    | none => rw [e] at h; cases h
    | some v =>
      rw [e] at h
      simp only [Option.bind_some] at h
      split at h
      · cases h; exact hx v (ih v e)
      · cases h
theorem told_fits (o : Option Nat) (h : ∀ v, o = some v → v < 18446744073709551616) : told o < 18446744073709551616 := by
  cases o with
  | none => decide
  | some v =>
    show toldV v < _
    unfold toldV
    split
    · decide
    · exact plain_lt (h v rfl)
theorem ob_fits {op : BinOp} {o p : Option Nat} {v : Nat} (h : ob op o p = some v) : v < 18446744073709551616 := by
  cases o with
  | none => simp [ob] at h
  | some a =>
    cases p with
    | none => simp [ob] at h
    | some b => exact bits_lt h
theorem rdV_lt (a b q r p : Nat) : rdV a b q r p < 18446744073709551616 := by
  unfold rdV
  split
  · exact told_fits _ fun v h => ob_fits h
  · decide
theorem gnV_lt (a b r p : Nat) : gnV a b r p < 18446744073709551616 := by
  unfold gnV
  split
  · exact told_fits _ fun v h => ob_fits h
  · decide
end Go.Proofs.Ytlmbbolhcbccdaa
