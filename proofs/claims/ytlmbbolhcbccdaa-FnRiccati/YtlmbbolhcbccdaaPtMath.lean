/- Sums, products and quotients of what is known of floats, and of points: plain mathematics over any program, no condition. -/
import Derived.Test.YtlmbbolhcbccdaaFlOps
namespace Go.Proofs.Ytlmbbolhcbccdaa
open Go.RowKit

def Arith (op : BinOp) : Prop := op = .add ∨ op = .sub ∨ op = .mul ∨ op = .quo

theorem bits_nan_l {op : BinOp} {v x : Nat} (h : INF < rung v) : floatBits op .f64 v x = none := by
  cases op <;> first | rfl | skip
  · show Option.map _ ((Ieee.double.read v).sum _) = none; rw [read_nan h]; rfl
  · show Option.map _ ((Ieee.double.read v).sum _) = none; rw [read_nan h]; rfl
  · show Option.map _ ((Ieee.double.read v).product _) = none; rw [read_nan h]; rfl
  · show Option.map _ ((Ieee.double.read v).quotient _ _) = none; rw [read_nan h]; rfl
theorem bits_nan_r {op : BinOp} {v x : Nat} (h : INF < rung x) : floatBits op .f64 v x = none := by
  cases op <;> first | rfl | skip
  · show Option.map _ ((Ieee.double.read v).sum (Ieee.double.read x)) = none; rw [read_nan h]; cases Ieee.double.read v <;> rfl
  · show Option.map _ ((Ieee.double.read v).sum (Ieee.double.read x).opposite) = none; rw [read_nan h]; cases Ieee.double.read v <;> rfl
  · show Option.map _ ((Ieee.double.read v).product (Ieee.double.read x)) = none; rw [read_nan h]; cases Ieee.double.read v <;> rfl
  · show Option.map _ ((Ieee.double.read v).quotient _ (Ieee.double.read x)) = none; rw [read_nan h]; cases Ieee.double.read v <;> rfl
theorem bits_lt {op : BinOp} {x y r : Nat} (h : floatBits op .f64 x y = some r) : r < 18446744073709551616 := by
  simpa [Lit.wf] using floatBits_wf h

/-- an operation on what is known of two floats -/
def ob (op : BinOp) (o p : Option Nat) : Option Nat := o.bind fun a => p.bind fun b => floatBits op .f64 a b

theorem rep_of {x : Nat} (h : x < 18446744073709551616) : Rep (some x) x := ⟨h, fun h => (by cases h), fun r h => (by cases h; rfl)⟩
theorem rep_nan {x y : Nat} (w : World) : Rep none (nanOf x y w) := ⟨(nanOf_nan x y w).2, fun _ => (nanOf_nan x y w).1, fun r h => (by cases h)⟩
theorem rep_ob {op : BinOp} {o p : Option Nat} {v u : Nat} (h : Rep o v) (k : Rep p u) (w : World) : Rep (ob op o p) (fr op v u w) := by
  have hn : floatBits op .f64 v u = none → ob op o p = none → Rep (ob op o p) (fr op v u w) := by
    intro e e'
    rw [e']; unfold fr; rw [e]; exact rep_nan w
  cases o with
  | none => exact hn (bits_nan_l (h.2.1 rfl)) rfl
  | some a =>
    obtain rfl := h.2.2 a rfl
    cases p with
    | none => exact hn (bits_nan_r (k.2.1 rfl)) rfl
    | some b =>
      obtain rfl := k.2.2 b rfl
      cases e : floatBits op .f64 v u with
      | none => exact hn e (by simp [ob, e])
      | some r =>
        have e2 : ob op (some v) (some u) = some r := by simp [ob, e]
        rw [e2]; unfold fr; rw [e]; exact rep_of (bits_lt e)

/-- the parts of a product, and of a quotient -/
def mR (a b c d : Option Nat) : Option Nat := ob .sub (ob .mul a c) (ob .mul b d)
def mI (a b c d : Option Nat) : Option Nat := ob .add (ob .mul a d) (ob .mul b c)
def dD (c d : Option Nat) : Option Nat := ob .add (ob .mul c c) (ob .mul d d)
def dR (a b c d : Option Nat) : Option Nat := ob .quo (ob .add (ob .mul a c) (ob .mul b d)) (dD c d)
def dI (a b c d : Option Nat) : Option Nat := ob .quo (ob .sub (ob .mul b c) (ob .mul a d)) (dD c d)

/-- what a quotient is not worked out for -/
def noD (v : Nat) : Bool := (FloatKind.f64.format.order v 0 == some .eq) || (nanB v || infB v)
def noDo (o : Option Nat) : Bool := (o.map noD).getD true
theorem noD_rep {o : Option Nat} {v : Nat} (h : Rep o v) : noD v = noDo o := by
  cases o with
  | none =>
    have : nanB v = true := by unfold nanB; simpa using h.2.1 rfl
    simp [noD, noDo, this]
  | some r => obtain rfl := h.2.2 r rfl; rfl

/-- a point that is told: both parts finite -/
def tellOk (o p : Option Nat) : Bool := toldOk o && toldOk p
def tellR (o p : Option Nat) : Nat := if tellOk o p then told o else 0
def tellI (o p : Option Nat) : Nat := if tellOk o p then told p else 0

theorem tellR_lt {o p : Option Nat} {v : Nat} (h : Rep o v) : tellR o p < 18446744073709551616 := by
  unfold tellR; split
  · exact told_lt h
  · decide
theorem tellI_lt {o p : Option Nat} {v : Nat} (h : Rep p v) : tellI o p < 18446744073709551616 := by
  unfold tellI; split
  · exact told_lt h
  · decide
end Go.Proofs.Ytlmbbolhcbccdaa
