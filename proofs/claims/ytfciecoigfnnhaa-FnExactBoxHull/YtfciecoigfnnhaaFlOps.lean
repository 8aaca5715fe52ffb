/- What +, -, *, / on float64 give, NaNs too: plain mathematics over any program, no condition. -/
import Derived.Test.YtfciecoigfnnhaaFlMath
import Derived.Deep.Draws
import Derived.Laws.NewFold
import Derived.Deep.OwnRows
namespace Go.Proofs.Ytfciecoigfnnhaa
open Go.RowKit

@[go_sem] theorem run_store_float {P : Program} {w : World} {a : Addr} {m : Mode} (k : FloatKind) (b : Nat) : (store a (.float k b) m).run P w = stored P w a (.float k b) m := run_store P w a _ m rfl

/-- the bits of a NaN that the tape gives -/
def nanOf (x y : Nat) (w : World) : Nat := (Question.nanBits .f64 x y).cut (w.tape w.drawn (Question.nanBits .f64 x y))
/-- the bits that an operation gives -/
def fr (op : BinOp) (x y : Nat) (w : World) : Nat := (floatBits op .f64 x y).getD (nanOf x y w)
/-- how many answers it draws -/
def fd (op : BinOp) (x y : Nat) : Nat := if (floatBits op .f64 x y).isSome then 0 else 1

theorem nanOf_nan (x y : Nat) (w : World) : INF < rung (nanOf x y w) ∧ nanOf x y w < 18446744073709551616 := by
  unfold nanOf
  generalize w.tape w.drawn (Question.nanBits .f64 x y) = t
  have e : (Question.nanBits .f64 x y).cut t = (t % 2) * 9223372036854775808 + 9218868437227405312 + 1 + (t / 2) % 4503599627370495 := rfl
  rw [e]
  have h : (t / 2) % 4503599627370495 < 4503599627370495 := Nat.mod_lt _ (by decide)
  have h2 : t % 2 < 2 := Nat.mod_lt _ (by decide)
  generalize (t / 2) % 4503599627370495 = u at *
  generalize t % 2 = s at *
  have hi : INF = 9218868437227405312 := by decide
  have hr : ∀ m, rung m = m % 9223372036854775808 := fun _ => rfl
  rw [hi, hr]
  constructor <;> omega

theorem run_fl {P : Program} (op : BinOp) (h : op = .add ∨ op = .sub ∨ op = .mul ∨ op = .quo) (t : TypeId) (x y : Nat) (w : World) :
    (binOp op t (.float .f64 x) (.float .f64 y)).run P w = .ok (.float .f64 (fr op x y w)) (w.drewN (fd op x y)) := by
  cases hb : floatBits op .f64 x y with
  | some r =>
    rw [run_float_arith w op t .f64 x y r hb]
    unfold fr fd; rw [hb]; rfl
  | none =>
    unfold fr fd; rw [hb]
    rcases h with rfl | rfl | rfl | rfl <;> simp only [floatBits] at hb <;> simp [binOp, Op.floatArith, hb, Question.forced, nanOf] <;> rfl

/-- what is known of a float behind operations: nothing but that it is a NaN, or its bits -/
def Rep (o : Option Nat) (v : Nat) : Prop := v < 18446744073709551616 ∧ (o = none → INF < rung v) ∧ ∀ r, o = some r → v = r

def omul (o : Option Nat) (x : Nat) : Option Nat := o.bind fun r => FloatKind.f64.format.mul r x
def oadd (o : Option Nat) (x : Nat) : Option Nat := o.bind fun r => FloatKind.f64.format.add r x

theorem mul_nan {v x : Nat} (h : INF < rung v) : FloatKind.f64.format.mul v x = none := by
  show Option.map _ ((Ieee.double.read v).product _) = none
  rw [read_nan h]; rfl
theorem add_nan {v x : Nat} (h : INF < rung v) : FloatKind.f64.format.add v x = none := by
  show Option.map _ ((Ieee.double.read v).sum _) = none
  rw [read_nan h]; rfl
theorem add_nan_right {v x : Nat} (h : INF < rung x) : FloatKind.f64.format.add v x = none := by
  show Option.map _ ((Ieee.double.read v).sum (Ieee.double.read x)) = none
  rw [read_nan h]
  cases Ieee.double.read v <;> rfl

theorem rep_mul {o : Option Nat} {v x : Nat} (h : Rep o v) (w : World) : Rep (omul o x) (fr .mul v x w) := by
  obtain ⟨hv, hn, hs⟩ := h
  cases o with
  | none =>
    have e := mul_nan (x := x) (hn rfl)
    have e2 : fr .mul v x w = nanOf v x w := by unfold fr floatBits; simp only [e]; rfl
    rw [e2]
    exact ⟨(nanOf_nan v x w).2, fun _ => (nanOf_nan v x w).1, fun r h => by simp [omul] at h⟩
  | some r =>
    obtain rfl := hs r rfl
    show Rep (FloatKind.f64.format.mul v x) _
    cases e : FloatKind.f64.format.mul v x with
    | none =>
      have e2 : fr .mul v x w = nanOf v x w := by unfold fr floatBits; simp only [e]; rfl
      rw [e2]
      exact ⟨(nanOf_nan v x w).2, fun _ => (nanOf_nan v x w).1, fun r h => by cases h⟩
    | some q =>
      have e2 : fr .mul v x w = q := by unfold fr floatBits; simp only [e]; rfl
      rw [e2]
      exact ⟨FloatKind.f64.format.mul_lt e, fun h => (by cases h), fun r h => by cases h; rfl⟩
theorem rep_add {o : Option Nat} {v x : Nat} (h : Rep o v) (w : World) : Rep (oadd o x) (fr .add v x w) := by
  obtain ⟨hv, hn, hs⟩ := h
  cases o with
  | none =>
    have e := add_nan (x := x) (hn rfl)
    have e2 : fr .add v x w = nanOf v x w := by unfold fr floatBits; simp only [e]; rfl
    rw [e2]
    exact ⟨(nanOf_nan v x w).2, fun _ => (nanOf_nan v x w).1, fun r h => by simp [oadd] at h⟩
  | some r =>
    obtain rfl := hs r rfl
    show Rep (FloatKind.f64.format.add v x) _
    cases e : FloatKind.f64.format.add v x with
    | none =>
      have e2 : fr .add v x w = nanOf v x w := by unfold fr floatBits; simp only [e]; rfl
      rw [e2]
      exact ⟨(nanOf_nan v x w).2, fun _ => (nanOf_nan v x w).1, fun r h => by cases h⟩
    | some q =>
      have e2 : fr .add v x w = q := by unfold fr floatBits; simp only [e]; rfl
      rw [e2]
      exact ⟨FloatKind.f64.format.add_lt e, fun h => (by cases h), fun r h => by cases h; rfl⟩

/-- a finite answer and true, or 0 and false -/
def toldV (v : Nat) : Nat := if nanB v || infB v then 0 else plain v
def toldT (v : Nat) : Bool := !(nanB v || infB v)
def told (o : Option Nat) : Nat := (o.map toldV).getD 0
def toldOk (o : Option Nat) : Bool := (o.map toldT).getD false

theorem told_rep {o : Option Nat} {v : Nat} (h : Rep o v) : toldV v = told o ∧ toldT v = toldOk o := by
  obtain ⟨hv, hn, hs⟩ := h
  cases o with
  | none =>
    have : nanB v = true := by unfold nanB; simpa using hn rfl
    unfold toldV toldT told toldOk
    rw [this]; exact ⟨rfl, rfl⟩
  | some r =>
    obtain rfl := hs r rfl
    exact ⟨rfl, rfl⟩
theorem told_lt {o : Option Nat} {v : Nat} (h : Rep o v) : told o < 18446744073709551616 := by
  rw [← (told_rep h).1]
  unfold toldV
  split
  · decide
  · exact plain_lt h.1

/-- are the first n good -/
def allG (f : Nat → Nat) : Nat → Bool
  | 0 => true
  | n + 1 => allG f n && goodB (f n)
theorem allG_false {f : Nat → Nat} {k n : Nat} (hk : k < n) (h : goodB (f k) = false) : allG f n = false := by
  induction n with
  | zero => omega
  | succ n ih =>
    by_cases e : k = n
    · subst e; simp [allG, h]
    · simp [allG, ih (by omega)]
def goodsB (f : Nat → Nat) (n : Nat) : Bool := decide (n ≤ 200) && allG f n

/-- the value of a polynomial, from the last coefficient on -/
def hor (f : Nat → Nat) (len x : Nat) : Nat → Option Nat
  | 0 => some 0
  | k + 1 => oadd (omul (hor f len x k) x) (f (len - 1 - k))

/-- a slice of floats: its elements by their index -/
def FS (w : World) (a : Option Addr) (len : Nat) (f : Nat → Nat) : Prop :=
  len ≤ 1048576 ∧ (∀ i, i < len → f i < 18446744073709551616) ∧ (0 < len → ∃ b off, a = some ⟨b, off, none⟩ ∧ b < w.heap.size ∧ ∀ i, i < len → w.cell? ⟨b, off + i, none⟩ = some (.float .f64 (f i)))

theorem FS.below {w w' : World} {a : Option Addr} {len : Nat} {f : Nat → Nat} (h : FS w a len f) (hb : Below w.heap.size w w') : FS w' a len f := by
  obtain ⟨h1, h2, h3⟩ := h
  refine ⟨h1, h2, fun hl => ?_⟩
  obtain ⟨b, off, rfl, hbw, hc⟩ := h3 hl
  exact ⟨b, off, rfl, Nat.lt_of_lt_of_le hbw hb.size, fun i hi => (hb.cell (p := ⟨b, off + i, none⟩) hbw).trans (hc i hi)⟩
theorem FS.drewN {w : World} {a : Option Addr} {len : Nat} {f : Nat → Nat} (h : FS w a len f) (n : Nat) : FS (w.drewN n) a len f := h
end Go.Proofs.Ytfciecoigfnnhaa
