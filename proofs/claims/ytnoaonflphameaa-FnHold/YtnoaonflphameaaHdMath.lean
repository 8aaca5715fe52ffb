/- Numbers alone: loops, holds, and what a step of a hold comes to. -/
import Derived.Test.YtnoaonflphameaaInCore
namespace Go.Proofs.Ytnoaonflphameaa
open Go.RowKit

structure Lp where
  P : Int
  I : Int
  D : Int
  S : Int
  M : Int
  W : Int
  L : Int
structure Hd where
  on : Bool
  sum : Int
  last : Int
  out : Int
/-- a loop, a hold as a value -/
abbrev lv (l : Lp) : Value := .agg #[.int .i64 l.P, .int .i64 l.I, .int .i64 l.D, .int .i64 l.S, .int .i64 l.M, .int .i64 l.W, .int .i64 l.L]
abbrev hv (h : Hd) : Value := .agg #[.bool h.on, .int .i64 h.sum, .int .i64 h.last, .int .i64 h.out]
abbrev lvs (l : Lp) : List Value := [.int .i64 l.P, .int .i64 l.I, .int .i64 l.D, .int .i64 l.S, .int .i64 l.M, .int .i64 l.W, .int .i64 l.L]
abbrev hvs (h : Hd) : List Value := [.bool h.on, .int .i64 h.sum, .int .i64 h.last, .int .i64 h.out]
abbrev hd0 : Hd := ⟨false, 0, 0, 0⟩
abbrev lp0 : Lp := ⟨0, 0, 0, 0, 0, 0, 0⟩

/-- n is in 0..m; n is in -m..m -/
def upB (n m : Int) : Bool := decide (0 ≤ n ∧ n ≤ m)
def inB (n m : Int) : Bool := decide (-m ≤ n ∧ n ≤ m)
def goodL (l : Lp) : Bool := decide ((0 ≤ l.P ∧ l.P ≤ 1000) ∧ (0 ≤ l.I ∧ l.I ≤ 1000) ∧ (0 ≤ l.D ∧ l.D ≤ 1000) ∧ (1 ≤ l.S ∧ l.S ≤ 1000) ∧ (1 ≤ l.M ∧ l.M ≤ 1000000) ∧ (0 ≤ l.W ∧ l.W ≤ 1000000) ∧ (0 ≤ l.L ∧ l.L ≤ 1000000))
def goodH (l : Lp) (h : Hd) : Bool := goodL l && decide ((-l.W ≤ h.sum ∧ h.sum ≤ l.W) ∧ (-l.M ≤ h.out ∧ h.out ≤ l.M) ∧ (-2000000 ≤ h.last ∧ h.last ≤ 2000000)) && (h.on || decide (h.sum = 0 ∧ h.out = 0 ∧ h.last = 0))
/-- n, cut -/
def cutI (n lo hi : Int) : Int := if n < lo then lo else if hi < n then hi else n
/-- a quotient, down -/
def dnI (a b : Int) : Int := if Int.tmod a b < 0 then wrap64 (wrap64 (Int.tdiv a b) - 1) else wrap64 (Int.tdiv a b)
def chgI (h : Hd) (e : Int) : Int := if h.on then e - h.last else 0
def sumI (l : Lp) (h : Hd) (e : Int) : Int := cutI (h.sum + e) (-l.W) l.W
def shrI (l : Lp) (h : Hd) (e : Int) : Int := wrap64 (wrap64 (wrap64 (l.P * e) + wrap64 (l.I * sumI l h e)) + wrap64 (l.D * chgI h e))
def rawI (l : Lp) (h : Hd) (e : Int) : Int := dnI (shrI l h e) l.S
def staysB (l : Lp) (r e : Int) : Bool := (decide (l.M < r) && decide (0 < e)) || (decide (r < -l.M) && decide (e < 0))
def slewB (l : Lp) (h : Hd) : Bool := h.on && decide (0 < l.L)
def nextH (l : Lp) (h : Hd) (e : Int) : Hd :=
  ⟨true, if staysB l (rawI l h e) e then h.sum else sumI l h e, e, if slewB l h then cutI (cutI (rawI l h e) (-l.M) l.M) (h.out - l.L) (h.out + l.L) else cutI (rawI l h e) (-l.M) l.M⟩
def okS (l : Lp) (h : Hd) (want seen : Int) : Bool := goodH l h && inB want 1000000 && inB seen 1000000
def stepH (l : Lp) (h : Hd) (want seen : Int) : Hd := if okS l h want seen then nextH l h (want - seen) else hd0

theorem goodL_p {l : Lp} (h : goodL l = true) : (0 ≤ l.P ∧ l.P ≤ 1000) ∧ (0 ≤ l.I ∧ l.I ≤ 1000) ∧ (0 ≤ l.D ∧ l.D ≤ 1000) ∧ (1 ≤ l.S ∧ l.S ≤ 1000) ∧ (1 ≤ l.M ∧ l.M ≤ 1000000) ∧ (0 ≤ l.W ∧ l.W ≤ 1000000) ∧ (0 ≤ l.L ∧ l.L ≤ 1000000) := of_decide_eq_true h
theorem goodH_p {l : Lp} {h : Hd} (g : goodH l h = true) : goodL l = true ∧ ((-l.W ≤ h.sum ∧ h.sum ≤ l.W) ∧ (-l.M ≤ h.out ∧ h.out ≤ l.M) ∧ (-2000000 ≤ h.last ∧ h.last ≤ 2000000)) ∧ (h.on = false → h.sum = 0 ∧ h.out = 0 ∧ h.last = 0) := by
  unfold goodH at g
  simp only [Bool.and_eq_true, Bool.or_eq_true, decide_eq_true_eq] at g
  refine ⟨g.1.1, g.1.2, fun ho => ?_⟩
  rcases g.2 with h1 | h1
  · rw [ho] at h1; cases h1
  · exact h1
theorem okS_p {l : Lp} {h : Hd} {want seen : Int} (g : okS l h want seen = true) : goodH l h = true ∧ (-1000000 ≤ want ∧ want ≤ 1000000) ∧ (-1000000 ≤ seen ∧ seen ≤ 1000000) := by
  unfold okS inB at g
  simp only [Bool.and_eq_true, decide_eq_true_eq] at g
  exact ⟨g.1.1, g.1.2, g.2⟩
theorem cut_in {n lo hi : Int} (h : lo ≤ hi) : lo ≤ cutI n lo hi ∧ cutI n lo hi ≤ hi := by unfold cutI; split <;> (try split) <;> omega
theorem good_next {l : Lp} {h : Hd} {want seen : Int} (g : okS l h want seen = true) : goodH l (nextH l h (want - seen)) = true := by
  obtain ⟨g1, g2, g3⟩ := okS_p g
  obtain ⟨g4, g5, g6⟩ := goodH_p g1
  obtain ⟨hP, hI, hD, hS, hM, hW, hL⟩ := goodL_p g4
  unfold goodH nextH
  simp only [Bool.and_eq_true, Bool.true_or, decide_eq_true_eq, and_true]
  have c1 := cut_in (n := rawI l h (want - seen)) (lo := -l.M) (hi := l.M) (by omega)
  have c2 := cut_in (n := h.sum + (want - seen)) (lo := -l.W) (hi := l.W) (by omega)
  generalize rawI l h (want - seen) = r at c1 ⊢
  unfold sumI
  generalize cutI (h.sum + (want - seen)) (-l.W) l.W = s at c2 ⊢
  generalize cutI r (-l.M) l.M = o at c1 ⊢
  refine ⟨g4, ?_, ?_, by omega⟩
  · split <;> omega
  · unfold cutI
    split <;> (try split) <;> (try split) <;> omega
theorem good_step {l : Lp} {h : Hd} {want seen : Int} (g : okS l h want seen = true) : goodH l (stepH l h want seen) = true := by
  unfold stepH; rw [if_pos g]; exact good_next g
end Go.Proofs.Ytnoaonflphameaa
