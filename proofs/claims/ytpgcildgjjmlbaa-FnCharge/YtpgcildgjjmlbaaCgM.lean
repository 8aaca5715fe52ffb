/- Numbers alone: a robot that works and charges, tick by tick. -/
import Derived.Test.YtpgcildgjjmlbaaFkOw
namespace Go.Proofs.Ytpgcildgjjmlbaa
open Go.RowKit
structure Cg where
  L : Int
  U : Int
  G : Int
  F : Int
/-- one as a value -/
abbrev cgv (c : Cg) : Value := .agg #[.int .i64 c.L, .int .i64 c.U, .int .i64 c.G, .int .i64 c.F]
abbrev cgs (c : Cg) : List Value := [.int .i64 c.L, .int .i64 c.U, .int .i64 c.G, .int .i64 c.F]
abbrev cg0 : Cg := ⟨0, 0, 0, 0⟩
theorem charge_at {w : World} {b : Nat} {c : Cg} (h : Bx w b (cgs c)) : w.cell? ⟨b, 0, none⟩ = some (.int .i64 c.L) ∧ w.cell? ⟨b, 1, none⟩ = some (.int .i64 c.U) ∧ w.cell? ⟨b, 2, none⟩ = some (.int .i64 c.G) ∧ w.cell? ⟨b, 3, none⟩ = some (.int .i64 c.F) :=
  ⟨h.c 0 (show 0 < 4 by omega), h.c 1 (show 1 < 4 by omega), h.c 2 (show 2 < 4 by omega), h.c 3 (show 3 < 4 by omega)⟩
def goodC (c : Cg) : Bool := decide ((1 ≤ c.F ∧ c.F ≤ 10000) ∧ (0 ≤ c.L ∧ c.L ≤ c.F) ∧ (1 ≤ c.U ∧ c.U ≤ c.F) ∧ (1 ≤ c.G ∧ c.G ≤ c.F))
theorem goodC_t {c : Cg} (h : goodC c = true) : (1 ≤ c.F ∧ c.F ≤ 10000) ∧ (0 ≤ c.L ∧ c.L ≤ c.F) ∧ (1 ≤ c.U ∧ c.U ≤ c.F) ∧ (1 ≤ c.G ∧ c.G ≤ c.F) := of_decide_eq_true h
/-- does it work, with this level, where it charged or not at the tick ahead -/
def wkB (c : Cg) (l : Int) (q : Bool) : Bool := decide (c.U ≤ l) && (!q || decide (c.F < l + c.G))
def lvN (c : Cg) (l : Int) (b : Bool) : Int := if b = true then l - c.U else min c.F (l + c.G)
/-- the level, and whether it charged, behind k ticks -/
def chS (c : Cg) : Nat → Int × Bool
  | 0 => (c.L, false)
  | k + 1 => (lvN c (chS c k).1 (wkB c (chS c k).1 (chS c k).2), !wkB c (chS c k).1 (chS c k).2)
def plB (c : Cg) (k : Nat) : Bool := wkB c (chS c k).1 (chS c k).2
theorem chS_l (c : Cg) (k : Nat) : (chS c (k + 1)).1 = lvN c (chS c k).1 (plB c k) := rfl
theorem chS_q (c : Cg) (k : Nat) : (chS c (k + 1)).2 = !plB c k := rfl
theorem chS_in {c : Cg} (h : goodC c = true) (k : Nat) : 0 ≤ (chS c k).1 ∧ (chS c k).1 ≤ c.F := by
  obtain ⟨⟨_, _⟩, ⟨_, _⟩, ⟨_, _⟩, ⟨_, _⟩⟩ := goodC_t h
  induction k with
  | zero => exact ⟨by assumption, by assumption⟩
  | succ k ih =>
    rw [chS_l]
    cases e : plB c k with
    | true =>
      have h1 : c.U ≤ (chS c k).1 := by
        unfold plB wkB at e
        simp at e
        exact e.1
      simp only [lvN, if_true]
      omega
    | false => simp only [lvN]; simp only [Bool.false_eq_true, if_false]; omega
/-- what is told of a robot and of ticks -/
def okC (c : Cg) (t : Int) : Bool := goodC c && decide (0 ≤ t ∧ t ≤ 200)
end Go.Proofs.Ytpgcildgjjmlbaa
