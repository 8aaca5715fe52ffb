/- Numbers alone: gears, their bound, and what a mode comes to. -/
import Derived.Test.YtoleblhidieheaaLqBase
namespace Go.Proofs.Ytoleblhidieheaa
open Go.RowKit

structure Gr where
  D : Int
  W : Int
  B : Int
  R : Int
  M : Int
/-- a gear as a value -/
abbrev grv (g : Gr) : Value := .agg #[.int .i64 g.D, .int .i64 g.W, .int .i64 g.B, .int .i64 g.R, .int .i64 g.M]
abbrev grs (g : Gr) : List Value := [.int .i64 g.D, .int .i64 g.W, .int .i64 g.B, .int .i64 g.R, .int .i64 g.M]
abbrev gr0 : Gr := ⟨0, 0, 0, 0, 0⟩
def tqB (n : Int) : Bool := decide (1 ≤ n ∧ n ≤ 1000)
theorem tqB_t {n : Int} (h : tqB n = true) : 1 ≤ n ∧ n ≤ 1000 := of_decide_eq_true h
theorem tqB_f {n : Int} (h : tqB n = false) : ¬ (1 ≤ n ∧ n ≤ 1000) := of_decide_eq_false h
def goodG (g : Gr) : Bool := decide ((0 ≤ g.D ∧ g.D ≤ 10) ∧ (1 ≤ g.B ∧ g.B ≤ 10) ∧ (g.B ≤ g.W ∧ g.W ≤ 30) ∧ (1 ≤ g.R ∧ g.R ≤ 1000) ∧ (1 ≤ g.M ∧ g.M ≤ 1000))
theorem goodG_t {g : Gr} (h : goodG g = true) : (0 ≤ g.D ∧ g.D ≤ 10) ∧ (1 ≤ g.B ∧ g.B ≤ 10) ∧ (g.B ≤ g.W ∧ g.W ≤ 30) ∧ (1 ≤ g.R ∧ g.R ≤ 1000) ∧ (1 ≤ g.M ∧ g.M ≤ 1000) := of_decide_eq_true h
def bndG (g : Gr) : Int := if goodG g = true then g.D + (g.M + g.R - 1) / g.R else 0
theorem gear_at {w : World} {b : Nat} {g : Gr} (h : Bx w b (grs g)) : w.cell? ⟨b, 0, none⟩ = some (.int .i64 g.D) ∧ w.cell? ⟨b, 1, none⟩ = some (.int .i64 g.W) ∧ w.cell? ⟨b, 2, none⟩ = some (.int .i64 g.B) ∧ w.cell? ⟨b, 3, none⟩ = some (.int .i64 g.R) ∧ w.cell? ⟨b, 4, none⟩ = some (.int .i64 g.M) :=
  ⟨h.c 0 (show 0 < 5 by omega), h.c 1 (show 1 < 5 by omega), h.c 2 (show 2 < 5 by omega), h.c 3 (show 3 < 5 by omega), h.c 4 (show 4 < 5 by omega)⟩
/-- the kinds of events, as bytes -/
def msV (m : Int) (s : ByteArray) : Int :=
  if ¬ (0 ≤ m ∧ m ≤ 4) then -1
  else if s.toList = [111, 102, 102] then 0
  else if s.toList = [111, 110] then (if m = 0 then 1 else m)
  else if s.toList = [103, 111] then (if m = 1 then 2 else m)
  else if s.toList = [104, 117, 114, 116] then (if m = 2 then 3 else m)
  else if s.toList = [104, 101, 97, 108] then (if m = 3 then 2 else m)
  else if s.toList = [115, 116, 111, 112] then (if m = 0 then m else 4)
  else if s.toList = [114, 101, 115, 101, 116] then (if m = 4 then 1 else m)
  else m
end Go.Proofs.Ytoleblhidieheaa
