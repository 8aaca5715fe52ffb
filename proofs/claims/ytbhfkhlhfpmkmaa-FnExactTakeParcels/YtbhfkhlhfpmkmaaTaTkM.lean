/- What is taken of parcels, as numbers. -/
import Derived.Test.YtbhfkhlhfpmkmaaTaB
import Derived.Test.YtbhfkhlhfpmkmaaLsOwn
namespace Go.Proofs.Ytbhfkhlhfpmkmaa
open Go.RowKit
/-- a list by its numbers -/
def fnL (n : Nat) (f : Nat → Int) : List Int := (List.range n).map f
theorem fnL_len (n : Nat) (f : Nat → Int) : (fnL n f).length = n := by simp [fnL]
theorem fnL_gl {n : Nat} {f : Nat → Int} {i : Nat} (h : i < n) : gl (fnL n f) i = f i := by simp [gl, fnL, h]
def tkS (l : List Int) (a b : Int) : List Int := if a = (l.length : Int) ∧ l.length < 30 then l ++ [b] else l
/-- what there is behind k parcels -/
def tkK (n : Nat) (f g : Nat → Int) : Nat → List Int
  | 0 => fnL n f
  | k + 1 => tkS (tkK n f g k) (g (k * 2)) (g (k * 2 + 1))
def tkV (n : Nat) (f : Nat → Int) (m : Nat) (g : Nat → Int) : List Int := if n ≤ 30 then tkK n f g m else []
theorem tkK_len {n : Nat} (f g : Nat → Int) (h : n ≤ 30) (k : Nat) : (tkK n f g k).length ≤ 30 := by
  induction k with
  | zero => simp [tkK, fnL_len, h]
  | succ k ih =>
    show (tkS _ _ _).length ≤ 30
    unfold tkS
    split
    · simp; omega
    · exact ih
theorem tkV_len (n : Nat) (f : Nat → Int) (m : Nat) (g : Nat → Int) : (tkV n f m g).length ≤ 30 := by
  unfold tkV
  split
  · next h => exact tkK_len f g h m
  · simp
/-- the answer of a function that tells a list and how long it is -/
def AnsTn (w w' : World) (e : Ending) (l : List Int) : Prop := ∃ a' c', e = .returned (.tuple #[.slice a' l.length c', .int .i64 (l.length : Int)]) ∧ LQ w' w.heap.size w'.heap.size a' l.length (gl l)
theorem ansTn_own {w w' : World} {a : Option Addr} {c : Nat} {l : List Int} (h : Own w' w.heap.size (.slice a l.length c) l.length (gl l)) : AnsTn w w' (.returned (.tuple #[.slice a l.length c, .int .i64 (l.length : Int)])) l := ⟨a, c, rfl, h.lq⟩
end Go.Proofs.Ytbhfkhlhfpmkmaa
