/- A list and whether it is one; the numbers that WayCost and the others tell. -/
import Derived.Test.YtfciecoigfnnhaaQWyCrd
import Derived.Test.YtfciecoigfnnhaaQSzBase
namespace Go.Proofs.Ytfciecoigfnnhaa
open Go.RowKit
/-- the answer of a function that tells a list and whether it is one -/
def AnsW (w w' : World) (e : Ending) (l : List Int) (q : Bool) : Prop := ∃ a' c', e = .returned (.tuple #[.slice a' l.length c', .bool q]) ∧ LQ w' w.heap.size w'.heap.size a' l.length (gl l)
theorem ansW_nil (w w' : World) (q : Bool) : AnsW w w' (.returned (.tuple #[.slice none 0 0, .bool q])) [] q := ⟨none, 0, rfl, lq_none _ _ _ _ _⟩
theorem ansW_own {w w' : World} {base : Nat} {a : Option Addr} {c : Nat} {l : List Int} {q : Bool} (h : Own w' base (.slice a l.length c) l.length (gl l)) (hb : w.heap.size ≤ base) : AnsW w w' (.returned (.tuple #[.slice a l.length c, .bool q])) l q := ⟨a, c, rfl, h.lq.wide hb (Nat.le_refl _)⟩
/-- the cells among the first k that are clear from one -/
def mcK (W : Int) (n : Nat) (f : Nat → Int) (p : Int) : Nat → List Int
  | 0 => []
  | k + 1 => if clrB W n f p (k : Int) then mcK W n f p k ++ [(k : Int)] else mcK W n f p k
theorem mcK_len (W : Int) (n : Nat) (f : Nat → Int) (p : Int) (k : Nat) : (mcK W n f p k).length ≤ k := by
  induction k with
  | zero => simp [mcK]
  | succ k ih =>
    unfold mcK
    split
    · simp; omega
    · omega
/-- what MostClear tells -/
def mostL (W : Int) (n : Nat) (f : Nat → Int) (p : Int) : List Int := if celB W n f && frB n f p then mcK W n f p n else []
theorem mostL_len (W : Int) (n : Nat) (f : Nat → Int) (p : Int) : (mostL W n f p).length ≤ 256 := by
  unfold mostL
  split
  · next h =>
    simp only [Bool.and_eq_true] at h
    have := sized_le (celB_parts h.1).1
    have := mcK_len W n f p n
    omega
  · simp
/-- a step: 1 a straight one, 2 a slant one, 0 none -/
def stepV (W : Int) (n : Nat) (f : Nat → Int) (a b : Int) : Int :=
  if frB n f a && frB n f b then
    (if (b % W - a % W).natAbs + (b / W - a / W).natAbs = 1 then 1
     else if (b % W - a % W).natAbs = 1 ∧ (b / W - a / W).natAbs = 1 ∧ frB n f (a + (b % W - a % W)) = true ∧ frB n f (a + (b / W - a / W) * W) = true then 2 else 0)
  else 0
/-- are the first k pairs of a list steps -/
def wayK (W : Int) (n : Nat) (f g : Nat → Int) : Nat → Bool
  | 0 => true
  | k + 1 => wayK W n f g k && decide (stepV W n f (g k) (g (k + 1)) ≠ 0)
/-- how many of the first k pairs are steps of a kind -/
def kindK (W : Int) (n : Nat) (f g : Nat → Int) (s : Int) : Nat → Int
  | 0 => 0
  | k + 1 => kindK W n f g s k + if stepV W n f (g k) (g (k + 1)) = s then 1 else 0
theorem kindK_le (W : Int) (n : Nat) (f g : Nat → Int) (s : Int) (k : Nat) : 0 ≤ kindK W n f g s k ∧ kindK W n f g s k ≤ k := by
  induction k with
  | zero => simp [kindK]
  | succ k ih => unfold kindK; split <;> omega
/-- is a list a way -/
def wayQ (W : Int) (n : Nat) (f : Nat → Int) (m : Nat) (g : Nat → Int) : Bool := celB W n f && decide (1 ≤ m) && decide (m ≤ 256) && frB n f (g 0) && wayK W n f g (m - 1)
def wayS (W : Int) (n : Nat) (f : Nat → Int) (m : Nat) (g : Nat → Int) (s : Int) : Int := if wayQ W n f m g then kindK W n f g s (m - 1) else 0
/-- are the first k pairs of a list clear -/
def legK (W : Int) (n : Nat) (f g : Nat → Int) : Nat → Bool
  | 0 => true
  | k + 1 => legK W n f g k && clrB W n f (g k) (g (k + 1))
def pullQ (W : Int) (n : Nat) (f : Nat → Int) (m : Nat) (g : Nat → Int) : Bool := celB W n f && decide (1 ≤ m) && decide (m ≤ 256) && frB n f (g 0) && legK W n f g (m - 1)
/-- the last place up to k that is clear from one -/
def lastC (W : Int) (n : Nat) (f g : Nat → Int) (p : Nat) : Nat → Nat
  | 0 => 0
  | k + 1 => if clrB W n f (g p) (g (k + 1)) then k + 1 else lastC W n f g p k
/-- what is taken behind the place p: so many steps at most -/
def pullK (W : Int) (n : Nat) (f g : Nat → Int) (m : Nat) : Nat → Nat → List Int
  | 0, _ => []
  | t + 1, p => if p < m - 1 then g (lastC W n f g p (m - 1)) :: pullK W n f g m t (lastC W n f g p (m - 1)) else []
theorem pullK_len (W : Int) (n : Nat) (f g : Nat → Int) (m t p : Nat) : (pullK W n f g m t p).length ≤ t := by
  induction t generalizing p with
  | zero => simp [pullK]
  | succ t ih =>
    unfold pullK
    split
    · simp; exact ih _
    · simp
/-- what PulledWay tells -/
def pullL (W : Int) (n : Nat) (f : Nat → Int) (m : Nat) (g : Nat → Int) : List Int := if pullQ W n f m g then g 0 :: pullK W n f g m (m - 1) 0 else []
theorem pullL_len (W : Int) (n : Nat) (f : Nat → Int) (m : Nat) (g : Nat → Int) : (pullL W n f m g).length ≤ 256 := by
  unfold pullL
  split
  · next h =>
    simp only [pullQ, Bool.and_eq_true, decide_eq_true_eq] at h
    have := pullK_len W n f g m (m - 1) 0
    simp
    omega
  · simp
end Go.Proofs.Ytfciecoigfnnhaa

/- Which places lie within the sides. -/
namespace Go.Proofs.Ytfciecoigfnnhaa
open Go.RowKit

def hvB (W H x y : Int) : Bool := decide (0 ≤ x) && decide (x < W) && decide (0 ≤ y) && decide (y < H)
theorem hvB_t {W H x y : Int} (h : hvB W H x y = true) : 0 ≤ x ∧ x < W ∧ 0 ≤ y ∧ y < H := by simpa [hvB, and_assoc] using h
theorem hvB_mk {W H x y : Int} (h : 0 ≤ x ∧ x < W ∧ 0 ≤ y ∧ y < H) : hvB W H x y = true := by simpa [hvB, and_assoc] using h
theorem hvB_f {W H x y : Int} (h : ¬ (0 ≤ x ∧ x < W ∧ 0 ≤ y ∧ y < H)) : hvB W H x y = false := by
  cases e : hvB W H x y with
  | false => rfl
  | true => exact absurd (hvB_t e) h
theorem idx_bd {W H x y : Int} {n : Nat} (hH : H * W = (n : Int)) (h : 0 ≤ x ∧ x < W ∧ 0 ≤ y ∧ y < H) : 0 ≤ y * W ∧ y * W + x < (n : Int) := by
  obtain ⟨h1, h2, h3, h4⟩ := h
  have a1 := Int.mul_nonneg h3 (show 0 ≤ W by omega)
  have a2 := Int.mul_le_mul_of_nonneg_right (show y + 1 ≤ H by omega) (show 0 ≤ W by omega)
  rw [Int.add_mul] at a2
  omega
end Go.Proofs.Ytfciecoigfnnhaa
