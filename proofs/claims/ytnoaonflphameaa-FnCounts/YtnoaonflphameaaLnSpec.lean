/- A line of cells, as the model reckons it. -/
import Derived.Test.YtnoaonflphameaaLnBase
namespace Go.Proofs.Ytnoaonflphameaa
open Go.RowKit

def inK (n : Int) : Bool := decide (-1000 ≤ n) && decide (n ≤ 1000)
theorem inK_t {n : Int} (h : inK n = true) : -1000 ≤ n ∧ n ≤ 1000 := by simpa [inK] using h
theorem inK_f {n : Int} (h : ¬ (-1000 ≤ n ∧ n ≤ 1000)) : inK n = false := by
  cases e : inK n with
  | false => rfl
  | true => exact absurd (inK_t e) h
theorem inK_mk {n : Int} (h : -1000 ≤ n ∧ n ≤ 1000) : inK n = true := by simpa [inK] using h
set_option maxHeartbeats 400000 in
theorem l12In_any (n : Int) (w : World) :
    Calls Try.prog 68 #[.int .i64 n] w fun e w' => e = .returned (.bool (inK n)) ∧ w' = w := by
  by_cases h0 : -1000 ≤ n
  · by_cases h1 : n ≤ 1000
    · rw [inK_mk ⟨h0, h1⟩]
      go_enter Try.func68, Try.ntmps68
      go_wp2
      go_ret
      exact ⟨rfl, rfl⟩
    · rw [inK_f (by omega)]
      go_enter Try.func68, Try.ntmps68
      go_wp2
      go_ret
      exact ⟨rfl, rfl⟩
  · rw [inK_f (by omega)]
    go_enter Try.func68, Try.ntmps68
    go_wp2
    go_ret
    exact ⟨rfl, rfl⟩
def ab (n : Int) : Int := if n < 0 then -n else n
def sgn1 (n : Int) : Int := if n < 0 then -1 else 1
theorem ab_sgn (n : Int) : sgn1 n * ab n = n ∧ 0 ≤ ab n ∧ (sgn1 n = 1 ∨ sgn1 n = -1) := by
  unfold sgn1 ab
  split <;> omega
set_option maxHeartbeats 400000 in
theorem l4Abs_any (n : Int) (w : World) (h : -100000 ≤ n ∧ n ≤ 100000) :
    Calls Try.prog 51 #[.int .i64 n] w fun e w' => e = .returned (.int .i64 (ab n)) ∧ w' = w := by
  by_cases hz : n < 0
  · have e : ab n = -n := by simp [ab, hz]
    rw [e]
    go_enter Try.func51, Try.ntmps51
    go_wp2
    go_ret
    exact ⟨rfl, rfl⟩
  · have e : ab n = n := by simp [ab, hz]
    rw [e]
    go_enter Try.func51, Try.ntmps51
    go_wp2
    go_ret
    exact ⟨rfl, rfl⟩
/-- is it a line -/
def lnB (x1 y1 x2 y2 : Int) : Bool := inK x1 && inK y1 && inK x2 && inK y2
/-- how many cells it has -/
def lnN (x1 y1 x2 y2 : Int) : Nat := if lnB x1 y1 x2 y2 then steps (ab (x2 - x1)) (ab (y2 - y1)) + 1 else 0
def lnX (x1 y1 x2 y2 : Int) (k : Nat) : Int := x1 + sgn1 (x2 - x1) * (pt (ab (x2 - x1)) (ab (y2 - y1)) k).1
def lnY (x1 y1 x2 y2 : Int) (k : Nat) : Int := y1 + sgn1 (y2 - y1) * (pt (ab (x2 - x1)) (ab (y2 - y1)) k).2.1
def AnsP (w w' : World) (e : Ending) (n : Nat) (X Y : Nat → Int) : Prop := ∃ a c, e = .returned (.slice a n c) ∧ LP w' w.heap.size w'.heap.size a n X Y
theorem ansP_nil (w w' : World) (X Y : Nat → Int) : AnsP w w' (.returned (.slice none 0 0)) 0 X Y := ⟨none, 0, rfl, lp_none _ _ _ _ _ _⟩
theorem ansP_own {w w' : World} {base : Nat} {a : Option Addr} {k c : Nat} {B : Nat → Nat} {X Y : Nat → Int} (h : OwnP w' base (.slice a k c) k B X Y) (hb : w.heap.size ≤ base) : AnsP w w' (.returned (.slice a k c)) k X Y := ⟨a, c, rfl, h.lp.wide hb (Nat.le_refl _)⟩

def AnsPc (w w' : World) (e : Ending) (n : Nat) (X Y : Nat → Int) : Prop := ∃ a c, e = .returned (.slice a n c) ∧ LP w' w.heap.size w'.heap.size a n X Y ∧ n ≤ c
theorem AnsPc.p {w w' : World} {e : Ending} {n : Nat} {X Y : Nat → Int} (h : AnsPc w w' e n X Y) : AnsP w w' e n X Y := by
  obtain ⟨a, c, h1, h2, -⟩ := h
  exact ⟨a, c, h1, h2⟩
theorem ansPc_own {w w' : World} {base : Nat} {a : Option Addr} {k c : Nat} {B : Nat → Nat} {X Y : Nat → Int} (h : OwnP w' base (.slice a k c) k B X Y) (hb : w.heap.size ≤ base) : AnsPc w w' (.returned (.slice a k c)) k X Y := by
  refine ⟨a, c, rfl, h.lp.wide hb (Nat.le_refl _), ?_⟩
  obtain ⟨_, ⟨e, rfl⟩ | ⟨g, cap, cur, e, h2, h3, h4, _⟩⟩ := h.row
  · exact Nat.zero_le _
  · cases e
    exact h4
/-- what a round of the line's loop stands on: the state behind k steps -/
structure Rnd (x1 y1 x2 y2 ax ay sx sy : Int) (n k : Nat) (x y e : Int) : Prop where
  ex : x = lnX x1 y1 x2 y2 k
  ey : y = lnY x1 y1 x2 y2 k
  bx : -5000 ≤ x ∧ x ≤ 5000
  byy : -5000 ≤ y ∧ y ≤ 5000
  be : -6000 ≤ e ∧ e ≤ 6000
  fin : k = n → x = x2 ∧ y = y2
  more : k < n → ¬ (x = x2 ∧ y = y2)
  next : k < n → lnX x1 y1 x2 y2 (k + 1) = (if -ay < 2 * e then x + sx else x) ∧ lnY x1 y1 x2 y2 (k + 1) = (if 2 * e < ax then y + sy else y) ∧ (pt ax ay (k + 1)).2.2 = e + (if -ay < 2 * e then -ay else 0) + (if 2 * e < ax then ax else 0)
theorem rnd_at {x1 y1 x2 y2 : Int} (h : lnB x1 y1 x2 y2 = true) (k : Nat) (hk : k ≤ steps (ab (x2 - x1)) (ab (y2 - y1))) :
    Rnd x1 y1 x2 y2 (ab (x2 - x1)) (ab (y2 - y1)) (sgn1 (x2 - x1)) (sgn1 (y2 - y1)) (steps (ab (x2 - x1)) (ab (y2 - y1))) k (lnX x1 y1 x2 y2 k) (lnY x1 y1 x2 y2 k) (pt (ab (x2 - x1)) (ab (y2 - y1)) k).2.2 := by
  simp only [lnB, Bool.and_eq_true] at h
  obtain ⟨⟨⟨h1, h2⟩, h3⟩, h4⟩ := h
  have b1 := inK_t h1
  have b2 := inK_t h2
  have b3 := inK_t h3
  have b4 := inK_t h4
  obtain ⟨p1, p2, p3⟩ := ab_sgn (x2 - x1)
  obtain ⟨q1, q2, q3⟩ := ab_sgn (y2 - y1)
  have p4 : ab (x2 - x1) ≤ 2000 := by unfold ab; split <;> omega
  have q4 : ab (y2 - y1) ≤ 2000 := by unfold ab; split <;> omega
  have hn : ((steps (ab (x2 - x1)) (ab (y2 - y1)) : Nat) : Int) = max (ab (x2 - x1)) (ab (y2 - y1)) := by unfold steps; omega
  have I := inv_at p2 q2 p4 q4 k (by omega)
  have hend := steps_end p2 q2 p4 q4
  have hnot := fun hk => steps_not (k := k) p2 q2 p4 q4 hk
  have hstep : pt (ab (x2 - x1)) (ab (y2 - y1)) (k + 1) = stp (ab (x2 - x1)) (ab (y2 - y1)) (pt (ab (x2 - x1)) (ab (y2 - y1)) k) := rfl
  have hX : ∀ j, lnX x1 y1 x2 y2 j = x1 + sgn1 (x2 - x1) * (pt (ab (x2 - x1)) (ab (y2 - y1)) j).1 := fun _ => rfl
  have hY : ∀ j, lnY x1 y1 x2 y2 j = y1 + sgn1 (y2 - y1) * (pt (ab (x2 - x1)) (ab (y2 - y1)) j).2.1 := fun _ => rfl
  generalize ab (x2 - x1) = ax at *
  generalize ab (y2 - y1) = ay at *
  generalize sgn1 (x2 - x1) = sx at *
  generalize sgn1 (y2 - y1) = sy at *
  obtain ⟨a1, a2, a3, a4, a5, -, -, -⟩ := I
  refine ⟨rfl, rfl, ?_, ?_, a5, fun e => ?_, fun e => ?_, fun e => ?_⟩
  · rw [hX]
    clear hX hY hstep hend hnot
    generalize (pt ax ay k).1 = i at *
    rcases p3 with rfl | rfl <;> omega
  · rw [hY]
    clear hX hY hstep hend hnot
    generalize (pt ax ay k).2.1 = j at *
    rcases q3 with rfl | rfl <;> omega
  · subst e
    rw [hX, hY, hend.1, hend.2]
    omega
  · intro ⟨e1, e2⟩
    rw [hX] at e1
    rw [hY] at e2
    refine hnot e ⟨?_, ?_⟩
    · clear hX hY hstep hend hnot
      generalize (pt ax ay k).1 = i at *
      rcases p3 with rfl | rfl <;> omega
    · clear hX hY hstep hend hnot
      generalize (pt ax ay k).2.1 = j at *
      rcases q3 with rfl | rfl <;> omega
  · rw [hX, hY, hX, hY, hstep]
    unfold stp
    simp only
    refine ⟨?_, ?_, trivial⟩
    · split
      · rw [Int.mul_add]; omega
      · rfl
    · split
      · rw [Int.mul_add]; omega
      · rfl
end Go.Proofs.Ytnoaonflphameaa
