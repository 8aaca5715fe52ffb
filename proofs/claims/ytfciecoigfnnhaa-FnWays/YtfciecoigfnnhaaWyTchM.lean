/- Which cells a line meets, as the program reckons it: by how far they lie across it. -/
import Derived.Test.YtfciecoigfnnhaaWyCrd
import Derived.Test.YtfciecoigfnnhaaSzHv
namespace Go.Proofs.Ytfciecoigfnnhaa
open Go.RowKit

def szA (n : Int) : Int := (n.natAbs : Int)
/-- does the line from x, y on, by u and v, touch a cell -/
def tchB (x y u v cx cy : Int) : Bool := decide (2 * szA (u * (cy - y) - v * (cx - x)) ≤ szA u + szA v)
/-- does a cell lie between the two ends -/
def boxC (x y u v cx cy : Int) : Bool := decide (min x (x + u) ≤ cx) && decide (cx ≤ max x (x + u)) && decide (min y (y + v) ≤ cy) && decide (cy ≤ max y (y + v))
theorem out_box (x y u v cx cy : Int) : outB (2 * x) (2 * y) (2 * (x + u)) (2 * (y + v)) cx cy = !boxC x y u v cx cy := by
  cases e : boxC x y u v cx cy with
  | true =>
    simp only [boxC, Bool.and_eq_true, decide_eq_true_eq] at e
    simp only [outB, Bool.not_true]
    simp only [Bool.or_eq_false_iff, Bool.and_eq_false_iff, decide_eq_false_iff_not]
    omega
  | false =>
    simp only [boxC, Bool.and_eq_false_iff, decide_eq_false_iff_not] at e
    simp only [outB, Bool.not_false]
    simp only [Bool.or_eq_true, Bool.and_eq_true, decide_eq_true_eq]
    omega
theorem cr_at (x y u v cx cy : Int) : crV (2 * x) (2 * y) (2 * (x + u)) (2 * (y + v)) cx cy 0 = 4 * (u * (cy - y) - v * (cx - x)) - 2 * u + 2 * v
    ∧ crV (2 * x) (2 * y) (2 * (x + u)) (2 * (y + v)) cx cy 1 = 4 * (u * (cy - y) - v * (cx - x)) + 2 * u + 2 * v
    ∧ crV (2 * x) (2 * y) (2 * (x + u)) (2 * (y + v)) cx cy 2 = 4 * (u * (cy - y) - v * (cx - x)) - 2 * u - 2 * v
    ∧ crV (2 * x) (2 * y) (2 * (x + u)) (2 * (y + v)) cx cy 3 = 4 * (u * (cy - y) - v * (cx - x)) + 2 * u - 2 * v := by
  have e0 : sdV cy (0 % 2) = 2 * cy - 1 := rfl
  have e1 : sdV cy (1 % 2) = 2 * cy + 1 := rfl
  have f0 : sdV cx (0 / 2) = 2 * cx - 1 := rfl
  have f2 : sdV cx (2 / 2) = 2 * cx + 1 := rfl
  unfold crV
  simp only [e0, e1, f0, f2]
  refine ⟨?_, ?_, ?_, ?_⟩ <;> grind
theorem met_tch (x y u v cx cy : Int) : metB (2 * x) (2 * y) (2 * (x + u)) (2 * (y + v)) cx cy = (boxC x y u v cx cy && tchB x y u v cx cy) := by
  obtain ⟨c0, c1, c2, c3⟩ := cr_at x y u v cx cy
  unfold metB
  rw [out_box, Bool.not_not, Bool.and_assoc]
  congr 1
  unfold tchB szA cPos cNeg cPos cNeg cPos cNeg cPos cNeg cPos cNeg
  rw [c0, c1, c2, c3]
  generalize u * (cy - y) - v * (cx - x) = s
  rw [Bool.eq_iff_iff]
  simp only [Bool.and_eq_true, decide_eq_true_eq]
  repeat' split
  all_goals omega
/-- a cell is free, or the line does not touch it -/
def okC (W H : Int) (f : Nat → Int) (x y u v cx cy : Int) : Bool := decide (hvB W H cx cy = true ∧ f (cy * W + cx).toNat = 0) || !tchB x y u v cx cy
theorem clK_free {W : Int} {f : Nat → Int} {a b : Int} {k : Nat} (h : ∀ i, i < k → f i = 0 ∨ metB (2 * (a % W)) (2 * (a / W)) (2 * (b % W)) (2 * (b / W)) ((i : Int) % W) ((i : Int) / W) = false) : clK W f a b k = true := by
  induction k with
  | zero => rfl
  | succ k ih =>
    unfold clK
    rw [ih (fun i hi => h i (by omega)), Bool.true_and]
    rcases h k (by omega) with e | e
    · simp [e]
    · simp [e]
/-- where all cells between the ends are free or not touched the way is clear -/
theorem clK_box {W H : Int} {n : Nat} {f : Nat → Int} {a b : Int}
    (h : ∀ cx cy, boxC (a % W) (a / W) (b % W - a % W) (b / W - a / W) cx cy = true → okC W H f (a % W) (a / W) (b % W - a % W) (b / W - a / W) cx cy = true) : clK W f a b n = true := by
  refine clK_free fun i hi => ?_
  have hk := h ((i : Int) % W) ((i : Int) / W)
  have e1 : b % W = a % W + (b % W - a % W) := by omega
  have e2 : b / W = a / W + (b / W - a / W) := by omega
  have hmt := met_tch (a % W) (a / W) (b % W - a % W) (b / W - a / W) ((i : Int) % W) ((i : Int) / W)
  rw [← e1, ← e2] at hmt
  rw [hmt]
  cases eb : boxC (a % W) (a / W) (b % W - a % W) (b / W - a / W) ((i : Int) % W) ((i : Int) / W) with
  | false => exact .inr rfl
  | true =>
    have := hk eb
    simp only [okC, Bool.or_eq_true, decide_eq_true_eq, Bool.not_eq_true'] at this
    rcases this with h1 | h1
    · refine .inl ?_
      have e : (i : Int) / W * W + (i : Int) % W = (i : Int) := by rw [Int.mul_comm]; exact Int.mul_ediv_add_emod (i : Int) W
      have h2 := h1.2
      rw [e] at h2
      exact h2
    · exact .inr (by rw [h1]; rfl)
/-- a cell between the ends that is not free and touched -/
theorem clK_hit {W H : Int} {n : Nat} {f : Nat → Int} {a b cx cy : Int} (hH : H * W = (n : Int)) (hin : 0 ≤ cx ∧ cx < W ∧ 0 ≤ cy ∧ cy < H) (hb : boxC (a % W) (a / W) (b % W - a % W) (b / W - a / W) cx cy = true)
    (h0 : ¬ f (cy * W + cx).toNat = 0) (ht : tchB (a % W) (a / W) (b % W - a % W) (b / W - a / W) cx cy = true) : clK W f a b n = false := by
  have hi := idx_bd hH hin
  obtain ⟨k, hk⟩ := Int.eq_ofNat_of_zero_le (show 0 ≤ cy * W + cx by omega)
  rw [hk] at h0
  have hkn : k < n := by omega
  refine clK_not hkn (by simpa using h0) ?_
  have ex : (k : Int) % W = cx := by rw [← hk, Int.add_comm, Int.mul_comm, Int.add_mul_emod_self_left]; exact Int.emod_eq_of_lt hin.1 hin.2.1
  have ey : (k : Int) / W = cy := by rw [← hk, Int.add_comm, Int.mul_comm, Int.add_mul_ediv_left _ _ (by omega)]; rw [Int.ediv_eq_zero_of_lt hin.1 hin.2.1]; omega
  rw [ex, ey]
  have e1 : b % W = a % W + (b % W - a % W) := by omega
  have e2 : b / W = a / W + (b / W - a / W) := by omega
  have := met_tch (a % W) (a / W) (b % W - a % W) (b / W - a / W) cx cy
  rw [← e1, ← e2] at this
  rw [this, hb, ht]
  rfl
end Go.Proofs.Ytfciecoigfnnhaa
