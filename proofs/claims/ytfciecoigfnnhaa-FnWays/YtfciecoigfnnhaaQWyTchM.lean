/- CmpCost, as the program says it. -/
import Derived.Test.YtfciecoigfnnhaaQWyTlC
import Derived.Deep.Cut
import Derived.Test.YtfciecoigfnnhaaQSzHv
namespace Go.Proofs.Ytfciecoigfnnhaa
open Go.RowKit


set_option maxHeartbeats 1000000 in
theorem iCmpCost (a b c d : Int) (w : World) :
    Calls Try.prog 14 #[.int .i64 a, .int .i64 b, .int .i64 c, .int .i64 d] w fun e w' => e = .returned (.tuple #[.int .i64 (cstV a b c d), .bool (cstB a b c d)]) ∧ Below w.heap.size w w' := by
  have hb0 : Below w.heap.size w ((w.alloc (.cells #[.int .i64 a, .int .i64 b] 88)).alloc (.cells #[.int .i64 c, .int .i64 d] 88)) := ((Below.refl _ _).alloc (Nat.le_refl _) _).alloc (by simp) _
  have bA := (bx_new (w := w) [.int .i64 a, .int .i64 b] 88 rfl).alloc (.cells #[.int .i64 c, .int .i64 d] 88)
  have bB := bx_new (w := w.alloc (.cells #[.int .i64 a, .int .i64 b] 88)) (b := w.heap.size + 1) [.int .i64 c, .int .i64 d] 88 (by simp)
  have k1 := tgood_any a b
  have k2 := tgood_any c d
  go_enter Try.func14, Try.ntmps14
  go_upto_region 2 with fail
  generalize (w.alloc (.cells #[.int .i64 a, .int .i64 b] 88)).alloc (.cells #[.int .i64 c, .int .i64 d] 88) = w0 at hb0 bA bB ⊢
  have x0 := bA.c0
  have x1 := bA.c1
  cases e0 : (stB a && stB b) with
  | false =>
    have e : cstB a b c d = false := by simp [cstB, e0]
    have e' : cstV a b c d = 0 := by simp [cstV, e]
    rw [e0] at k1
    go_wp2_with fail
    refine (k1 _).mono ?_
    rintro e9 w1 ⟨rfl, hb1⟩
    have hB1 := stepA hb0 hb1
    go_wp2
    go_ret2
    rw [e, e']
    exact ⟨rfl, hB1⟩
  | true =>
    rw [e0] at k1
    have g0 : stB a = true ∧ stB b = true := by simpa using e0
    cases e1 : (stB c && stB d) with
    | false =>
      have e : cstB a b c d = false := by unfold cstB; rw [Bool.and_assoc, e0, e1]; rfl
      have e' : cstV a b c d = 0 := by simp [cstV, e]
      rw [e1] at k2
      go_wp2_with fail
      refine (k1 _).mono ?_
      rintro e9 w1 ⟨rfl, hb1⟩
      have hB1 := stepA hb0 hb1
      have y0 := (bB.on hb1).c0
      have y1 := (bB.on hb1).c1
      clear x0 x1
      go_wp2_with fail
      refine (k2 _).mono ?_
      rintro e9 w2 ⟨rfl, hb2⟩
      have hB2 := stepA hB1 hb2
      go_wp2
      go_ret2
      rw [e, e']
      exact ⟨rfl, hB2⟩
    | true =>
      have g1 : stB c = true ∧ stB d = true := by simpa using e1
      have e : cstB a b c d = true := by unfold cstB; rw [Bool.and_assoc, e0, e1]; rfl
      have e' : cstV a b c d = cmpV (a - c) (b - d) := by simp [cstV, e]
      have k3 := fun w => tcmp_any a b c d w (stB_t g0.1) (stB_t g0.2) (stB_t g1.1) (stB_t g1.2)
      rw [e1] at k2
      generalize hv : cmpV (a - c) (b - d) = v at k3
      rw [hv] at e'
      go_wp2_with fail
      refine (k1 _).mono ?_
      rintro e9 w1 ⟨rfl, hb1⟩
      have hB1 := stepA hb0 hb1
      have y0 := (bB.on hb1).c0
      have y1 := (bB.on hb1).c1
      clear x0 x1
      go_wp2_with fail
      refine (k2 _).mono ?_
      rintro e9 w2 ⟨rfl, hb2⟩
      have hB2 := stepA hB1 hb2
      have z0 := ((bB.on hb1).on hb2).c0
      have z1 := ((bB.on hb1).on hb2).c1
      have x0 := ((bA.on hb1).on hb2).c0
      have x1 := ((bA.on hb1).on hb2).c1
      clear y0 y1
      go_wp2_with fail
      refine (k3 _).mono ?_
      rintro e9 w3 ⟨rfl, hb3⟩
      have hB3 := stepA hB2 hb3
      go_wp2
      go_ret2
      rw [e, e']
      exact ⟨rfl, hB3⟩
end Go.Proofs.Ytfciecoigfnnhaa

/- Which cells a line meets, as the program reckons it: by how far they lie across it. -/
namespace Go.Proofs.Ytfciecoigfnnhaa
open Go.RowKit

def szA (n : Int) : Int := (n.natAbs : Int)
/-- does the line from x, y on, by u and v, touch a cell -/
def tchB (x y u v cx cy : Int) : Bool := decide (2 * szA (u * (cy - y) - v * (cx - x)) ≤ szA u + szA v)
/-- does a cell lie between the two ends -/
def boxC (x y u v cx cy : Int) : Bool := decide (min x (x + u) ≤ cx) && decide (cx ≤ max x (x + u)) && decide (min y (y + v) ≤ cy) && decide (cy ≤ max y (y + v))
theorem out_box (x y u v cx cy : Int) : outB (2 * x) (2 * y) (2 * (x + u)) (2 * (y + v)) cx cy = !boxC x y u v cx cy := by
  cases e : boxC x y u v cx cy with
  | true =>
    simp only [boxC, Bool.and_eq_true, decide_eq_true_eq] at e
    simp only [outB, Bool.not_true]
    simp only [Bool.or_eq_false_iff, Bool.and_eq_false_iff, decide_eq_false_iff_not]
    omega
  | false =>
    simp only [boxC, Bool.and_eq_false_iff, decide_eq_false_iff_not] at e
    simp only [outB, Bool.not_false]
    simp only [Bool.or_eq_true, Bool.and_eq_true, decide_eq_true_eq]
    omega
theorem cr_at (x y u v cx cy : Int) : crV (2 * x) (2 * y) (2 * (x + u)) (2 * (y + v)) cx cy 0 = 4 * (u * (cy - y) - v * (cx - x)) - 2 * u + 2 * v
    ∧ crV (2 * x) (2 * y) (2 * (x + u)) (2 * (y + v)) cx cy 1 = 4 * (u * (cy - y) - v * (cx - x)) + 2 * u + 2 * v
    ∧ crV (2 * x) (2 * y) (2 * (x + u)) (2 * (y + v)) cx cy 2 = 4 * (u * (cy - y) - v * (cx - x)) - 2 * u - 2 * v
    ∧ crV (2 * x) (2 * y) (2 * (x + u)) (2 * (y + v)) cx cy 3 = 4 * (u * (cy - y) - v * (cx - x)) + 2 * u - 2 * v := by
  have e0 : sdV cy (0 % 2) = 2 * cy - 1 := rfl
  have e1 : sdV cy (1 % 2) = 2 * cy + 1 := rfl
  have f0 : sdV cx (0 / 2) = 2 * cx - 1 := rfl
  have f2 : sdV cx (2 / 2) = 2 * cx + 1 := rfl
  unfold crV
  simp only [e0, e1, f0, f2]
  refine ⟨?_, ?_, ?_, ?_⟩ <;> grind
theorem met_tch (x y u v cx cy : Int) : metB (2 * x) (2 * y) (2 * (x + u)) (2 * (y + v)) cx cy = (boxC x y u v cx cy && tchB x y u v cx cy) := by
  obtain ⟨c0, c1, c2, c3⟩ := cr_at x y u v cx cy
  unfold metB
  rw [out_box, Bool.not_not, Bool.and_assoc]
  congr 1
  unfold tchB szA cPos cNeg cPos cNeg cPos cNeg cPos cNeg cPos cNeg
  rw [c0, c1, c2, c3]
  generalize u * (cy - y) - v * (cx - x) = s
  rw [Bool.eq_iff_iff]
  simp only [Bool.and_eq_true, decide_eq_true_eq]
  repeat' split
  all_goals omega
/-- a cell is free, or the line does not touch it -/
def okC (W H : Int) (f : Nat → Int) (x y u v cx cy : Int) : Bool := decide (hvB W H cx cy = true ∧ f (cy * W + cx).toNat = 0) || !tchB x y u v cx cy
theorem clK_free {W : Int} {f : Nat → Int} {a b : Int} {k : Nat} (h : ∀ i, i < k → f i = 0 ∨ metB (2 * (a % W)) (2 * (a / W)) (2 * (b % W)) (2 * (b / W)) ((i : Int) % W) ((i : Int) / W) = false) : clK W f a b k = true := by
  induction k with
  | zero => rfl
  | succ k ih =>
    unfold clK
    rw [ih (fun i hi => h i (by omega)), Bool.true_and]
    rcases h k (by omega) with e | e
    · simp [e]
    · simp [e]
/-- where all cells between the ends are free or not touched the way is clear -/
theorem clK_box {W H : Int} {n : Nat} {f : Nat → Int} {a b : Int}
    (h : ∀ cx cy, boxC (a % W) (a / W) (b % W - a % W) (b / W - a / W) cx cy = true → okC W H f (a % W) (a / W) (b % W - a % W) (b / W - a / W) cx cy = true) : clK W f a b n = true := by
  refine clK_free fun i hi => ?_
  have hk := h ((i : Int) % W) ((i : Int) / W)
  have e1 : b % W = a % W + (b % W - a % W) := by omega
  have e2 : b / W = a / W + (b / W - a / W) := by omega
  have hmt := met_tch (a % W) (a / W) (b % W - a % W) (b / W - a / W) ((i : Int) % W) ((i : Int) / W)
  rw [← e1, ← e2] at hmt
  rw [hmt]
  cases eb : boxC (a % W) (a / W) (b % W - a % W) (b / W - a / W) ((i : Int) % W) ((i : Int) / W) with
  | false => exact .inr rfl
  | true =>
    have := hk eb
    simp only [okC, Bool.or_eq_true, decide_eq_true_eq, Bool.not_eq_true'] at this
    rcases this with h1 | h1
    · refine .inl ?_
      have e : (i : Int) / W * W + (i : Int) % W = (i : Int) := by rw [Int.mul_comm]; exact Int.mul_ediv_add_emod (i : Int) W
      have h2 := h1.2
      rw [e] at h2
      exact h2
    · exact .inr (by rw [h1]; rfl)
/-- a cell between the ends that is not free and touched -/
theorem clK_hit {W H : Int} {n : Nat} {f : Nat → Int} {a b cx cy : Int} (hH : H * W = (n : Int)) (hin : 0 ≤ cx ∧ cx < W ∧ 0 ≤ cy ∧ cy < H) (hb : boxC (a % W) (a / W) (b % W - a % W) (b / W - a / W) cx cy = true)
    (h0 : ¬ f (cy * W + cx).toNat = 0) (ht : tchB (a % W) (a / W) (b % W - a % W) (b / W - a / W) cx cy = true) : clK W f a b n = false := by
  have hi := idx_bd hH hin
  obtain ⟨k, hk⟩ := Int.eq_ofNat_of_zero_le (show 0 ≤ cy * W + cx by omega)
  rw [hk] at h0
  have hkn : k < n := by omega
  refine clK_not hkn (by simpa using h0) ?_
  have ex : (k : Int) % W = cx := by rw [← hk, Int.add_comm, Int.mul_comm, Int.add_mul_emod_self_left]; exact Int.emod_eq_of_lt hin.1 hin.2.1
  have ey : (k : Int) / W = cy := by rw [← hk, Int.add_comm, Int.mul_comm, Int.add_mul_ediv_left _ _ (by omega)]; rw [Int.ediv_eq_zero_of_lt hin.1 hin.2.1]; omega
  rw [ex, ey]
  have e1 : b % W = a % W + (b % W - a % W) := by omega
  have e2 : b / W = a / W + (b / W - a / W) := by omega
  have := met_tch (a % W) (a / W) (b % W - a % W) (b / W - a / W) cx cy
  rw [← e1, ← e2] at this
  rw [this, hb, ht]
  rfl
end Go.Proofs.Ytfciecoigfnnhaa
