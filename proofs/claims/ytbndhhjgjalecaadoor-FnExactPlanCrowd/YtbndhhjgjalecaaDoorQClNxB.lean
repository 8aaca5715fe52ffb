/- Lists of numbers that are appended to. -/
import Derived.Test.YtbndhhjgjalecaaDoorQLqBase
import Derived.Test.YtbndhhjgjalecaaDoorQClGround
import Derived.Test.YtbndhhjgjalecaaDoorQSzBase
namespace Go.Proofs.YtbndhhjgjalecaaDoor
open Go.RowKit

/-- a list by its index -/
abbrev gl (l : List Int) (i : Nat) : Int := l.getD i 0
theorem vL_congr {F G : Nat → Int} {k : Nat} (h : ∀ i, i < k → F i = G i) : vL F k = vL G k := by
  unfold vL
  exact List.map_congr_left fun i hi => by rw [h i (List.mem_range.1 hi)]
theorem Own.congr {w : World} {base : Nat} {v : Value} {k : Nat} {F G : Nat → Int} (h : Own w base v k F) (e : ∀ i, i < k → F i = G i) : Own w base v k G := by
  unfold Own at *; rw [← vL_congr e]; exact h
theorem own_snoc {w : World} {base : Nat} {v : Value} {l : List Int} {x : Int} (h : w.ownsRow base 3 1 v (l.length + 1) (vL (gl l) l.length ++ [.int .i64 x])) : Own w base v (l ++ [x]).length (gl (l ++ [x])) := by
  have h1 := own_put h
  rw [List.length_append]
  refine h1.congr fun i hi => ?_
  unfold put
  by_cases e : i = l.length
  · subst e; simp [gl]
  · rw [if_neg e]
    have hi2 : i < l.length + 1 := hi
    simp [gl, List.getD, List.getElem?_append_left (show i < l.length by omega)]
theorem own_lit0 (w : World) (base : Nat) (F : Nat → Int) (h : base ≤ w.heap.size) : Own (w.alloc (.cells #[] 3)) base (.slice (some ⟨w.heap.size, 0, none⟩) 0 0) 0 F :=
  World.ownsRow_made w #[] 0 h (by unfold maxLen; omega) rfl
theorem Own.lq2 {w : World} {base : Nat} {a : Option Addr} {k c : Nat} {F : Nat → Int} (h : Own w base (.slice a k c) k F) (hs : base ≤ w.heap.size) : LQ w base w.heap.size a k F ∧ base ≤ w.heap.size := ⟨h.lq, hs⟩

/-- the answer of a function that tells a list -/
def AnsL (w w' : World) (e : Ending) (l : List Int) : Prop := ∃ a' c', e = .returned (.slice a' l.length c') ∧ LQ w' w.heap.size w'.heap.size a' l.length (gl l)
theorem ansL_nil (w w' : World) : AnsL w w' (.returned (.slice none 0 0)) [] := ⟨none, 0, rfl, lq_none _ _ _ _ _⟩
theorem ansL_own {w w' : World} {base : Nat} {a : Option Addr} {c : Nat} {l : List Int} (h : Own w' base (.slice a l.length c) l.length (gl l)) (hb : w.heap.size ≤ base) : AnsL w w' (.returned (.slice a l.length c)) l := ⟨a, c, rfl, h.lq.wide hb (Nat.le_refl _)⟩
end Go.Proofs.YtbndhhjgjalecaaDoor

/- Which places are free. -/
namespace Go.Proofs.YtbndhhjgjalecaaDoor
open Go.RowKit

/-- is at the number of a free cell -/
def frB (n : Nat) (f : Nat → Int) (at_ : Int) : Bool := decide (0 ≤ at_) && decide (at_ < (n : Int)) && decide (f at_.toNat = 0)
theorem frB_t {n : Nat} {f : Nat → Int} {p : Int} (h : frB n f p = true) : 0 ≤ p ∧ p < (n : Int) ∧ f p.toNat = 0 := by simpa [frB, and_assoc] using h
theorem frB_mk {n : Nat} {f : Nat → Int} {p : Int} (h : 0 ≤ p ∧ p < (n : Int) ∧ f p.toNat = 0) : frB n f p = true := by simpa [frB, and_assoc] using h
theorem frB_f {n : Nat} {f : Nat → Int} {p : Int} (h : ¬ (0 ≤ p ∧ p < (n : Int) ∧ f p.toNat = 0)) : frB n f p = false := by
  cases e : frB n f p with
  | false => rfl
  | true => exact absurd (frB_t e) h

/-- the numbers of the free cells among the first k -/
def pl (f : Nat → Int) : Nat → List Int
  | 0 => []
  | k + 1 => if f k = 0 then pl f k ++ [(k : Int)] else pl f k
theorem pl_len (f : Nat → Int) (k : Nat) : (pl f k).length ≤ k := by
  induction k with
  | zero => simp [pl]
  | succ k ih =>
    unfold pl
    split
    · simp; omega
    · omega
/-- what AllPlaces tells -/
def apl (W : Int) (n : Nat) (f : Nat → Int) : List Int := if celB W n f then pl f n else []
theorem apl_len (W : Int) (n : Nat) (f : Nat → Int) : (apl W n f).length ≤ 256 := by
  unfold apl
  split
  · next h =>
    have := sized_le (celB_parts h).1
    have := pl_len f n
    omega
  · simp
end Go.Proofs.YtbndhhjgjalecaaDoor

/- Which trips are good. Numbers alone. -/
namespace Go.Proofs.YtbndhhjgjalecaaDoor

/-- is trip number i apart from the first j -/
def apB (g : Nat → Int) (i : Nat) : Nat → Bool
  | 0 => true
  | j + 1 => apB g i j && !(g (j * 2) == g (i * 2) || g (j * 2 + 1) == g (i * 2 + 1))
/-- are the first k trips good ones -/
def trB (n : Nat) (f g : Nat → Int) : Nat → Bool
  | 0 => true
  | k + 1 => trB n f g k && (frB n f (g (k * 2)) && frB n f (g (k * 2 + 1)) && apB g k k)
def gtB (W : Int) (n : Nat) (f : Nat → Int) (m : Nat) (g : Nat → Int) : Bool := celB W n f && decide (m ≤ 5) && trB n f g m
theorem apB_at {g : Nat → Int} {i k : Nat} (h : apB g i k = true) : ∀ j, j < k → g (j * 2) ≠ g (i * 2) ∧ g (j * 2 + 1) ≠ g (i * 2 + 1) := by
  induction k with
  | zero => intro j hj; omega
  | succ k ih =>
    simp only [apB, Bool.and_eq_true, Bool.not_eq_true', Bool.or_eq_false_iff, beq_eq_false_iff_ne] at h
    intro j hj
    by_cases e : j = k
    · subst e; exact h.2
    · exact ih h.1 j (by omega)
theorem apB_mk {g : Nat → Int} {i k : Nat} (h : ∀ j, j < k → g (j * 2) ≠ g (i * 2) ∧ g (j * 2 + 1) ≠ g (i * 2 + 1)) : apB g i k = true := by
  induction k with
  | zero => rfl
  | succ k ih =>
    simp only [apB, Bool.and_eq_true, Bool.not_eq_true', Bool.or_eq_false_iff, beq_eq_false_iff_ne]
    exact ⟨ih fun j hj => h j (by omega), h k (by omega)⟩
theorem trB_at {n : Nat} {f g : Nat → Int} {k : Nat} (h : trB n f g k = true) : ∀ i, i < k → frB n f (g (i * 2)) = true ∧ frB n f (g (i * 2 + 1)) = true ∧ apB g i i = true := by
  induction k with
  | zero => intro i hi; omega
  | succ k ih =>
    simp only [trB, Bool.and_eq_true] at h
    intro i hi
    by_cases e : i = k
    · subst e; exact ⟨h.2.1.1, h.2.1.2, h.2.2⟩
    · exact ih h.1 i (by omega)
theorem trB_mk {n : Nat} {f g : Nat → Int} {k : Nat} (h : ∀ i, i < k → frB n f (g (i * 2)) = true ∧ frB n f (g (i * 2 + 1)) = true ∧ apB g i i = true) : trB n f g k = true := by
  induction k with
  | zero => rfl
  | succ k ih =>
    simp only [trB, Bool.and_eq_true]
    exact ⟨ih fun i hi => h i (by omega), ⟨(h k (by omega)).1, (h k (by omega)).2.1⟩, (h k (by omega)).2.2⟩
theorem gtB_t {W : Int} {n : Nat} {f : Nat → Int} {m : Nat} {g : Nat → Int} (h : gtB W n f m g = true) : celB W n f = true ∧ m ≤ 5 ∧ trB n f g m = true := by
  simpa [gtB, and_assoc] using h
theorem gtB_false {W : Int} {n : Nat} {f : Nat → Int} {m : Nat} {g : Nat → Int} {k : Nat} (hk : k < m) (h : ¬ (frB n f (g (k * 2)) = true ∧ frB n f (g (k * 2 + 1)) = true ∧ apB g k k = true)) : gtB W n f m g = false := by
  cases e : gtB W n f m g with
  | false => rfl
  | true => exact absurd (trB_at (gtB_t e).2.2 k hk) h
theorem apB_false {g : Nat → Int} {i j k : Nat} (hj : j < k) (h : g (j * 2) = g (i * 2) ∨ g (j * 2 + 1) = g (i * 2 + 1)) : ¬ apB g i k = true := fun e => by
  have := apB_at e j hj
  rcases h with h | h
  · exact this.1 h
  · exact this.2 h
end Go.Proofs.YtbndhhjgjalecaaDoor

/- Which places lie within the sides. -/
namespace Go.Proofs.YtbndhhjgjalecaaDoor
open Go.RowKit

def hvB (W H x y : Int) : Bool := decide (0 ≤ x) && decide (x < W) && decide (0 ≤ y) && decide (y < H)
theorem hvB_t {W H x y : Int} (h : hvB W H x y = true) : 0 ≤ x ∧ x < W ∧ 0 ≤ y ∧ y < H := by simpa [hvB, and_assoc] using h
theorem hvB_mk {W H x y : Int} (h : 0 ≤ x ∧ x < W ∧ 0 ≤ y ∧ y < H) : hvB W H x y = true := by simpa [hvB, and_assoc] using h
theorem hvB_f {W H x y : Int} (h : ¬ (0 ≤ x ∧ x < W ∧ 0 ≤ y ∧ y < H)) : hvB W H x y = false := by
  cases e : hvB W H x y with
  | false => rfl
  | true => exact absurd (hvB_t e) h
theorem idx_bd {W H x y : Int} {n : Nat} (hH : H * W = (n : Int)) (h : 0 ≤ x ∧ x < W ∧ 0 ≤ y ∧ y < H) : 0 ≤ y * W ∧ y * W + x < (n : Int) := by
  obtain ⟨h1, h2, h3, h4⟩ := h
  have a1 := Int.mul_nonneg h3 (show 0 ≤ W by omega)
  have a2 := Int.mul_le_mul_of_nonneg_right (show y + 1 ≤ H by omega) (show 0 ≤ W by omega)
  rw [Int.add_mul] at a2
  omega
end Go.Proofs.YtbndhhjgjalecaaDoor

/- The four ways, and the cell behind one along a way. -/
namespace Go.Proofs.YtbndhhjgjalecaaDoor
open Go.RowKit
def fre (W H : Int) (f : Nat → Int) (x y : Int) : Bool := hvB W H x y && decide (f (y * W + x).toNat = 0)
def dX (v : Nat) : Int := [1, 0, -1, 0].getD v 0
def dY (v : Nat) : Int := [0, 1, 0, -1].getD v 0
theorem d_bd (v : Nat) (h : v < 4) : (dX v = 1 ∧ dY v = 0) ∨ (dX v = 0 ∧ dY v = 1) ∨ (dX v = -1 ∧ dY v = 0) ∨ (dX v = 0 ∧ dY v = -1) := by
  match v, h with
  | 0, _ => decide
  | 1, _ => decide
  | 2, _ => decide
  | 3, _ => decide

/-- the cell behind one along a way, -1 where it is not free, or beyond the edge -/
def nx (W H : Int) (f : Nat → Int) (v : Nat) (x y : Int) : Int := if fre W H f (x + dX v) (y + dY v) then (y + dY v) * W + (x + dX v) else -1
theorem fre_hv {W H : Int} {f : Nat → Int} {x y : Int} (h : fre W H f x y = true) : hvB W H x y = true ∧ f (y * W + x).toNat = 0 := by simpa [fre] using h
theorem fre_no {W H : Int} {f : Nat → Int} {x y : Int} (h : fre W H f x y = false) (k : hvB W H x y = true) : ¬ f (y * W + x).toNat = 0 := by
  intro e
  simp [fre, k, e] at h

end Go.Proofs.YtbndhhjgjalecaaDoor
