/- Which places are free; lists of numbers that are appended to. -/
import Derived.Test.YtfciecoigfnnhaaQClGround
import Derived.Test.YtfciecoigfnnhaaQSzBase
namespace Go.Proofs.Ytfciecoigfnnhaa
open Go.RowKit

/-- is at the number of a free cell -/
def frB (n : Nat) (f : Nat → Int) (at_ : Int) : Bool := decide (0 ≤ at_) && decide (at_ < (n : Int)) && decide (f at_.toNat = 0)
theorem frB_t {n : Nat} {f : Nat → Int} {p : Int} (h : frB n f p = true) : 0 ≤ p ∧ p < (n : Int) ∧ f p.toNat = 0 := by simpa [frB, and_assoc] using h
theorem frB_mk {n : Nat} {f : Nat → Int} {p : Int} (h : 0 ≤ p ∧ p < (n : Int) ∧ f p.toNat = 0) : frB n f p = true := by simpa [frB, and_assoc] using h
theorem frB_f {n : Nat} {f : Nat → Int} {p : Int} (h : ¬ (0 ≤ p ∧ p < (n : Int) ∧ f p.toNat = 0)) : frB n f p = false := by
  cases e : frB n f p with
  | false => rfl
  | true => exact absurd (frB_t e) h

/-- a list by its index -/
abbrev gl (l : List Int) (i : Nat) : Int := l.getD i 0
theorem vL_congr {F G : Nat → Int} {k : Nat} (h : ∀ i, i < k → F i = G i) : vL F k = vL G k := by
  unfold vL
  exact List.map_congr_left fun i hi => by rw [h i (List.mem_range.1 hi)]
theorem Own.congr {w : World} {base : Nat} {v : Value} {k : Nat} {F G : Nat → Int} (h : Own w base v k F) (e : ∀ i, i < k → F i = G i) : Own w base v k G := by
  unfold Own at *; rw [← vL_congr e]; exact h
theorem own_snoc {w : World} {base : Nat} {v : Value} {l : List Int} {x : Int} (h : w.ownsRow base 3 1 v (l.length + 1) (vL (gl l) l.length ++ [.int .i64 x])) : Own w base v (l ++ [x]).length (gl (l ++ [x])) := by
  have h1 := own_put h
  rw [List.length_append]
  refine h1.congr fun i hi => ?_
  unfold put
  by_cases e : i = l.length
  · subst e; simp [gl]
  · rw [if_neg e]
    have hi2 : i < l.length + 1 := hi
    simp [gl, List.getD, List.getElem?_append_left (show i < l.length by omega)]
theorem own_lit0 (w : World) (base : Nat) (F : Nat → Int) (h : base ≤ w.heap.size) : Own (w.alloc (.cells #[] 3)) base (.slice (some ⟨w.heap.size, 0, none⟩) 0 0) 0 F :=
  World.ownsRow_made w #[] 0 h (by unfold maxLen; omega) rfl
theorem Own.lq2 {w : World} {base : Nat} {a : Option Addr} {k c : Nat} {F : Nat → Int} (h : Own w base (.slice a k c) k F) (hs : base ≤ w.heap.size) : LQ w base w.heap.size a k F ∧ base ≤ w.heap.size := ⟨h.lq, hs⟩

/-- the answer of a function that tells a list -/
def AnsL (w w' : World) (e : Ending) (l : List Int) : Prop := ∃ a' c', e = .returned (.slice a' l.length c') ∧ LQ w' w.heap.size w'.heap.size a' l.length (gl l)
theorem ansL_nil (w w' : World) : AnsL w w' (.returned (.slice none 0 0)) [] := ⟨none, 0, rfl, lq_none _ _ _ _ _⟩
theorem ansL_own {w w' : World} {base : Nat} {a : Option Addr} {c : Nat} {l : List Int} (h : Own w' base (.slice a l.length c) l.length (gl l)) (hb : w.heap.size ≤ base) : AnsL w w' (.returned (.slice a l.length c)) l := ⟨a, c, rfl, h.lq.wide hb (Nat.le_refl _)⟩
/-- the numbers of the free cells among the first k -/
def pl (f : Nat → Int) : Nat → List Int
  | 0 => []
  | k + 1 => if f k = 0 then pl f k ++ [(k : Int)] else pl f k
theorem pl_len (f : Nat → Int) (k : Nat) : (pl f k).length ≤ k := by
  induction k with
  | zero => simp [pl]
  | succ k ih =>
    unfold pl
    split
    · simp; omega
    · omega
/-- what AllPlaces tells -/
def apl (W : Int) (n : Nat) (f : Nat → Int) : List Int := if celB W n f then pl f n else []
theorem apl_len (W : Int) (n : Nat) (f : Nat → Int) : (apl W n f).length ≤ 256 := by
  unfold apl
  split
  · next h =>
    have := sized_le (celB_parts h).1
    have := pl_len f n
    omega
  · simp
end Go.Proofs.Ytfciecoigfnnhaa

/- Which cells a line meets, as numbers. -/
namespace Go.Proofs.Ytfciecoigfnnhaa
open Go.RowKit

/-- how many of the first k numbers are above 0, how many below -/
def cPos (s : Nat → Int) : Nat → Int
  | 0 => 0
  | k + 1 => cPos s k + if 0 < s k then 1 else 0
def cNeg (s : Nat → Int) : Nat → Int
  | 0 => 0
  | k + 1 => cNeg s k + if s k < 0 then 1 else 0
theorem cPos_le (s : Nat → Int) (k : Nat) : 0 ≤ cPos s k ∧ cPos s k ≤ k := by
  induction k with
  | zero => simp [cPos]
  | succ k ih => unfold cPos; split <;> omega
theorem cNeg_le (s : Nat → Int) (k : Nat) : 0 ≤ cNeg s k ∧ cNeg s k ≤ k := by
  induction k with
  | zero => simp [cNeg]
  | succ k ih => unfold cNeg; split <;> omega
/-- a cell's two sides, in halves -/
def sdV (c : Int) (k : Nat) : Int := if k = 0 then 2 * c - 1 else 2 * c + 1
theorem sdV_le {c : Int} (h0 : 0 ≤ c) (h1 : c ≤ 15) (k : Nat) : -1 ≤ sdV c k ∧ sdV c k ≤ 31 := by unfold sdV; split <;> omega
/-- on which side of the line a corner lies -/
def crV (x1 y1 x2 y2 cx cy : Int) (p : Nat) : Int := (x2 - x1) * (sdV cy (p % 2) - y1) - (y2 - y1) * (sdV cx (p / 2) - x1)
/-- does a cell lie beside the line's box -/
def outB (x1 y1 x2 y2 cx cy : Int) : Bool :=
  decide (x1 < 2 * cx - 1) && decide (x2 < 2 * cx - 1) || decide (2 * cx + 1 < x1) && decide (2 * cx + 1 < x2) || decide (y1 < 2 * cy - 1) && decide (y2 < 2 * cy - 1) || decide (2 * cy + 1 < y1) && decide (2 * cy + 1 < y2)
def metB (x1 y1 x2 y2 cx cy : Int) : Bool :=
  !outB x1 y1 x2 y2 cx cy && decide (cPos (crV x1 y1 x2 y2 cx cy) 4 < 4) && decide (cNeg (crV x1 y1 x2 y2 cx cy) 4 < 4)
theorem mul_100 {a b : Int} (h0 : -100 ≤ a) (h1 : a ≤ 100) (h2 : -100 ≤ b) (h3 : b ≤ 100) : -10000 ≤ a * b ∧ a * b ≤ 10000 := by
  have e : (a * b).natAbs = a.natAbs * b.natAbs := Int.natAbs_mul a b
  have k : a.natAbs * b.natAbs ≤ 100 * 100 := Nat.mul_le_mul (by omega) (by omega)
  omega
/-- is the way from one cell to another clear of the first k cells -/
def clK (W : Int) (f : Nat → Int) (a b : Int) : Nat → Bool
  | 0 => true
  | k + 1 => clK W f a b k && (decide (f k = 0) || !metB (2 * (a % W)) (2 * (a / W)) (2 * (b % W)) (2 * (b / W)) ((k : Int) % W) ((k : Int) / W))
theorem clK_not {W : Int} {f : Nat → Int} {a b : Int} {n i : Nat} (hi : i < n) (h0 : ¬ f i = 0) (h : metB (2 * (a % W)) (2 * (a / W)) (2 * (b % W)) (2 * (b / W)) ((i : Int) % W) ((i : Int) / W) = true) : clK W f a b n = false := by
  induction n with
  | zero => omega
  | succ n ih =>
    unfold clK
    by_cases e : i = n
    · subst e; simp [h0, h]
    · simp [ih (by omega)]
/-- what is clear, of good cells -/
def clrB (W : Int) (n : Nat) (f : Nat → Int) (a b : Int) : Bool := frB n f a && frB n f b && clK W f a b n
end Go.Proofs.Ytfciecoigfnnhaa

/- Places of cells. -/
namespace Go.Proofs.Ytfciecoigfnnhaa
open Go.RowKit
theorem crd {W : Int} {n : Nat} (h : sizedB W n = true) {a : Int} (h0 : 0 ≤ a) (h1 : a < (n : Int)) : (0 ≤ a % W ∧ a % W ≤ 15) ∧ (0 ≤ a / W ∧ a / W ≤ 15) := by
  obtain ⟨k1, k2, _, _, _⟩ := sizedB_t h
  obtain ⟨m1, m2, m3⟩ := hgt_mul h
  have a1 := Int.emod_nonneg a (b := W) (by omega)
  have a2 := Int.emod_lt_of_pos a (b := W) (by omega)
  have a3 := Int.ediv_nonneg (a := a) (b := W) h0 (by omega)
  have a4 : a / W < hgt W n := Int.ediv_lt_of_lt_mul (by omega) (by rw [m1]; exact h1)
  omega
theorem tm_of {a W : Int} (h : 0 ≤ a) : a.tmod W = a % W := Int.tmod_eq_emod_of_nonneg h
theorem td_of {a W : Int} (h : 0 ≤ a) : a.tdiv W = a / W := Int.tdiv_eq_ediv_of_nonneg h
end Go.Proofs.Ytfciecoigfnnhaa

/- A list and whether it is one; the numbers that WayCost and the others tell. -/
namespace Go.Proofs.Ytfciecoigfnnhaa
open Go.RowKit
/-- the answer of a function that tells a list and whether it is one -/
def AnsW (w w' : World) (e : Ending) (l : List Int) (q : Bool) : Prop := ∃ a' c', e = .returned (.tuple #[.slice a' l.length c', .bool q]) ∧ LQ w' w.heap.size w'.heap.size a' l.length (gl l)
theorem ansW_nil (w w' : World) (q : Bool) : AnsW w w' (.returned (.tuple #[.slice none 0 0, .bool q])) [] q := ⟨none, 0, rfl, lq_none _ _ _ _ _⟩
theorem ansW_own {w w' : World} {base : Nat} {a : Option Addr} {c : Nat} {l : List Int} {q : Bool} (h : Own w' base (.slice a l.length c) l.length (gl l)) (hb : w.heap.size ≤ base) : AnsW w w' (.returned (.tuple #[.slice a l.length c, .bool q])) l q := ⟨a, c, rfl, h.lq.wide hb (Nat.le_refl _)⟩
/-- the cells among the first k that are clear from one -/
def mcK (W : Int) (n : Nat) (f : Nat → Int) (p : Int) : Nat → List Int
  | 0 => []
  | k + 1 => if clrB W n f p (k : Int) then mcK W n f p k ++ [(k : Int)] else mcK W n f p k
theorem mcK_len (W : Int) (n : Nat) (f : Nat → Int) (p : Int) (k : Nat) : (mcK W n f p k).length ≤ k := by
  induction k with
  | zero => simp [mcK]
  | succ k ih =>
    unfold mcK
    split
    · simp; omega
    · omega
/-- what MostClear tells -/
def mostL (W : Int) (n : Nat) (f : Nat → Int) (p : Int) : List Int := if celB W n f && frB n f p then mcK W n f p n else []
theorem mostL_len (W : Int) (n : Nat) (f : Nat → Int) (p : Int) : (mostL W n f p).length ≤ 256 := by
  unfold mostL
  split
  · next h =>
    simp only [Bool.and_eq_true] at h
    have := sized_le (celB_parts h.1).1
    have := mcK_len W n f p n
    omega
  · simp
/-- a step: 1 a straight one, 2 a slant one, 0 none -/
def stepV (W : Int) (n : Nat) (f : Nat → Int) (a b : Int) : Int :=
  if frB n f a && frB n f b then
    (if (b % W - a % W).natAbs + (b / W - a / W).natAbs = 1 then 1
     else if (b % W - a % W).natAbs = 1 ∧ (b / W - a / W).natAbs = 1 ∧ frB n f (a + (b % W - a % W)) = true ∧ frB n f (a + (b / W - a / W) * W) = true then 2 else 0)
  else 0
/-- are the first k pairs of a list steps -/
def wayK (W : Int) (n : Nat) (f g : Nat → Int) : Nat → Bool
  | 0 => true
  | k + 1 => wayK W n f g k && decide (stepV W n f (g k) (g (k + 1)) ≠ 0)
/-- how many of the first k pairs are steps of a kind -/
def kindK (W : Int) (n : Nat) (f g : Nat → Int) (s : Int) : Nat → Int
  | 0 => 0
  | k + 1 => kindK W n f g s k + if stepV W n f (g k) (g (k + 1)) = s then 1 else 0
theorem kindK_le (W : Int) (n : Nat) (f g : Nat → Int) (s : Int) (k : Nat) : 0 ≤ kindK W n f g s k ∧ kindK W n f g s k ≤ k := by
  induction k with
  | zero => simp [kindK]
  | succ k ih => unfold kindK; split <;> omega
/-- is a list a way -/
def wayQ (W : Int) (n : Nat) (f : Nat → Int) (m : Nat) (g : Nat → Int) : Bool := celB W n f && decide (1 ≤ m) && decide (m ≤ 256) && frB n f (g 0) && wayK W n f g (m - 1)
def wayS (W : Int) (n : Nat) (f : Nat → Int) (m : Nat) (g : Nat → Int) (s : Int) : Int := if wayQ W n f m g then kindK W n f g s (m - 1) else 0
/-- are the first k pairs of a list clear -/
def legK (W : Int) (n : Nat) (f g : Nat → Int) : Nat → Bool
  | 0 => true
  | k + 1 => legK W n f g k && clrB W n f (g k) (g (k + 1))
def pullQ (W : Int) (n : Nat) (f : Nat → Int) (m : Nat) (g : Nat → Int) : Bool := celB W n f && decide (1 ≤ m) && decide (m ≤ 256) && frB n f (g 0) && legK W n f g (m - 1)
/-- the last place up to k that is clear from one -/
def lastC (W : Int) (n : Nat) (f g : Nat → Int) (p : Nat) : Nat → Nat
  | 0 => 0
  | k + 1 => if clrB W n f (g p) (g (k + 1)) then k + 1 else lastC W n f g p k
/-- what is taken behind the place p: so many steps at most -/
def pullK (W : Int) (n : Nat) (f g : Nat → Int) (m : Nat) : Nat → Nat → List Int
  | 0, _ => []
  | t + 1, p => if p < m - 1 then g (lastC W n f g p (m - 1)) :: pullK W n f g m t (lastC W n f g p (m - 1)) else []
theorem pullK_len (W : Int) (n : Nat) (f g : Nat → Int) (m t p : Nat) : (pullK W n f g m t p).length ≤ t := by
  induction t generalizing p with
  | zero => simp [pullK]
  | succ t ih =>
    unfold pullK
    split
    · simp; exact ih _
    · simp
/-- what PulledWay tells -/
def pullL (W : Int) (n : Nat) (f : Nat → Int) (m : Nat) (g : Nat → Int) : List Int := if pullQ W n f m g then g 0 :: pullK W n f g m (m - 1) 0 else []
theorem pullL_len (W : Int) (n : Nat) (f : Nat → Int) (m : Nat) (g : Nat → Int) : (pullL W n f m g).length ≤ 256 := by
  unfold pullL
  split
  · next h =>
    simp only [pullQ, Bool.and_eq_true, decide_eq_true_eq] at h
    have := pullK_len W n f g m (m - 1) 0
    simp
    omega
  · simp
end Go.Proofs.Ytfciecoigfnnhaa

/- Which places lie within the sides. -/
namespace Go.Proofs.Ytfciecoigfnnhaa
open Go.RowKit

def hvB (W H x y : Int) : Bool := decide (0 ≤ x) && decide (x < W) && decide (0 ≤ y) && decide (y < H)
theorem hvB_t {W H x y : Int} (h : hvB W H x y = true) : 0 ≤ x ∧ x < W ∧ 0 ≤ y ∧ y < H := by simpa [hvB, and_assoc] using h
theorem hvB_mk {W H x y : Int} (h : 0 ≤ x ∧ x < W ∧ 0 ≤ y ∧ y < H) : hvB W H x y = true := by simpa [hvB, and_assoc] using h
theorem hvB_f {W H x y : Int} (h : ¬ (0 ≤ x ∧ x < W ∧ 0 ≤ y ∧ y < H)) : hvB W H x y = false := by
  cases e : hvB W H x y with
  | false => rfl
  | true => exact absurd (hvB_t e) h
theorem idx_bd {W H x y : Int} {n : Nat} (hH : H * W = (n : Int)) (h : 0 ≤ x ∧ x < W ∧ 0 ≤ y ∧ y < H) : 0 ≤ y * W ∧ y * W + x < (n : Int) := by
  obtain ⟨h1, h2, h3, h4⟩ := h
  have a1 := Int.mul_nonneg h3 (show 0 ≤ W by omega)
  have a2 := Int.mul_le_mul_of_nonneg_right (show y + 1 ≤ H by omega) (show 0 ≤ W by omega)
  rw [Int.add_mul] at a2
  omega
end Go.Proofs.Ytfciecoigfnnhaa
