/- Lists of numbers that are appended to. -/
import Derived.Test.YtapodfkoknmhdaaDoorQLqBase
import Derived.Test.YtapodfkoknmhdaaDoorQWhMtM
namespace Go.Proofs.YtapodfkoknmhdaaDoor
open Go.RowKit

/-- a list by its index -/
abbrev gl (l : List Int) (i : Nat) : Int := l.getD i 0
theorem vL_congr {F G : Nat → Int} {k : Nat} (h : ∀ i, i < k → F i = G i) : vL F k = vL G k := by
  unfold vL
  exact List.map_congr_left fun i hi => by rw [h i (List.mem_range.1 hi)]
theorem Own.congr {w : World} {base : Nat} {v : Value} {k : Nat} {F G : Nat → Int} (h : Own w base v k F) (e : ∀ i, i < k → F i = G i) : Own w base v k G := by
  unfold Own at *; rw [← vL_congr e]; exact h
theorem own_snoc {w : World} {base : Nat} {v : Value} {l : List Int} {x : Int} (h : w.ownsRow base 3 1 v (l.length + 1) (vL (gl l) l.length ++ [.int .i64 x])) : Own w base v (l ++ [x]).length (gl (l ++ [x])) := by
  have h1 := own_put h
  rw [List.length_append]
  refine h1.congr fun i hi => ?_
  unfold put
  by_cases e : i = l.length
  · subst e; simp [gl]
  · rw [if_neg e]
    have hi2 : i < l.length + 1 := hi
    simp [gl, List.getD, List.getElem?_append_left (show i < l.length by omega)]
theorem own_lit0 (w : World) (base : Nat) (F : Nat → Int) (h : base ≤ w.heap.size) : Own (w.alloc (.cells #[] 3)) base (.slice (some ⟨w.heap.size, 0, none⟩) 0 0) 0 F :=
  World.ownsRow_made w #[] 0 h (by unfold maxLen; omega) rfl
theorem Own.lq2 {w : World} {base : Nat} {a : Option Addr} {k c : Nat} {F : Nat → Int} (h : Own w base (.slice a k c) k F) (hs : base ≤ w.heap.size) : LQ w base w.heap.size a k F ∧ base ≤ w.heap.size := ⟨h.lq, hs⟩

/-- the answer of a function that tells a list -/
def AnsL (w w' : World) (e : Ending) (l : List Int) : Prop := ∃ a' c', e = .returned (.slice a' l.length c') ∧ LQ w' w.heap.size w'.heap.size a' l.length (gl l)
theorem ansL_nil (w w' : World) : AnsL w w' (.returned (.slice none 0 0)) [] := ⟨none, 0, rfl, lq_none _ _ _ _ _⟩
theorem ansL_own {w w' : World} {base : Nat} {a : Option Addr} {c : Nat} {l : List Int} (h : Own w' base (.slice a l.length c) l.length (gl l)) (hb : w.heap.size ≤ base) : AnsL w w' (.returned (.slice a l.length c)) l := ⟨a, c, rfl, h.lq.wide hb (Nat.le_refl _)⟩
end Go.Proofs.YtapodfkoknmhdaaDoor

/- How a board is played. -/
namespace Go.Proofs.YtapodfkoknmhdaaDoor
open Go.RowKit
/-- the list that is told -/
def oL (V : Option (List Int)) : List Int := V.getD []
theorem capP {w : World} {base : Nat} {a : Option Addr} {k c : Nat} {F : Nat → Int} (h : Own w base (.slice a k c) k F) : k ≤ c := by
  obtain ⟨_, ⟨h1, h2⟩ | ⟨g, cap, cur, h1, h2, h3, h4, h5⟩⟩ := h
  · cases h1; omega
  · cases h1; exact h4
/-- the answer of a function that tells a list, or none -/
def AnsPb (w w' : World) (e : Ending) (V : Option (List Int)) : Prop := ∃ a c, e = .returned (.tuple #[.slice a (oL V).length c, .bool V.isSome]) ∧ LQ w' w.heap.size w'.heap.size a (oL V).length (gl (oL V)) ∧ (oL V).length ≤ c
theorem ansPb_none {w w' : World} {V : Option (List Int)} (h : V = none) : AnsPb w w' (.returned (.tuple #[.slice none 0 0, .bool false])) V := by
  subst h; exact ⟨none, 0, rfl, lq_none _ _ _ _ _, Nat.le_refl _⟩
theorem ansPb_own {w w' : World} {base : Nat} {a : Option Addr} {c N : Nat} {l : List Int} {V : Option (List Int)} (h : Own w' base (.slice a N c) N (gl l)) (hN : l.length = N) (hb : w.heap.size ≤ base) (hV : V = some l) : AnsPb w w' (.returned (.tuple #[.slice a N c, .bool true])) V := by
  subst hV hN; exact ⟨a, c, rfl, h.lq.wide hb (Nat.le_refl _), capP h⟩
/-- what comes next, and whether it may -/
def nxV (g : Nat → Bool) (K : Nat → Nat) (R : Nat → Nat → Int) (pl : Nat → Int) (at' : Nat) (t : Int) : Int × Bool :=
  if K at' = 0 then (-1, true) else if g at' = false then (R at' (t % (K at' : Int)).toNat, true) else (pl at', (pl at' == -1) || hsB (R at') (K at') (pl at'))
/-- the run from at' on, of q steps at most, the next one by number i of theirs -/
def plR (g : Nat → Bool) (K : Nat → Nat) (R : Nat → Nat → Int) (pl th : Nat → Int) : Nat → Nat → Nat → Option (List Int)
  | 0, _, _ => some []
  | q + 1, i, at' => if (nxV g K R pl at' (th i)).2 = false then none else if (nxV g K R pl at' (th i)).1 = -1 then some [] else (plR g K R pl th q (i + 1) (nxV g K R pl at' (th i)).1.toNat).map ((nxV g K R pl at' (th i)).1 :: ·)
/-- it may be asked for -/
def plC (n : Nat) (f : Nat → ByteArray) (m p : Nat) (K : Nat → Nat) (R : Nat → Nat → Int) (pn : Nat) (fr : Int) (th : Nat → Int) (L : Nat) : Prop := gbB n f m p K R = true ∧ pn = n ∧ 0 ≤ fr ∧ fr < (n : Int) ∧ L ≤ 30 ∧ ∀ i, i < L → 0 ≤ th i
instance (n : Nat) (f : Nat → ByteArray) (m p : Nat) (K : Nat → Nat) (R : Nat → Nat → Int) (pn : Nat) (fr : Int) (th : Nat → Int) (L : Nat) : Decidable (plC n f m p K R pn fr th L) := by unfold plC; exact inferInstance
/-- the run -/
def plV (n : Nat) (f : Nat → ByteArray) (m : Nat) (g : Nat → Bool) (p : Nat) (K : Nat → Nat) (R : Nat → Nat → Int) (pn : Nat) (pl : Nat → Int) (fr : Int) (th : Nat → Int) (L : Nat) : Option (List Int) :=
  if plC n f m p K R pn fr th L then (plR g K R pl th L 0 fr.toNat).map (fr :: ·) else none
section
variable {g : Nat → Bool} {K : Nat → Nat} {R : Nat → Nat → Int} {pl th : Nat → Int} {V : Option (List Int)} {l : List Int} {L i at' : Nat}
/-- what is played so far leads to V -/
def Plays (g : Nat → Bool) (K : Nat → Nat) (R : Nat → Nat → Int) (pl th : Nat → Int) (V : Option (List Int)) (L i at' : Nat) (l : List Int) : Prop := (plR g K R pl th (L - i) i at').map (l ++ ·) = V
theorem Plays.bad (h : Plays g K R pl th V L i at' l) (hi : i < L) (h2 : (nxV g K R pl at' (th i)).2 = false) : V = none := by
  unfold Plays at h
  rw [show L - i = (L - (i + 1)) + 1 by omega, plR, if_pos h2] at h
  exact h.symm
theorem Plays.stop (h : Plays g K R pl th V L i at' l) (hi : i < L) (h2 : (nxV g K R pl at' (th i)).2 = true) (h1 : (nxV g K R pl at' (th i)).1 = -1) : V = some l := by
  unfold Plays at h
  rw [show L - i = (L - (i + 1)) + 1 by omega, plR, if_neg (by rw [h2]; simp), if_pos h1] at h
  rw [← h]; simp
theorem Plays.go (h : Plays g K R pl th V L i at' l) (hi : i < L) (h2 : (nxV g K R pl at' (th i)).2 = true) (h1 : ¬ (nxV g K R pl at' (th i)).1 = -1) : Plays g K R pl th V L (i + 1) (nxV g K R pl at' (th i)).1.toNat (l ++ [(nxV g K R pl at' (th i)).1]) := by
  unfold Plays at h ⊢
  rw [show L - i = (L - (i + 1)) + 1 by omega, plR, if_neg (by rw [h2]; simp), if_neg h1, Option.map_map] at h
  rw [← h]
  congr 1
  funext z
  simp
theorem Plays.last (h : Plays g K R pl th V L i at' l) (hi : ¬ i < L) : V = some l := by
  unfold Plays at h
  rw [show L - i = 0 by omega, plR] at h
  rw [← h]; simp
theorem nx_in {n : Nat} (hR : ∀ i, i < n → ∀ j, j < K i → 0 ≤ R i j ∧ R i j < (n : Int)) (ha : at' < n) {t : Int} (h2 : (nxV g K R pl at' t).2 = true) (h1 : ¬ (nxV g K R pl at' t).1 = -1) : 0 ≤ (nxV g K R pl at' t).1 ∧ (nxV g K R pl at' t).1 < (n : Int) := by
  unfold nxV at h1 h2 ⊢
  by_cases e0 : K at' = 0
  · rw [if_pos e0] at h1; exact absurd rfl h1
  · rw [if_neg e0] at h1 h2 ⊢
    by_cases e1 : g at' = false
    · rw [if_pos e1]
      have h3 : 0 ≤ t % (K at' : Int) := Int.emod_nonneg _ (by omega)
      have h4 : t % (K at' : Int) < (K at' : Int) := Int.emod_lt_of_pos _ (by omega)
      exact hR at' ha _ (by omega)
    · rw [if_neg e1] at h1 h2 ⊢
      simp only [Bool.or_eq_true, beq_iff_eq] at h2
      rcases h2 with h2 | h2
      · exact absurd h2 h1
      · unfold hsB at h2
        obtain ⟨j, hj, e⟩ := of_decide_eq_true h2
        simp only
        rw [← e]
        exact hR at' ha j hj
end
end Go.Proofs.YtapodfkoknmhdaaDoor
