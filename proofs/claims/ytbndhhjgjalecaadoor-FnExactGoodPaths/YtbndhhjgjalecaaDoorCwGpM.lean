/- Which paths are good ones. -/
import Derived.Test.YtbndhhjgjalecaaDoorCwGtM
import Derived.Test.YtbndhhjgjalecaaDoorCwNb
import Derived.Test.YtbndhhjgjalecaaDoorCwMtM
namespace Go.Proofs.YtbndhhjgjalecaaDoor

/-- is path i one of trip i -/
structure RowP (W : Int) (n : Nat) (f g : Nat → Int) (K : Nat → Nat) (F : Nat → Nat → Int) (i : Nat) : Prop where
  some : 1 ≤ K i
  len : K i = K 0
  beg : F i 0 = g (i * 2)
  fin : F i (K i - 1) = g (i * 2 + 1)
  step : ∀ k, 1 ≤ k → k < K i → F i k ∈ nbL W n f (F i (k - 1)).toNat
structure GpP (W : Int) (n : Nat) (f : Nat → Int) (m : Nat) (g : Nat → Int) (N : Nat) (K : Nat → Nat) (F : Nat → Nat → Int) : Prop where
  trips : gtB W n f m g = true
  num : N = m
  rows : ∀ i, i < m → RowP W n f g K F i
  apart : fmV N K F < 0
/-- the places on the way are free cells -/
theorem row_in {W : Int} {n : Nat} {f : Nat → Int} {F : Nat → Int} {k : Nat} (hs : sizedB W n = true) (h0 : 0 ≤ F 0 ∧ F 0 < (n : Int)) (h : ∀ q, 1 ≤ q → q < k → F q ∈ nbL W n f (F (q - 1)).toNat) : ∀ q, q < k → 0 ≤ F q ∧ F q < (n : Int) := by
  intro q
  induction q with
  | zero => intro _; exact h0
  | succ q ih =>
    intro hq
    obtain ⟨h1, h2⟩ := ih (by omega)
    have := h (q + 1) (by omega) hq
    simp only [Nat.add_sub_cancel] at this
    obtain ⟨x, hx, hs'⟩ := mem_nbL.1 this
    have := hs'.lt hs (by omega)
    omega
/-- is x among the first k of a list -/
def inK (l : List Int) (x : Int) : Nat → Bool
  | 0 => false
  | k + 1 => inK l x k || (gl l k == x)
theorem inK_mem {l : List Int} {x : Int} : inK l x l.length = true ↔ x ∈ l := by
  have key : ∀ k, k ≤ l.length → (inK l x k = true ↔ ∃ q, q < k ∧ gl l q = x) := by
    intro k
    induction k with
    | zero => intro _; simp [inK]
    | succ k ih =>
      intro hk
      simp only [inK, Bool.or_eq_true, ih (by omega), beq_iff_eq]
      constructor
      · rintro (⟨q, h1, h2⟩ | h)
        · exact ⟨q, by omega, h2⟩
        · exact ⟨k, by omega, h⟩
      · rintro ⟨q, h1, h2⟩
        by_cases e : q = k
        · subst e; exact .inr h2
        · exact .inl ⟨q, by omega, h2⟩
  rw [key _ (Nat.le_refl _)]
  constructor
  · rintro ⟨q, h1, h2⟩
    rw [← h2]
    unfold gl; rw [List.getD_eq_getElem?_getD, List.getElem?_eq_getElem h1]; exact List.getElem_mem h1
  · intro h
    obtain ⟨q, hq, e⟩ := List.mem_iff_getElem.1 h
    exact ⟨q, hq, by unfold gl; rw [List.getD_eq_getElem?_getD, List.getElem?_eq_getElem hq]; exact e⟩
/-- an answer that says whether -/
def Says (q : Bool) (p : Prop) : Prop := q = true ↔ p
theorem Says.uniq {q q' : Bool} {p : Prop} (h : Says q p) (h' : Says q' p) : q = q' := by
  unfold Says at h h'
  cases q <;> cases q' <;> simp_all
theorem says_no {p : Prop} (h : ¬ p) : Says false p := ⟨fun e => (by cases e), fun e => absurd e h⟩
end Go.Proofs.YtbndhhjgjalecaaDoor
