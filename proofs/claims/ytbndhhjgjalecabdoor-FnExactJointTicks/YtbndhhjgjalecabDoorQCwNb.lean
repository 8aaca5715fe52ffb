/- Where one may be at the next tick: the cells around one along the four ways, and itself, rising. -/
import Derived.Test.YtbndhhjgjalecabDoorQClVal
import Derived.Test.YtbndhhjgjalecabDoorQClFrB
namespace Go.Proofs.YtbndhhjgjalecabDoor

/-- the cell behind number p along a way -/
def nxp (W : Int) (n : Nat) (f : Nat → Int) (v p : Nat) : Int := nx W (hgt W n) f v ((p : Int) % W) ((p : Int) / W)
def nbK (W : Int) (n : Nat) (f : Nat → Int) (p : Nat) : List Int := [nxp W n f 3 p, nxp W n f 2 p, (p : Int), nxp W n f 0 p, nxp W n f 1 p]
/-- those of the first k that are not below 0 -/
def nnK (l : List Int) (k : Nat) : List Int := (l.take k).filter fun x => decide (0 ≤ x)
def nbL (W : Int) (n : Nat) (f : Nat → Int) (p : Nat) : List Int := nnK (nbK W n f p) 5
theorem nnK_succ {l : List Int} {k : Nat} (h : k < l.length) : nnK l (k + 1) = if 0 ≤ l.getD k 0 then nnK l k ++ [l.getD k 0] else nnK l k := by
  unfold nnK
  have e : l.take (k + 1) = l.take k ++ [l.getD k 0] := by
    rw [List.take_add_one, List.getElem?_eq_getElem h]
    simp [List.getD, h]
  rw [e, List.filter_append]
  generalize l.getD k 0 = x
  by_cases h0 : 0 ≤ x
  · rw [if_pos h0]; simp [h0]
  · rw [if_neg h0]; simp; omega
theorem nnK_len (l : List Int) (k : Nat) : (nnK l k).length ≤ k := by
  unfold nnK
  have := List.length_filter_le (fun x => decide (0 ≤ x)) (l.take k)
  have := List.length_take_le k l
  omega
theorem nxp_in {W : Int} {n : Nat} {f : Nat → Int} {v p : Nat} (hs : sizedB W n = true) : nxp W n f v p = -1 ∨ (0 ≤ nxp W n f v p ∧ nxp W n f v p < (n : Int) ∧ f (nxp W n f v p).toNat = 0) := by
  unfold nxp nx
  split
  · next h =>
    obtain ⟨h1, h2⟩ := fre_hv h
    have := idx_bd (hgt_mul hs).1 (hvB_t h1)
    have h3 := (hvB_t h1).1
    exact .inr ⟨by omega, by omega, h2⟩
  · exact .inl rfl
/-- one may go from p to q at a tick -/
def Stp (W : Int) (n : Nat) (f : Nat → Int) (p q : Nat) : Prop := q = p ∨ ∃ v, v < 4 ∧ nxp W n f v p = (q : Int)
theorem mem_nbL {W : Int} {n : Nat} {f : Nat → Int} {p : Nat} {x : Int} : x ∈ nbL W n f p ↔ ∃ q : Nat, x = (q : Int) ∧ Stp W n f p q := by
  unfold nbL nnK
  rw [show (nbK W n f p).take 5 = nbK W n f p from rfl, List.mem_filter]
  constructor
  · rintro ⟨h1, h2⟩
    have h0 : 0 ≤ x := by simpa using h2
    refine ⟨x.toNat, by omega, ?_⟩
    have e : ((x.toNat : Nat) : Int) = x := by omega
    simp only [nbK, List.mem_cons, List.not_mem_nil, or_false] at h1
    rcases h1 with h | h | h | h | h
    · exact .inr ⟨3, by omega, by rw [e, h]⟩
    · exact .inr ⟨2, by omega, by rw [e, h]⟩
    · exact .inl (by omega)
    · exact .inr ⟨0, by omega, by rw [e, h]⟩
    · exact .inr ⟨1, by omega, by rw [e, h]⟩
  · rintro ⟨q, rfl, hq⟩
    refine ⟨?_, by simp⟩
    simp only [nbK, List.mem_cons, List.not_mem_nil, or_false]
    rcases hq with rfl | ⟨v, hv, e⟩
    · exact .inr (.inr (.inl rfl))
    · match v, hv with
      | 0, _ => exact .inr (.inr (.inr (.inl e.symm)))
      | 1, _ => exact .inr (.inr (.inr (.inr e.symm)))
      | 2, _ => exact .inr (.inl e.symm)
      | 3, _ => exact .inl e.symm
theorem Stp.lt {W : Int} {n : Nat} {f : Nat → Int} {p q : Nat} (h : Stp W n f p q) (hs : sizedB W n = true) (hp : p < n) : q < n := by
  rcases h with rfl | ⟨v, _, e⟩
  · exact hp
  · rcases nxp_in (f := f) (v := v) (p := p) hs with h1 | ⟨h1, h2, _⟩ <;> omega
theorem Stp.free {W : Int} {n : Nat} {f : Nat → Int} {p q : Nat} (h : Stp W n f p q) (hs : sizedB W n = true) (hp : f p = 0) : f q = 0 := by
  rcases h with rfl | ⟨v, _, e⟩
  · exact hp
  · rcases nxp_in (f := f) (v := v) (p := p) hs with h1 | ⟨h1, h2, h3⟩
    · omega
    · rw [e] at h3; simpa using h3
theorem nbL_len (W : Int) (n : Nat) (f : Nat → Int) (p : Nat) : (nbL W n f p).length ≤ 5 := nnK_len _ _
theorem nbL_get {W : Int} {n : Nat} {f : Nat → Int} {p k : Nat} (hk : k < (nbL W n f p).length) : ∃ q : Nat, gl (nbL W n f p) k = (q : Int) ∧ Stp W n f p q := by
  have : gl (nbL W n f p) k ∈ nbL W n f p := by
    unfold gl; rw [List.getD_eq_getElem?_getD, List.getElem?_eq_getElem hk]; exact List.getElem_mem hk
  exact mem_nbL.1 this
theorem nbL_all {W : Int} {n : Nat} {f : Nat → Int} {p q : Nat} (h : Stp W n f p q) : ∃ k, k < (nbL W n f p).length ∧ gl (nbL W n f p) k = (q : Int) := by
  obtain ⟨k, hk, e⟩ := List.mem_iff_getElem.1 (mem_nbL.2 ⟨q, rfl, h⟩)
  exact ⟨k, hk, by unfold gl; rw [List.getD_eq_getElem?_getD, List.getElem?_eq_getElem hk]; exact e⟩
end Go.Proofs.YtbndhhjgjalecabDoor
