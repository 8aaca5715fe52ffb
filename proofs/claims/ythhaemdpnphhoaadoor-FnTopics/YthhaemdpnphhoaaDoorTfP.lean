/- A pattern with a plain part in the place of its stars; texts alone. -/
import Derived.Test.YthhaemdpnphhoaaDoorTfM
namespace Go.Proofs.YthhaemdpnphhoaaDoor
def plx (x : ByteArray) : ByteArray := if st1 x || st2 x then ⟨#[97]⟩ else x
/-- the parts with a stroke ahead of each -/
def plT (p : List ByteArray) : ByteArray := p.foldl (fun q x => q ++ (⟨#[47]⟩ ++ plx x)) ⟨#[]⟩
theorem plT_snoc (p : List ByteArray) (x : ByteArray) : plT (p ++ [x]) = plT p ++ (⟨#[47]⟩ ++ plx x) := by simp [plT, List.foldl_append]
theorem size_list (x : ByteArray) : x.size = x.toList.length := by rw [Lib.toList_data]; simp
theorem plx_size (x : ByteArray) : (plx x).size ≤ x.size := by
  unfold plx
  split
  · next h =>
    rw [Bool.or_eq_true] at h
    rw [size_list x]
    have h1 : (⟨#[97]⟩ : ByteArray).size = 1 := rfl
    rw [h1]
    rcases h with h | h
    · rw [eq_of_beq h]; decide
    · rw [eq_of_beq h]; decide
  · exact Nat.le_refl _
theorem plT_size (p : List ByteArray) : (plT p).size ≤ (p.map ByteArray.size).sum + p.length := by
  suffices H : ∀ (p : List ByteArray) (q : ByteArray), (p.foldl (fun q x => q ++ (⟨#[47]⟩ ++ plx x)) q).size ≤ q.size + (p.map ByteArray.size).sum + p.length by
    have := H p ⟨#[]⟩
    have h0 : (⟨#[]⟩ : ByteArray).size = 0 := rfl
    unfold plT
    omega
  intro p
  induction p with
  | nil => intro q; simp
  | cons x p ih =>
    intro q
    have h1 := ih (q ++ (⟨#[47]⟩ ++ plx x))
    have h2 := plx_size x
    have h3 : (⟨#[47]⟩ : ByteArray).size = 1 := rfl
    rw [List.foldl_cons]
    rw [ByteArray.size_append, ByteArray.size_append, h3] at h1
    simp only [List.map_cons, List.sum_cons, List.length_cons]
    omega
theorem tp_sum (s : ByteArray) : ((tpP s).map ByteArray.size).sum + (tpP s).length ≤ s.size := by
  unfold tpP
  have hl := bl_len s
  rw [List.map_map, List.length_map]
  have hm : (ByteArray.size ∘ mkT) = List.length := by funext l; simp [ByteArray.size]
  rw [hm]
  cases e : bl s with
  | nil => simp [tpL]
  | cons c r =>
    rw [e] at hl
    rw [tpL_cons]
    split
    · have := prt_small r
      simp at hl
      omega
    · simp
theorem sum_take (l : List Nat) (k : Nat) : (l.take k).sum ≤ l.sum := by
  conv => rhs; rw [← List.take_append_drop k l, List.sum_append]
  omega
theorem plT_take (s : ByteArray) (k : Nat) : (plT ((tpP s).take k)).size ≤ s.size := by
  have h1 := plT_size ((tpP s).take k)
  have h2 := tp_sum s
  have h3 := sum_take ((tpP s).map ByteArray.size) k
  rw [← List.map_take] at h3
  have h4 : ((tpP s).take k).length ≤ (tpP s).length := by rw [List.length_take]; omega
  omega
theorem plT_all (s : ByteArray) : (plT (tpP s)).size ≤ s.size := by
  have := plT_take s (tpP s).length
  rwa [List.take_length] at this
/-- one more part behind those of which stars side by side are one -/
def colS (q : List ByteArray) (x : ByteArray) : List ByteArray := if st2 x && lst2 q then q else q ++ [x]
theorem colK_fold : ∀ (p q : List ByteArray), colK q p = p.foldl colS q
  | [], _ => rfl
  | x :: p, q => by rw [colK, List.foldl_cons, colK_fold p]; rfl
theorem col_len (p q : List ByteArray) : (p.foldl colS q).length ≤ q.length + p.length := by
  induction p generalizing q with
  | nil => simp
  | cons x p ih =>
    rw [List.foldl_cons]
    have := ih (colS q x)
    have h2 : (colS q x).length ≤ q.length + 1 := by unfold colS; split <;> simp
    simp only [List.length_cons]
    omega
theorem col_ne {p q : List ByteArray} (h : q ≠ [] ∨ p ≠ []) : p.foldl colS q ≠ [] := by
  induction p generalizing q with
  | nil => simpa using h
  | cons x p ih =>
    rw [List.foldl_cons]
    refine ih (.inl ?_)
    unfold colS
    split
    · next e =>
      rw [Bool.and_eq_true] at e
      obtain ⟨q', y, rfl, _⟩ := lst2_of e.2
      simp
    · simp
/-- does a pattern fit a name -/
def tfB (s n : ByteArray) : Bool := gtB n && !(tpP s).isEmpty && gtB (plT (tpP s)) && fB (tpP s) (tpP n)
end Go.Proofs.YthhaemdpnphhoaaDoor
