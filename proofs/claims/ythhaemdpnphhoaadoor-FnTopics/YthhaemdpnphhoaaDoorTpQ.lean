/- The parts of a text, found byte by byte. -/
import Derived.Test.YthhaemdpnphhoaaDoorTpB
namespace Go.Proofs.YthhaemdpnphhoaaDoor
theorem bl_len (s : ByteArray) : (bl s).length = s.size := by simp [bl]
theorem bt_ne {s : ByteArray} {i : Nat} (hi : i < s.size) (h : bt s i ≠ 47) : (bl s)[i]'(by rw [bl_len]; exact hi) ≠ 47 := by
  intro e
  apply h
  rw [bt_of s i hi]
  have : s[i] = (bl s)[i]'(by rw [bl_len]; exact hi) := rfl
  rw [this, e]
  rfl
theorem bt_eq {s : ByteArray} {i : Nat} (hi : i < s.size) (h : bt s i = 47) : (bl s)[i]'(by rw [bl_len]; exact hi) = 47 := by
  rw [bt_of s i hi] at h
  have : s[i] = (bl s)[i]'(by rw [bl_len]; exact hi) := rfl
  rw [← this]
  exact UInt8.toNat_inj.1 (by have : ((s[i]).toNat : Int) = 47 := h; simp; omega)
/-- the bytes from A up to k -/
theorem sub_bl (s : ByteArray) (A k : Nat) : bl (s.extract A k) = ((bl s).drop A).take (k - A) := by
  simp [bl, ByteArray.data_extract]
theorem sub_no {s : ByteArray} {A k : Nat} (hk : k ≤ s.size) (h : ∀ j, A ≤ j → j < k → bt s j ≠ 47) : (47 : UInt8) ∉ ((bl s).drop A).take (k - A) := by
  intro hm
  obtain ⟨i, hi, e⟩ := List.mem_iff_getElem.1 hm
  rw [List.length_take, List.length_drop, bl_len] at hi
  rw [List.getElem_take, List.getElem_drop] at e
  exact bt_ne (s := s) (i := A + i) (by omega) (h (A + i) (by omega) (by omega)) e
/-- what stands ahead of the byte k: o the parts so far, the next one begins at A -/
def StP (s : ByteArray) (k A : Nat) (o : List ByteArray) : Prop :=
  (k ≤ s.size → 1 ≤ A ∧ A ≤ k ∧ (∀ j, A ≤ j → j < k → bt s j ≠ 47) ∧ o ++ (prt ((bl s).drop A)).map mkT = (prt ((bl s).drop 1)).map mkT) ∧ (s.size < k → o = (prt ((bl s).drop 1)).map mkT) ∧ o.length < k
theorem st_start {s : ByteArray} (h : 1 ≤ s.size) : StP s 1 1 [] :=
  ⟨fun _ => ⟨Nat.le_refl _, Nat.le_refl _, fun j h1 h2 => by omega, rfl⟩, fun h2 => by omega, by simp⟩
theorem st_cut {s : ByteArray} {k A : Nat} {o : List ByteArray} (h : StP s k A o) (hk : k ≤ s.size) (hc : k < s.size → bt s k = 47) : StP s (k + 1) (k + 1) (o ++ [s.extract A k]) := by
  obtain ⟨h1, h2, h3, h4⟩ := h.1 hk
  have hno := sub_no hk h3
  have hx : s.extract A k = mkT (((bl s).drop A).take (k - A)) := bl_inj (by rw [sub_bl])
  refine ⟨fun hk2 => ⟨by omega, Nat.le_refl _, fun j a b => by omega, ?_⟩, fun hk2 => ?_, by simp; exact h.2.2⟩
  · have hd : (bl s).drop A = ((bl s).drop A).take (k - A) ++ 47 :: (bl s).drop (k + 1) := by
      conv => lhs; rw [← List.take_append_drop (k - A) ((bl s).drop A)]
      congr 1
      rw [List.drop_drop, show A + (k - A) = k by omega]
      rw [List.drop_eq_getElem_cons (by rw [bl_len]; omega)]
      rw [bt_eq (by omega) (hc (by omega))]
    rw [← h4, hx]
    conv => rhs; rw [hd, prt_hit _ hno]
    simp
  · have he : k = s.size := by omega
    have hd : ((bl s).drop A).take (k - A) = (bl s).drop A := List.take_of_length_le (by rw [List.length_drop, bl_len]; omega)
    rw [← h4, hx, hd]
    rw [hd] at hno
    rw [prt_none hno]
    simp
theorem st_skip {s : ByteArray} {k A : Nat} {o : List ByteArray} (h : StP s k A o) (hk : k < s.size) (hc : bt s k ≠ 47) : StP s (k + 1) A o := by
  obtain ⟨h1, h2, h3, h4⟩ := h.1 (by omega)
  exact ⟨fun _ => ⟨h1, by omega, fun j a b => by
    rcases Nat.lt_or_eq_of_le (Nat.le_of_lt_succ b) with c | rfl
    · exact h3 j a c
    · exact hc, h4⟩, fun hk2 => by omega, Nat.lt_succ_of_lt h.2.2⟩
theorem tp_stroke {s : ByteArray} (h0 : 0 < s.size) (h : bt s 0 = 47) : tpP s = (prt ((bl s).drop 1)).map mkT := by
  unfold tpP
  have : bl s = 47 :: (bl s).drop 1 := by
    have := List.drop_eq_getElem_cons (l := bl s) (i := 0) (by rw [bl_len]; exact h0)
    rw [bt_eq h0 h] at this
    simpa using this
  conv => lhs; rw [this]
  simp [tpL]
theorem tp_none {s : ByteArray} (h : s.size = 0 ∨ bt s 0 ≠ 47) : tpP s = [] := by
  unfold tpP
  cases e : bl s with
  | nil => rfl
  | cons c r =>
    have hl : 0 < s.size := by rw [← bl_len, e]; simp
    rcases h with h | h
    · omega
    · have hne := bt_ne hl h
      simp only [e, List.getElem_cons_zero] at hne
      simp [tpL, hne]
theorem st_end {s : ByteArray} {A : Nat} {o : List ByteArray} (h : StP s (s.size + 1) A o) (h0 : 0 < s.size) (h1 : bt s 0 = 47) : o = tpP s := by
  rw [tp_stroke h0 h1]
  exact h.2.1 (Nat.lt_succ_self _)
theorem prt_small : ∀ (l : List UInt8), ((prt l).map List.length).sum + (prt l).length = l.length + 1
  | [] => rfl
  | c :: r => by
    have ih := prt_small r
    unfold prt
    split
    · simp; omega
    · split
      · next p q e => rw [e] at ih; simp at ih ⊢; omega
      · next e => exact absurd e (prt_ne r)
theorem le_sum_mem {x : Nat} : ∀ {l : List Nat}, x ∈ l → x ≤ l.sum
  | a :: l, h => by
    rw [List.sum_cons]
    rcases List.mem_cons.1 h with rfl | h
    · omega
    · have := le_sum_mem h; omega
theorem tpL_cons (c : UInt8) (r : List UInt8) : tpL (c :: r) = if c = 47 then prt r else [] := rfl
theorem prt_len (l : List UInt8) : (prt l).length ≤ l.length + 1 := by have := prt_small l; omega
theorem prt_each {l x : List UInt8} (h : x ∈ prt l) : x.length ≤ l.length := by
  have h1 := prt_small l
  have h2 : x.length ≤ ((prt l).map List.length).sum := le_sum_mem (List.mem_map_of_mem h)
  have h3 : 1 ≤ (prt l).length := List.length_pos_iff.2 (prt_ne l)
  omega
theorem tp_small {s : ByteArray} {n : Nat} (hs : s.size ≤ n) : ∀ x ∈ tpP s, x.size ≤ n := by
  intro x hx
  unfold tpP at hx
  obtain ⟨y, hy, rfl⟩ := List.mem_map.1 hx
  have hl := bl_len s
  have : (mkT y).size = y.length := by simp [ByteArray.size]
  rw [this]
  cases e : bl s with
  | nil => rw [e] at hy; simp [tpL] at hy
  | cons c r =>
    rw [e] at hy hl
    rw [tpL_cons] at hy
    split at hy
    · have := prt_each hy
      simp at hl
      omega
    · simp at hy
theorem tp_len {s : ByteArray} : (tpP s).length ≤ s.size := by
  unfold tpP
  rw [List.length_map]
  have hl := bl_len s
  cases e : bl s with
  | nil => simp [tpL]
  | cons c r =>
    rw [e] at hl
    rw [tpL_cons]
    split
    · have := prt_len r
      simp at hl
      omega
    · simp
end Go.Proofs.YthhaemdpnphhoaaDoor
