/- A pattern's parts laid together again; texts alone. -/
import Derived.Test.YthhaemdpnphhoaaDoorTfP
import Derived.Lib.Join
namespace Go.Proofs.YthhaemdpnphhoaaDoor
theorem join_flat : ∀ (xs : List (List UInt8)) (l : List UInt8), Lib.join (l :: xs) [47] = l ++ (xs.map (fun x => 47 :: x)).flatten
  | [], l => by simp [Lib.join, List.intercalate]
  | x :: xs, l => by
    have ih := join_flat xs x
    unfold Lib.join at ih ⊢
    rw [List.intercalate_cons_cons, ih]
    simp
theorem bl_app (a b : ByteArray) : bl (a ++ b) = bl a ++ bl b := by simp [bl]
theorem bl_plT (p : List ByteArray) : bl (plT p) = (p.map (fun x => 47 :: bl (plx x))).flatten := by
  suffices H : ∀ (p : List ByteArray) (q : ByteArray), bl (p.foldl (fun q x => q ++ (⟨#[47]⟩ ++ plx x)) q) = bl q ++ (p.map (fun x => 47 :: bl (plx x))).flatten by
    have := H p ⟨#[]⟩
    unfold plT
    rw [this]
    rfl
  intro p
  induction p with
  | nil => intro q; simp
  | cons x p ih =>
    intro q
    rw [List.foldl_cons, ih, bl_app, bl_app]
    simp [bl]
/-- the parts of a text, all of them -/
def allP (s : ByteArray) : List ByteArray := (prt (bl s)).map mkT
/-- laid together again, a plain part in the place of stars -/
def jnP (s : ByteArray) : ByteArray := mkT (Lib.join (((allP s).map plx).map bl) [47])
theorem allP_stroke {s : ByteArray} (h0 : 0 < s.size) (h : bt s 0 = 47) : allP s = mkT [] :: tpP s := by
  rw [tp_stroke h0 h]
  unfold allP
  have : bl s = 47 :: (bl s).drop 1 := by
    have := List.drop_eq_getElem_cons (l := bl s) (i := 0) (by rw [bl_len]; exact h0)
    rw [bt_eq h0 h] at this
    simpa using this
  conv => lhs; rw [this]
  simp [prt]
theorem plx_nil : plx (mkT []) = mkT [] := by
  unfold plx st1 st2
  have : (mkT []).toList = [] := by rw [Lib.toList_data]
  rw [this]
  rfl
theorem jnP_stroke {s : ByteArray} (h0 : 0 < s.size) (h : bt s 0 = 47) : jnP s = plT (tpP s) := by
  apply bl_inj
  unfold jnP
  rw [allP_stroke h0 h, List.map_cons, List.map_cons, plx_nil, join_flat, bl_plT]
  simp [List.map_map]
  rfl
theorem plx_head {c : UInt8} {l : List UInt8} (hc : c ≠ 47) : ∃ d m, bl (plx (mkT (c :: l))) = d :: m ∧ d ≠ 47 := by
  unfold plx
  split
  · exact ⟨97, [], rfl, by decide⟩
  · exact ⟨c, l, rfl, hc⟩
theorem jnP_none {s : ByteArray} (h : s.size = 0 ∨ bt s 0 ≠ 47) : gtB (jnP s) = false := by
  suffices H : tpP (jnP s) = [] by unfold gtB; rw [H]; simp
  unfold tpP
  rw [List.map_eq_nil_iff]
  unfold jnP allP
  show tpL (Lib.join _ _) = []
  cases e : bl s with
  | nil =>
    show tpL (Lib.join [bl (plx (mkT []))] [47]) = []
    rw [plx_nil, join_flat]
    rfl
  | cons c r =>
    have hl : 0 < s.size := by rw [← bl_len, e]; simp
    have hc : c ≠ 47 := by
      rcases h with h | h
      · omega
      · have hne := bt_ne hl h
        simpa only [e, List.getElem_cons_zero] using hne
    have hp : ∃ p q, prt (c :: r) = (c :: p) :: q := by
      rw [prt, if_neg hc]
      cases e2 : prt r with
      | nil => exact absurd e2 (prt_ne r)
      | cons p q => exact ⟨p, q, rfl⟩
    obtain ⟨p, q, hp⟩ := hp
    rw [hp, List.map_cons, List.map_cons, List.map_cons, join_flat]
    obtain ⟨d, m, hd, hn⟩ := plx_head (l := p) hc
    rw [hd, List.cons_append, tpL_cons, if_neg hn]
theorem allP_len (s : ByteArray) : (allP s).length ≤ s.size + 1 ∧ 1 ≤ (allP s).length := by
  unfold allP
  rw [List.length_map]
  have := prt_len (bl s)
  rw [bl_len] at this
  exact ⟨this, List.length_pos_iff.2 (prt_ne _)⟩
theorem allP_small {s : ByteArray} {n : Nat} (hs : s.size ≤ n) : ∀ x ∈ allP s, x.size ≤ n := by
  intro x hx
  unfold allP at hx
  obtain ⟨y, hy, rfl⟩ := List.mem_map.1 hx
  have h1 := prt_each hy
  rw [bl_len] at h1
  have : (mkT y).size = y.length := by simp [ByteArray.size]
  omega
theorem flat_len (xs : List (List UInt8)) : ((xs.map (fun x => 47 :: x)).flatten).length = (xs.map List.length).sum + xs.length := by
  induction xs with
  | nil => rfl
  | cons x xs ih => simp only [List.map_cons, List.flatten_cons, List.length_append, List.length_cons, List.sum_cons, ih]; omega
theorem jnP_size (s : ByteArray) : (jnP s).size ≤ s.size := by
  have h1 : (jnP s).size = (Lib.join (((allP s).map plx).map bl) [47]).length := by simp [jnP, ByteArray.size]
  rw [h1]
  have h2 := prt_small (bl s)
  rw [bl_len] at h2
  unfold allP
  cases e : prt (bl s) with
  | nil => exact absurd e (prt_ne _)
  | cons p q =>
    rw [e] at h2
    rw [List.map_cons, List.map_cons, List.map_cons, join_flat, List.length_append, flat_len]
    have hx : ∀ l : List UInt8, (bl (plx (mkT l))).length ≤ l.length := fun l => by
      rw [bl_len]
      have := plx_size (mkT l)
      have h3 : (mkT l).size = l.length := by simp [ByteArray.size]
      omega
    have hs : ∀ q : List (List UInt8), ((((q.map mkT).map plx).map bl).map List.length).sum ≤ (q.map List.length).sum := fun q => by
      induction q with
      | nil => simp
      | cons a q ih => simp only [List.map_cons, List.sum_cons]; have := hx a; omega
    have h4 := hx p
    have h5 := hs q
    simp only [List.map_cons, List.sum_cons, List.length_cons] at h2
    have h6 : (((q.map mkT).map plx).map bl).length = q.length := by simp
    omega
/-- does a pattern fit a name, by all parts of both -/
theorem tfB_all (s n : ByteArray) : tfB s n = (gtB (jnP s) && gtB n && fB ((allP s).drop 1) ((allP n).drop 1)) := by
  have hb : ∀ {n : ByteArray}, gtB n = true → 0 < n.size ∧ bt n 0 = 47 := fun {n} h => by
    by_cases e : 0 < n.size ∧ bt n 0 = 47
    · exact e
    · exfalso
      unfold gtB at h
      rw [tp_none (by omega)] at h
      simp at h
  unfold tfB
  by_cases h : 0 < s.size ∧ bt s 0 = 47
  · rw [jnP_stroke h.1 h.2]
    have hne : (tpP s).isEmpty = false := by
      rw [tp_stroke h.1 h.2]
      cases e : prt ((bl s).drop 1) with
      | nil => exact absurd e (prt_ne _)
      | cons a b => rfl
    rw [hne, allP_stroke h.1 h.2]
    cases e : gtB n with
    | false => simp
    | true =>
      obtain ⟨a, b⟩ := hb e
      rw [allP_stroke a b]
      simp
  · rw [jnP_none (by omega), tp_none (by omega)]
    simp
end Go.Proofs.YthhaemdpnphhoaaDoor
