/- A text put into a row of texts, or taken out of it, as the library does it. -/
import Derived.Test.YtoleblhidieheaaMoF
namespace Go.Proofs.Ytoleblhidieheaa
open Go.RowKit
def insL (l : List ByteArray) (k : Nat) (p : ByteArray) : List ByteArray := l.take k ++ p :: l.drop k
theorem insL_len {l : List ByteArray} {k : Nat} (p : ByteArray) (hk : k ≤ l.length) : (insL l k p).length = l.length + 1 := by
  unfold insL; simp; omega
theorem insL_lg {l : List ByteArray} {k : Nat} (p : ByteArray) (hk : k ≤ l.length) (i : Nat) : lg (insL l k p) i = if i < k then lg l i else if i = k then p else lg l (i - 1) := by
  unfold insL lg
  simp only [List.getD_eq_getElem?_getD]
  rw [List.getElem?_append]
  have hl : (l.take k).length = k := by simp; omega
  rw [hl]
  by_cases h1 : i < k
  · rw [if_pos h1, if_pos h1, List.getElem?_take_of_lt h1]
  · rw [if_neg h1, if_neg h1]
    by_cases h2 : i = k
    · subst h2; simp
    · rw [if_neg h2]
      obtain ⟨d, hd⟩ : ∃ d, i - k = d + 1 := ⟨i - k - 1, by omega⟩
      rw [hd, List.getElem?_cons_succ, List.getElem?_drop, show k + d = i - 1 by omega]
theorem shape_row {w : World} {b : Nat} {t : TypeId} {n : Nat} {f : Nat → Value} (h : w.rowIs b t n f) : w.shape? b = some (t, n) := by
  obtain ⟨c, hb, hsz, _⟩ := h
  simp [World.shape?, hb, hsz]
theorem map_get {l : List ByteArray} {j : Nat} {v : Value} (h : (l.map Value.string)[j]? = some v) : j < l.length ∧ v = .string (lg l j) := by
  obtain ⟨h1, h2⟩ := List.getElem?_eq_some_iff.1 h
  have h3 : j < l.length := by simpa using h1
  exact ⟨h3, by rw [← h2]; simp [lg, h3]⟩
theorem get_map {l : List ByteArray} {j : Nat} (h : j < l.length) : (l.map Value.string)[j]? = some (.string (lg l j)) := by simp [lg, h]
theorem one_map (l : List ByteArray) : ∀ v ∈ l.map Value.string, v.oneCell' = true := fun v hv => by
  obtain ⟨s, _, rfl⟩ := List.mem_map.1 hv; rfl
theorem one_one (p : ByteArray) : ∀ v ∈ [Value.string p], v.oneCell' = true := fun v hv => by
  simp at hv; subst hv; rfl
theorem one_get {p : ByteArray} {j : Nat} {v : Value} (h : [Value.string p][j]? = some v) : j = 0 ∧ v = .string p := by
  match j, h with
  | 0, h => exact ⟨rfl, by simpa using h.symm⟩
  | j + 1, h => simp at h
theorem row_cells (w : World) (X : Array Value) (t : TypeId) : (w.alloc (.cells X t)).rowIs w.heap.size t X.size (fun j => X[j]?.getD default) :=
  World.rowIs_alloc w X t _ fun i hi => by simp [hi]
theorem txt_cells (X : Array Value) (h : ∀ v ∈ X, ∃ s, v = .string s) (i : Nat) (hi : i < X.size) : ∃ s, X[i]?.getD default = .string s := by
  obtain ⟨s, e⟩ := h X[i] (Array.getElem_mem hi)
  exact ⟨s, by simp [hi, e]⟩
theorem txt_zero {v : Value} {n : Nat} (h : v ∈ Builtin.zeroCells (Value.string ⟨#[]⟩).cells n) : ∃ s, v = .string s := by
  unfold Builtin.zeroCells at h
  rw [Array.mem_map] at h
  obtain ⟨i, _, rfl⟩ := h
  refine ⟨⟨#[]⟩, ?_⟩
  simp [Value.cells, Nat.mod_one]
/-- what Insert tells -/
def AnsIn (w w' : World) (e : Ending) (lo : Nat) (l : List ByteArray) : Prop := ∃ a c, e = .returned (.slice a l.length c) ∧ Fl w' lo a c l ∧ Below lo w w' ∧ w.heap.size ≤ w'.heap.size
theorem ins_any (lo : Nat) (a : Option Addr) (c : Nat) (l : List ByteArray) (k vb vc : Nat) (p : ByteArray) (w : World) (hl : l.length ≤ 1000) (hk : k ≤ l.length) (h : Fl w lo a c l) (hlo : lo ≤ w.heap.size)
    (hv : w.rowIs vb 9 1 (fun _ => .string p)) (hne : ∀ b off, a = some ⟨b, off, none⟩ → vb ≠ b) :
    Calls Try.prog 46 #[.slice a l.length c, .int .i64 (k : Int), .slice (some ⟨vb, 0, none⟩) 1 vc] w fun e w' => AnsIn w w' e lo (insL l k p) := by
  have hvs : ∀ j v, [Value.string p][j]? = some v → w.cell? ⟨vb, 0 + j, none⟩ = some v := fun j v hj => by
    obtain ⟨rfl, rfl⟩ := one_get hj; exact hv.cell (by omega)
  have hil := insL_len p hk
  have h' := h
  obtain ⟨h1, h2, hr⟩ := h
  have h2' : c ≤ 9223372036854775807 := by unfold maxLen at h2; omega
  by_cases hroom : l.length + 1 ≤ c
  · obtain ⟨_, h3⟩ | ⟨b, F, rfl, hb, hrow, hs, hc⟩ := hr
    · omega
    have hcs : ∀ j v, (l.map Value.string)[j]? = some v → w.cell? ⟨b, 0 + j, none⟩ = some v := fun j v hj => by
      obtain ⟨q1, rfl⟩ := map_get hj
      rw [Nat.zero_add, hrow.cell (by omega), hc j q1]
    have hsp : ∀ j, j < l.length + 1 → (w.cell? ⟨b, 0 + j, none⟩).isSome = true := fun j hj => by rw [Nat.zero_add, hrow.cell (by omega)]; rfl
    have hfz : ∀ j, j < l.length + 1 → w.frozen? ⟨b, 0 + j, none⟩ = false := fun j _ => hrow.frozen _
    by_cases hkn : k < l.length
    · have K := Any2.slices_Insert_string_shift Try.ins22 b 0 l.length c k vb 0 1 vc (l.map Value.string) [.string p] w hkn (by omega) hroom h2' (hne b 0 rfl) (by simp) rfl hcs hsp hfz hvs (one_map l) (one_one p) _ _ _ _ (shape_row hv) (shape_row hrow) (by omega) (hv.frozen _) (hv.frozen _)
      refine K.mono fun e w' ⟨he, hw⟩ => ⟨some ⟨b, 0, none⟩, c, by rw [hil]; exact he, ⟨by omega, h2, .inr ⟨b, fun j => if 0 + k ≤ j ∧ j < 0 + k + [Value.string p].length then [Value.string p][j - (0 + k)]?.getD default else (if 0 + (k + 1) ≤ j ∧ j < 0 + (k + 1) + ((l.map Value.string).drop k).length then ((l.map Value.string).drop k)[j - (0 + (k + 1))]?.getD default else F j), rfl, hb, ?_, fun i hi => ?_, fun i hi => ?_⟩⟩, ?_, ?_⟩
      · rw [hw]
        exact rowIs_setCells _ _ _ _ (rowIs_setCells _ _ _ _ (rowIs_below hrow ((Below.refl w.heap.size w).drew) hrow.lt))
      · simp only [Nat.zero_add, List.length_singleton, List.length_drop, List.length_map]
        by_cases q1 : k ≤ i ∧ i < k + 1
        · rw [if_pos q1, show i - k = 0 by omega]; exact ⟨p, rfl⟩
        · rw [if_neg q1]
          by_cases q2 : k + 1 ≤ i ∧ i < k + 1 + (l.length - k)
          · rw [if_pos q2, List.getElem?_drop, get_map (by omega)]; exact ⟨_, rfl⟩
          · rw [if_neg q2]; exact hs i hi
      · rw [hil] at hi
        rw [insL_lg p hk]
        simp only [Nat.zero_add, List.length_singleton, List.length_drop, List.length_map]
        by_cases q1 : k ≤ i ∧ i < k + 1
        · have : i = k := by omega
          subst this
          rw [if_pos q1, Nat.sub_self, if_neg (Nat.lt_irrefl _), if_pos rfl]; rfl
        · rw [if_neg q1]
          by_cases q2 : k + 1 ≤ i ∧ i < k + 1 + (l.length - k)
          · rw [if_pos q2, List.getElem?_drop, show k + (i - (k + 1)) = i - 1 by omega, get_map (by omega), if_neg (by omega), if_neg (by omega)]; rfl
          · rw [if_neg q2, if_pos (by omega)]; exact hc i (by omega)
      · rw [hw]; exact below_setCells hb _ _ _ (below_setCells hb _ _ _ ((Below.refl lo w).drew))
      · rw [hw]; exact (below_setCells (B := 0) (Nat.zero_le _) _ _ _ (below_setCells (Nat.zero_le _) _ _ _ ((Below.refl 0 w).drew))).size
    · have hkn' : k = l.length := by omega
      subst hkn'
      have K := Any2.slices_Insert_string_end_room Try.ins22 b 0 l.length c vb 0 1 vc [.string p] w (by omega) hroom h2' rfl (fun j hj => by rw [Nat.add_assoc]; exact hsp _ (by omega)) (fun j hj => hrow.frozen _) hvs (one_one p)
      refine K.mono fun e w' ⟨he, hw⟩ => ⟨some ⟨b, 0, none⟩, c, by rw [hil]; exact he, ⟨by omega, h2, .inr ⟨b, fun j => if 0 + l.length ≤ j ∧ j < 0 + l.length + [Value.string p].length then [Value.string p][j - (0 + l.length)]?.getD default else F j, rfl, hb, ?_, fun i hi => ?_, fun i hi => ?_⟩⟩, ?_, ?_⟩
      · rw [hw]; exact rowIs_setCells _ _ _ _ hrow
      · simp only [Nat.zero_add, List.length_singleton]
        by_cases q1 : l.length ≤ i ∧ i < l.length + 1
        · rw [if_pos q1, show i - l.length = 0 by omega]; exact ⟨p, rfl⟩
        · rw [if_neg q1]; exact hs i hi
      · rw [hil] at hi
        rw [insL_lg p hk]
        simp only [Nat.zero_add, List.length_singleton]
        by_cases q1 : l.length ≤ i ∧ i < l.length + 1
        · have : i = l.length := by omega
          subst this
          rw [if_pos q1, Nat.sub_self, if_neg (Nat.lt_irrefl _), if_pos rfl]; rfl
        · rw [if_neg q1, if_pos (by omega)]; exact hc i (by omega)
      · rw [hw]; exact below_setCells hb _ _ _ (Below.refl lo w)
      · rw [hw]; exact (below_setCells (B := 0) (Nat.zero_le _) _ _ _ (Below.refl 0 w)).size
  · have hgl := grownCap_le_maxLen w (l.length + 1) c 9 (by unfold maxLen; omega)
    have hgg := grownCap_ge w (l.length + 1) c 9
    by_cases hkn : k < l.length
    · obtain ⟨_, h3⟩ | ⟨b, F, rfl, hb, hrow, hs, hc⟩ := hr
      · omega
      have hcs : ∀ j v, (l.map Value.string)[j]? = some v → w.cell? ⟨b, 0 + j, none⟩ = some v := fun j v hj => by
        obtain ⟨q1, rfl⟩ := map_get hj
        rw [Nat.zero_add, hrow.cell (by omega), hc j q1]
      have hcp : (((l.map Value.string).take k).toArray ++ Builtin.zeroCells (Value.string ⟨#[]⟩).cells (l.length + 1 - k) ++ Builtin.zeroCells (Value.string ⟨#[]⟩).cells (grownCap w (l.length + 1) c 9 - (l.length + 1))).size = grownCap w (l.length + 1) c 9 := by
        simp [size_zeroCells, Value.cells]; omega
      have K := Any2.slices_Insert_string_grow Try.ins22 b 0 l.length c k vb 0 1 vc (l.map Value.string) [.string p] w hkn (by omega) h1 (by omega) (by omega) (by simp) rfl hcs hvs (one_map l) (one_one p)
      rw [show Try.ins22_ren.t 9 = 9 from rfl] at K
      have hnew := row_cells w (((l.map Value.string).take k).toArray ++ Builtin.zeroCells (Value.string ⟨#[]⟩).cells (l.length + 1 - k) ++ Builtin.zeroCells (Value.string ⟨#[]⟩).cells (grownCap w (l.length + 1) c 9 - (l.length + 1))) 9
      rw [hcp] at hnew
      have hst : ∀ i, i < grownCap w (l.length + 1) c 9 → ∃ s, (((l.map Value.string).take k).toArray ++ Builtin.zeroCells (Value.string ⟨#[]⟩).cells (l.length + 1 - k) ++ Builtin.zeroCells (Value.string ⟨#[]⟩).cells (grownCap w (l.length + 1) c 9 - (l.length + 1)))[i]?.getD default = .string s := fun i hi => by
        refine txt_cells _ ?_ i (by rw [hcp]; exact hi)
        intro v hv
        simp only [Array.mem_append] at hv
        rcases hv with (hv | hv) | hv
        · have hv' : v ∈ (l.map Value.string).take k := by simpa using hv
          obtain ⟨s, _, rfl⟩ := List.mem_map.1 (List.mem_of_mem_take hv'); exact ⟨s, rfl⟩
        · exact txt_zero hv
        · exact txt_zero hv
      have hat : ∀ i, i < k → (((l.map Value.string).take k).toArray ++ Builtin.zeroCells (Value.string ⟨#[]⟩).cells (l.length + 1 - k) ++ Builtin.zeroCells (Value.string ⟨#[]⟩).cells (grownCap w (l.length + 1) c 9 - (l.length + 1)))[i]?.getD default = .string (lg l i) := fun i hi => by
        have hl1 : i < (((l.map Value.string).take k).toArray).size := by simp; omega
        rw [Array.getElem?_append_left (by rw [Array.size_append]; omega), Array.getElem?_append_left hl1]
        rw [List.getElem?_toArray, List.getElem?_take_of_lt hi, get_map (by omega)]; rfl
      generalize (((l.map Value.string).take k).toArray ++ Builtin.zeroCells (Value.string ⟨#[]⟩).cells (l.length + 1 - k) ++ Builtin.zeroCells (Value.string ⟨#[]⟩).cells (grownCap w (l.length + 1) c 9 - (l.length + 1))) = X at hnew hst hat K
      generalize grownCap w (l.length + 1) c 9 = c2 at *
      refine K.mono fun e w' ⟨he, hw⟩ => ⟨some ⟨w.heap.size, 0, none⟩, c2, by rw [hil]; exact he, ⟨by omega, hgl, .inr ⟨w.heap.size, fun j => if k + 1 ≤ j ∧ j < k + 1 + ((l.map Value.string).drop k).length then ((l.map Value.string).drop k)[j - (k + 1)]?.getD default else (if k ≤ j ∧ j < k + [Value.string p].length then [Value.string p][j - k]?.getD default else X[j]?.getD default), rfl, hlo, ?_, fun i hi => ?_, fun i hi => ?_⟩⟩, ?_, ?_⟩
      · rw [hw]
        exact rowIs_setCells _ _ _ _ (World.rowIs.of_block (rowIs_setCells _ _ _ _ (World.rowIs.of_block hnew rfl)) rfl)
      · simp only [List.length_singleton, List.length_drop, List.length_map]
        by_cases q2 : k + 1 ≤ i ∧ i < k + 1 + (l.length - k)
        · rw [if_pos q2, List.getElem?_drop, get_map (by omega)]; exact ⟨_, rfl⟩
        · rw [if_neg q2]
          by_cases q1 : k ≤ i ∧ i < k + 1
          · rw [if_pos q1, show i - k = 0 by omega]; exact ⟨p, rfl⟩
          · rw [if_neg q1]; exact hst i hi
      · rw [hil] at hi
        rw [insL_lg p hk]
        simp only [List.length_singleton, List.length_drop, List.length_map]
        by_cases q2 : k + 1 ≤ i ∧ i < k + 1 + (l.length - k)
        · rw [if_pos q2, List.getElem?_drop, show k + (i - (k + 1)) = i - 1 by omega, get_map (by omega), if_neg (by omega), if_neg (by omega)]; rfl
        · rw [if_neg q2]
          by_cases q1 : k ≤ i ∧ i < k + 1
          · have : i = k := by omega
            subst this
            rw [if_pos q1, Nat.sub_self, if_neg (Nat.lt_irrefl _), if_pos rfl]; rfl
          · rw [if_neg q1, if_pos (by omega)]; exact hat i (by omega)
      · rw [hw]; exact below_setCells hlo _ _ _ (Below.drew (below_setCells hlo _ _ _ (Below.drew ((Below.refl lo w).alloc hlo _))))
      · rw [hw]; exact (below_setCells (B := 0) (Nat.zero_le _) _ _ _ (Below.drew (below_setCells (Nat.zero_le _) _ _ _ (Below.drew ((Below.refl 0 w).alloc (Nat.zero_le _) _))))).size
    · have hkn' : k = l.length := by omega
      subst hkn'
      have hcp : ((l.map Value.string ++ [Value.string p]).toArray ++ Builtin.zeroCells (Value.string ⟨#[]⟩).cells (grownCap w (l.length + 1) c 9 - (l.length + 1))).size = grownCap w (l.length + 1) c 9 := by
        simp [size_zeroCells, Value.cells]; omega
      have K := Any2.slices_Insert_string_end_grow Try.ins22 a l.length c vb 0 1 vc (l.map Value.string) [.string p] w (by omega) h1 (by omega) (by omega) (by simp) rfl (fun e => by
          obtain ⟨_, h3⟩ | ⟨b, F, q, _⟩ := hr
          · omega
          · rw [e] at q; cases q) (fun a0 e j v hj => by
          obtain ⟨q, _⟩ | ⟨b, F, q, hb, hrow, hs, hc⟩ := hr
          · rw [e] at q; cases q
          · rw [e] at q
            cases q
            obtain ⟨q1, rfl⟩ := map_get hj
            have : (⟨b, 0, none⟩ : Addr).add j = ⟨b, j, none⟩ := by
              unfold Addr.add
              by_cases z : j = 0
              · subst z; rfl
              · simp [z]
            rw [this, hrow.cell (by omega), hc j q1]) hvs (one_one p)
      rw [show Try.ins22_ren.t 9 = 9 from rfl] at K
      have hnew := row_cells w.drew ((l.map Value.string ++ [Value.string p]).toArray ++ Builtin.zeroCells (Value.string ⟨#[]⟩).cells (grownCap w (l.length + 1) c 9 - (l.length + 1))) 9
      rw [hcp] at hnew
      have hst : ∀ i, i < grownCap w (l.length + 1) c 9 → ∃ s, ((l.map Value.string ++ [Value.string p]).toArray ++ Builtin.zeroCells (Value.string ⟨#[]⟩).cells (grownCap w (l.length + 1) c 9 - (l.length + 1)))[i]?.getD default = .string s := fun i hi => by
        refine txt_cells _ ?_ i (by rw [hcp]; exact hi)
        intro v hv
        simp only [Array.mem_append] at hv
        rcases hv with hv | hv
        · have hv' : v ∈ l.map Value.string ++ [Value.string p] := by simpa using hv
          rcases List.mem_append.1 hv' with hv' | hv'
          · obtain ⟨s, _, rfl⟩ := List.mem_map.1 hv'; exact ⟨s, rfl⟩
          · simp at hv'; exact ⟨p, hv'⟩
        · exact txt_zero hv
      have hat : ∀ i, i < l.length + 1 → ((l.map Value.string ++ [Value.string p]).toArray ++ Builtin.zeroCells (Value.string ⟨#[]⟩).cells (grownCap w (l.length + 1) c 9 - (l.length + 1)))[i]?.getD default = .string (lg (insL l l.length p) i) := fun i hi => by
        rw [Array.getElem?_append_left (by simp; omega), List.getElem?_toArray]
        have e9 : l.map Value.string ++ [Value.string p] = (insL l l.length p).map Value.string := by unfold insL; simp
        rw [e9, get_map (by omega)]; rfl
      generalize ((l.map Value.string ++ [Value.string p]).toArray ++ Builtin.zeroCells (Value.string ⟨#[]⟩).cells (grownCap w (l.length + 1) c 9 - (l.length + 1))) = X at hnew hst hat K
      generalize grownCap w (l.length + 1) c 9 = c2 at *
      refine K.mono fun e w' ⟨he, hw⟩ => ⟨some ⟨w.heap.size, 0, none⟩, c2, by rw [hil]; exact he, ⟨by omega, hgl, .inr ⟨w.heap.size, fun j => X[j]?.getD default, rfl, hlo, ?_, hst, fun i hi => hat i (by omega)⟩⟩, ?_, ?_⟩
      · rw [hw]; exact hnew
      · rw [hw]; exact ((Below.refl lo w).drew).alloc hlo _
      · rw [hw]; exact (((Below.refl 0 w).drew).alloc (Nat.zero_le _) _).size
/-- what Delete tells -/
theorem del_any (lo : Nat) (a : Option Addr) (c : Nat) (l : List ByteArray) (k : Nat) (w : World) (hl : l.length ≤ 1000) (hk : k < l.length) (h : Fl w lo a c l) :
    Calls Try.prog 49 #[.slice a l.length c, .int .i64 (k : Int), .int .i64 ((k + 1 : Nat) : Int)] w fun e w' => AnsIn w w' e lo (l.take k ++ l.drop (k + 1)) := by
  obtain ⟨h1, h2, ⟨_, h3⟩ | ⟨b, F, rfl, hb, hrow, hs, hc⟩⟩ := h
  · omega
  have h2' : c ≤ 9223372036854775807 := by unfold maxLen at h2; omega
  have hzl : (l.map (fun s : ByteArray => s.data.toList)).length = l.length := by simp
  have hH : Go.Sort.Holds encStr w b 0 (l.map (fun s : ByteArray => s.data.toList)).toArray := by
    intro j hj
    have hj' : j < l.length := by simpa using hj
    refine ⟨?_, hrow.frozen _⟩
    rw [Nat.zero_add, hrow.cell (by omega), hc j hj']
    simp [lg, hj']
  have K := Any.slices_Delete_string Try.del24 b 0 c k (k + 1) (l.map (fun s : ByteArray => s.data.toList)) w hH (by rw [hzl]; exact h1) h2' (by omega) (by rw [hzl]; omega)
  rw [hzl] at K
  have hll : (l.take k ++ l.drop (k + 1)).length = l.length - 1 := by simp; omega
  refine K.mono fun e w' ⟨he, q, hw⟩ => ?_
  have hys : ((l.map (fun s : ByteArray => s.data.toList)).take k ++ (l.map (fun s : ByteArray => s.data.toList)).drop (k + 1) ++ List.replicate (k + 1 - k) []).length = (l.map (fun s : ByteArray => s.data.toList)).toArray.size := by simp; omega
  rw [Go.Lib.putRow_eq_setCells encStr w b 0 _ _ q hH hys] at hw
  have hmap : ((l.map (fun s : ByteArray => s.data.toList)).take k ++ (l.map (fun s : ByteArray => s.data.toList)).drop (k + 1) ++ List.replicate (k + 1 - k) []).map encStr = (l.take k ++ l.drop (k + 1)).map Value.string ++ [.string ⟨#[]⟩] := by
    rw [show k + 1 - k = 1 by omega, ← List.map_take, ← List.map_drop, List.map_append, List.map_append, List.map_append, List.map_map, List.map_map]
    rfl
  rw [hmap] at hw
  obtain ⟨G, hG⟩ : ∃ G : Nat → Value, G = fun j => if 0 ≤ j ∧ j < 0 + ((l.take k ++ l.drop (k + 1)).map Value.string ++ [Value.string ⟨#[]⟩]).length then ((l.take k ++ l.drop (k + 1)).map Value.string ++ [Value.string ⟨#[]⟩])[j - 0]?.getD default else F j := ⟨_, rfl⟩
  refine ⟨some ⟨b, 0, none⟩, c, by rw [hll, he]; simp, ⟨by omega, h2, .inr ⟨b, G, rfl, hb, ?_, fun i hi => ?_, fun i hi => ?_⟩⟩, ?_, ?_⟩
  · rw [hw, hG]; exact rowIs_setCells _ _ _ _ (World.rowIs.of_block hrow rfl)
  · simp only [hG]
    by_cases q1 : 0 ≤ i ∧ i < 0 + ((l.take k ++ l.drop (k + 1)).map Value.string ++ [Value.string ⟨#[]⟩]).length
    · rw [if_pos q1, Nat.sub_zero]
      have q2 : i < ((l.take k ++ l.drop (k + 1)).map Value.string ++ [Value.string ⟨#[]⟩]).length := by omega
      rw [List.getElem?_eq_getElem q2]
      have hm := List.getElem_mem q2
      rcases List.mem_append.1 hm with hm | hm
      · obtain ⟨s, _, e9⟩ := List.mem_map.1 hm; exact ⟨s, e9.symm⟩
      · exact ⟨_, List.mem_singleton.1 hm⟩
    · rw [if_neg q1]; exact hs i hi
  · simp only [hG]
    rw [if_pos ⟨Nat.zero_le _, by rw [List.length_append, List.length_map, List.length_singleton]; omega⟩, Nat.sub_zero, List.getElem?_append_left (by rw [List.length_map]; exact hi), get_map hi]; rfl
  · rw [hw]; exact below_setCells hb _ _ _ (below_dr (Below.refl lo w) q)
  · rw [hw]; exact (below_setCells (B := 0) (Nat.zero_le _) _ _ _ (below_dr (Below.refl 0 w) q)).size
end Go.Proofs.Ytoleblhidieheaa
