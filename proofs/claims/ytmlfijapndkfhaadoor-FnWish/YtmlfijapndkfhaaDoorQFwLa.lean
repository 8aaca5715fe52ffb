/- Parts of the law on wishes: the size of what can be written, what is told of a reading. -/
import Derived.Test.YtmlfijapndkfhaaDoorQFwN
import Derived.Test.YtmlfijapndkfhaaDoorQFwR
import Derived.Test.YtmlfijapndkfhaaDoorQReLaw
namespace Go.Proofs.YtmlfijapndkfhaaDoor
open Go.RowKit
theorem jn_mem : ∀ (l : List ByteArray) (t : ByteArray), t ∈ l → t.size ≤ (jn l).size
  | [], t, h => by cases h
  | [u], t, h => by
    have : t = u := by simpa using h
    rw [this]; exact Nat.le_refl _
  | u :: v :: l, t, h => by
    have e : (jn (u :: v :: l)).size = u.size + (wsp.size + (jn (v :: l)).size) := by
      show (u ++ (wsp ++ jn (v :: l))).size = _
      rw [ByteArray.size_append, ByteArray.size_append]
    rw [e]
    rcases List.mem_cons.1 h with rfl | h
    · omega
    · have := jn_mem (v :: l) t h
      omega
theorem prt_mem {wd : ByteArray} {f : Nat → ByteArray} {n i : Nat} (h : i < n) : f i ∈ prtL wd f n := by
  unfold prtL
  rw [if_neg (by omega)]
  exact List.mem_cons_of_mem _ (List.mem_map.2 ⟨i, List.mem_range.2 h, rfl⟩)
theorem wr_sz {rn an : Nat} {re av : Nat → ByteArray} (h : wrB rn re an av = true) : (txtB rn re an av).size ≤ 200 ∧ (∀ i, i < rn → (re i).size ≤ 200) ∧ (∀ i, i < an → (av i).size ≤ 200) := by
  have h2 : (txtB rn re an av).size ≤ 200 := by
    unfold wrB at h
    simp at h
    omega
  refine ⟨h2, fun i hi => ?_, fun i hi => ?_⟩
  · have := jn_mem (prtL wdR re rn ++ prtL wdA av an) (re i) (List.mem_append_left _ (prt_mem hi))
    rw [← txt_jn] at this
    omega
  · have := jn_mem (prtL wdR re rn ++ prtL wdA av an) (av i) (List.mem_append_right _ (prt_mem hi))
    rw [← txt_jn] at this
    omega
theorem SL.congrT {w : World} {a : Option Addr} {n : Nat} {f g : Nat → ByteArray} (h : SL w a n f) (e : ∀ i, i < n → f i = g i) : SL w a n g := fun h0 => by
  obtain ⟨b, o, rfl, hl, hc⟩ := h h0
  exact ⟨b, o, rfl, hl, fun i hi => by rw [← e i hi]; exact hc i hi⟩
theorem gS_map (f : Nat → ByteArray) {n i : Nat} (h : i < n) : gS ((List.range n).map f) i = f i := by
  unfold gS
  rw [getElem!_pos _ i (by simpa using h), List.getElem_map, List.getElem_range]
theorem OrS.cap {w : World} {base : Nat} {a : Option Addr} {n c : Nat} {l : List ByteArray} (h : OrS w base (.slice a n c) l) : n ≤ c := by
  obtain ⟨_, ⟨h1, _⟩ | ⟨g, cap, cur, h1, _, _, h4, _⟩⟩ := h
  · cases h1; exact Nat.le_refl _
  · cases h1; omega
/-- what is told of a text that is read well -/
theorem AnsWr.ok {w w' : World} {e : Ending} {st : WS} (h : AnsWr w w' e (.ok st)) : ∃ ra rc aa ac, e = .returned (wrd ra st.R.length rc aa st.A.length ac 0 0) ∧ SL w' ra st.R.length (gS st.R) ∧ SL w' aa st.A.length (gS st.A) ∧ st.R.length ≤ rc ∧ st.A.length ≤ ac := by
  obtain ⟨ra, rc, aa, ac, rfl, ⟨h1, h2⟩, _, _⟩ := h
  exact ⟨ra, rc, aa, ac, rfl, h1.sl, h2.sl, h1.cap, h2.cap⟩
/-- what is told of any text -/
theorem AnsWr.any {w w' : World} {e : Ending} {r : Except (Nat × Int) WS} (h : AnsWr w w' e r) : ∃ ra n rc aa m ac K X, e = .returned (wrd ra n rc aa m ac K X) := by
  rcases r with ⟨k, x⟩ | s
  · exact ⟨_, _, _, _, _, _, _, _, h⟩
  · obtain ⟨ra, rc, aa, ac, rfl, _⟩ := h
    exact ⟨_, _, _, _, _, _, _, _, rfl⟩
theorem wsT_k {q : Nat × ByteArray} {s : WS} {k : Nat} {x : Int} (e : wsT q s = .error (k, x)) : k ≠ 0 := by
  unfold wsT at e
  repeat' (split at e)
  all_goals first | (cases e; done) | (cases e; decide) | (simp at e; omega)
theorem wsL_k (n : Nat) : ∀ (l : List (Nat × ByteArray)) (s : WS) {k : Nat} {x : Int}, wsL n l s = .error (k, x) → k ≠ 0
  | [], s, k, x, e => by
    unfold wsL at e
    split at e
    · cases e; decide
    · cases e
  | q :: l, s, k, x, e => by
    unfold wsL at e
    cases h : wsT q s with
    | error p =>
      rw [h] at e
      cases e
      exact wsT_k h
    | ok s' =>
      rw [h] at e
      exact wsL_k n l s' e
theorem rwV_k {s : ByteArray} {k : Nat} {x : Int} (e : rwV s = .error (k, x)) : k ≠ 0 := by
  unfold rwV at e
  split at e
  · cases e; decide
  · exact wsL_k _ _ _ e
end Go.Proofs.YtmlfijapndkfhaaDoor
