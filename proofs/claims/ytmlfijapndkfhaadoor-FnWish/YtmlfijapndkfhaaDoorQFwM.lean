/- What is written is read as it: the tokens of a text that was laid together (begun). -/
import Derived.Test.YtmlfijapndkfhaaDoorQReM
namespace Go.Proofs.YtmlfijapndkfhaaDoor
/-- a reading without the places -/
def wsF : List ByteArray → WS → Option WS
  | [], s => if s.many = 0 then none else some s
  | t :: l, s => match wsT (0, t) s with
    | .error _ => none
    | .ok s' => wsF l s'
theorem wsT_place (i j : Nat) (t : ByteArray) (s s' : WS) : wsT (i, t) s = .ok s' ↔ wsT (j, t) s = .ok s' := by
  unfold wsT
  simp only
  repeat' split
  all_goals simp
theorem wsL_F (n : Nat) : ∀ (l : List (Nat × ByteArray)) (s s' : WS), wsL n l s = .ok s' ↔ wsF (l.map (·.2)) s = some s'
  | [], s, s' => by
    unfold wsL
    simp only [List.map_nil]
    unfold wsF
    split <;> simp
  | (i, t) :: l, s, s' => by
    unfold wsL
    simp only [List.map_cons]
    unfold wsF
    cases h : wsT (i, t) s with
    | error e =>
      cases h2 : wsT (0, t) s with
      | error e2 => simp
      | ok s2 => rw [(wsT_place 0 i t s s2).1 h2] at h; cases h
    | ok s2 =>
      rw [(wsT_place i 0 t s s2).1 h]
      exact wsL_F n l s2 s'
/-- the tokens that stand from i on, one blank between two -/
def TkAt (s : ByteArray) : Nat → List ByteArray → Prop
  | i, [] => s.size ≤ i
  | i, t :: l => i + t.size ≤ s.size ∧ s.extract i (i + t.size) = t ∧ 0 < t.size ∧ (∀ j, i ≤ j → j < i + t.size → bt s j ≠ 32) ∧ ((i + t.size = s.size ∧ l = []) ∨ (i + t.size < s.size ∧ bt s (i + t.size) = 32 ∧ TkAt s (i + t.size + 1) l))
theorem tks_at (s : ByteArray) : ∀ (l : List ByteArray) (i : Nat), TkAt s i l → (tks s i).map (·.2) = l
  | [], i, h => by
    have h' : s.size ≤ i := h
    rw [tks_end (by omega)]
    rfl
  | t :: l, i, h => by
    obtain ⟨h1, h2, h3, h4, h5⟩ := h
    have he : enK s i = i + t.size := enK_is (by omega) h1 h4 (by
      rcases h5 with h5 | h5
      · exact .inl h5.1
      · exact .inr h5.2.1)
    rw [tks_tok (by omega) (h4 i (by omega) (by omega)), he, h2, List.map_cons]
    rcases h5 with ⟨h5, rfl⟩ | ⟨h5, h6, h7⟩
    · rw [tks_end (by omega)]
      rfl
    · rw [tks_sp h5 h6, tks_at s l _ h7]
/-- laid together, a blank between two -/
def jn : List ByteArray → ByteArray
  | [] => ⟨#[]⟩
  | [t] => t
  | t :: u :: l => t ++ (wsp ++ jn (u :: l))
theorem bt_pre (p y : ByteArray) (j : Nat) : bt (p ++ y) (p.size + j) = bt y j := by
  have hs : (p ++ y).size = p.size + y.size := ByteArray.size_append
  unfold bt
  by_cases c : j < y.size
  · rw [dif_pos c, dif_pos (by omega)]
    have : (p ++ y)[p.size + j]'(by omega) = y[j] := by
      rw [ByteArray.getElem_append_right (by omega)]
      congr 1
      omega
    rw [this]
  · rw [dif_neg c, dif_neg (by omega)]
theorem bt_in (p y : ByteArray) {j : Nat} (h : j < p.size) : bt (p ++ y) j = bt p j := by
  have hs : (p ++ y).size = p.size + y.size := ByteArray.size_append
  unfold bt
  rw [dif_pos h, dif_pos (by omega)]
  have : (p ++ y)[j]'(by omega) = p[j] := ByteArray.getElem_append_left h
  rw [this]
theorem ex_mid (p t y : ByteArray) : (p ++ (t ++ y)).extract p.size (p.size + t.size) = t := by
  refine ba_ext ?_
  have h1 : p.size = p.data.toList.length := by simp
  have h2 : t.size = t.data.toList.length := by simp
  rw [ByteArray.data_extract, Array.toList_extract, ba_app, ba_app, h1, h2]
  simp
theorem app_assoc (p t y : ByteArray) : p ++ (t ++ y) = p ++ t ++ y := by
  refine ba_ext ?_
  rw [ba_app, ba_app, ba_app, ba_app, List.append_assoc]
theorem tk_jn : ∀ (l : List ByteArray) (p : ByteArray), (∀ t ∈ l, 0 < t.size ∧ ∀ j, j < t.size → bt t j ≠ 32) → TkAt (p ++ jn l) p.size l
  | [], p, _ => by
    show (p ++ jn []).size ≤ p.size
    rw [ByteArray.size_append]
    exact Nat.le_refl _
  | [t], p, h => by
    obtain ⟨h1, h2⟩ := h t (List.mem_singleton.2 rfl)
    have hs : (p ++ t).size = p.size + t.size := ByteArray.size_append
    have he : p ++ t = p ++ (t ++ ⟨#[]⟩) := by
      refine ba_ext ?_
      rw [ba_app, ba_app, ba_app]
      simp
    refine ⟨Nat.le_of_eq hs.symm, ?_, h1, fun j h3 h4 => ?_, .inl ⟨hs.symm, rfl⟩⟩
    · show (p ++ t).extract p.size (p.size + t.size) = t
      rw [he]
      exact ex_mid p t _
    · have := bt_pre p t (j - p.size)
      rw [show p.size + (j - p.size) = j by omega] at this
      show bt (p ++ t) j ≠ 32
      rw [this]
      exact h2 _ (by omega)
  | t :: u :: l, p, h => by
    obtain ⟨h1, h2⟩ := h t (List.mem_cons_self ..)
    have ih := tk_jn (u :: l) (p ++ t ++ wsp) (fun x hx => h x (List.mem_cons_of_mem _ hx))
    have hw : wsp.size = 1 := rfl
    have hp : (p ++ t ++ wsp).size = p.size + t.size + 1 := by rw [ByteArray.size_append, ByteArray.size_append, hw]
    have hs : (p ++ (t ++ (wsp ++ jn (u :: l)))).size = p.size + (t.size + (1 + (jn (u :: l)).size)) := by rw [ByteArray.size_append, ByteArray.size_append, ByteArray.size_append, hw]
    have he : p ++ (t ++ (wsp ++ jn (u :: l))) = p ++ t ++ wsp ++ jn (u :: l) := by rw [app_assoc, app_assoc]
    refine ⟨by show _ ≤ (p ++ (t ++ (wsp ++ jn (u :: l)))).size; rw [hs]; omega, ex_mid p t _, h1, fun j h3 h4 => ?_, .inr ⟨by show _ < (p ++ (t ++ (wsp ++ jn (u :: l)))).size; rw [hs]; omega, ?_, ?_⟩⟩
    · have := bt_pre p (t ++ (wsp ++ jn (u :: l))) (j - p.size)
      rw [show p.size + (j - p.size) = j by omega, bt_in t _ (by omega)] at this
      show bt (p ++ (t ++ (wsp ++ jn (u :: l)))) j ≠ 32
      rw [this]
      exact h2 _ (by omega)
    · show bt (p ++ (t ++ (wsp ++ jn (u :: l)))) (p.size + t.size) = 32
      rw [bt_pre]
      have := bt_pre t (wsp ++ jn (u :: l)) 0
      rw [Nat.add_zero] at this
      rw [this, bt_in wsp _ (by rw [hw]; omega)]
      rfl
    · show TkAt (p ++ (t ++ (wsp ++ jn (u :: l)))) (p.size + t.size + 1) (u :: l)
      rw [he, ← hp]
      exact ih
theorem jn_list : ∀ l : List ByteArray, (jn l).data.toList = Lib.join (l.map (·.data.toList)) [32]
  | [] => rfl
  | [t] => by simp [jn, Lib.join_cons, Lib.joinTail]
  | t :: u :: l => by
    have ih := jn_list (u :: l)
    unfold jn
    rw [ba_app, ba_app, ih]
    simp [Lib.join_cons, Lib.joinTail, wsp]
/-- the text of a wish is its words and names, laid together -/
theorem txt_jn (rn : Nat) (re : Nat → ByteArray) (an : Nat) (av : Nat → ByteArray) : txtB rn re an av = jn (prtL wdR re rn ++ prtL wdA av an) := by
  rw [← txt_join]
  refine ba_ext ?_
  rw [jn_list]
  rfl
/-- .. and so are its tokens -/
theorem tks_txt (rn : Nat) (re : Nat → ByteArray) (an : Nat) (av : Nat → ByteArray) (h : ∀ t ∈ prtL wdR re rn ++ prtL wdA av an, 0 < t.size ∧ ∀ j, j < t.size → bt t j ≠ 32) : (tks (txtB rn re an av) 0).map (·.2) = prtL wdR re rn ++ prtL wdA av an := by
  rw [txt_jn]
  have := tk_jn _ ⟨#[]⟩ h
  have he : (⟨#[]⟩ : ByteArray) ++ jn (prtL wdR re rn ++ prtL wdA av an) = jn (prtL wdR re rn ++ prtL wdA av an) := by
    refine ba_ext ?_
    rw [ba_app]
    rfl
  rw [he] at this
  exact tks_at _ _ _ this
end Go.Proofs.YtmlfijapndkfhaaDoor
