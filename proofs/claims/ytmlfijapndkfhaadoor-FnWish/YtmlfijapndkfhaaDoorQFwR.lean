/- What was read can be written, and is no longer (FnWish). -/
import Derived.Test.YtmlfijapndkfhaaDoorQFwN
namespace Go.Proofs.YtmlfijapndkfhaaDoor
open Go.RowKit
theorem gS_lt {l : List ByteArray} {t : ByteArray} {i : Nat} (h : i < l.length) : gS (l ++ [t]) i = gS l i := by
  unfold gS
  rw [getElem!_pos _ i (by simp; omega), getElem!_pos l i h, List.getElem_append_left h]
theorem gS_at (l : List ByteArray) (t : ByteArray) : gS (l ++ [t]) l.length = t := by
  unfold gS
  rw [getElem!_pos _ l.length (by simp)]
  simp
theorem inS_congr {S T : Nat → ByteArray} {t : ByteArray} {k : Nat} (h : ∀ i, i < k → S i = T i) : inS S t k = inS T t k := by
  induction k with
  | zero => rfl
  | succ k ih =>
    unfold inS
    rw [ih (fun i hi => h i (by omega)), h k (by omega)]
theorem namesB_congr {S T : Nat → ByteArray} {k : Nat} (h : ∀ i, i < k → S i = T i) : namesB S k = namesB T k := by
  induction k with
  | zero => rfl
  | succ k ih =>
    unfold namesB
    rw [ih (fun i hi => h i (by omega)), h k (by omega), inS_congr (fun i hi => h i (by omega))]
theorem namesB_app {l : List ByteArray} {t : ByteArray} (h : namesB (gS l) l.length = true) (ht : nameB (bt t) t.size = true) (hi : inS (gS l) t l.length = false) : namesB (gS (l ++ [t])) (l ++ [t]).length = true := by
  rw [List.length_append, List.length_singleton]
  unfold namesB
  rw [namesB_congr (T := gS l) (fun i hi => gS_lt hi), gS_at, inS_congr (T := gS l) (fun i hi => gS_lt hi), h, ht, hi]
  rfl
theorem oddR_ge {f : Nat → Int} {n : Nat} : ∀ (q i r : Nat), (oddR f n q i r).1 < 0 → (r : Int) ≤ (oddR f n q i r).2
  | 0, i, r, _ => by unfold oddR; exact Int.le_refl _
  | q + 1, i, r, h => by
    unfold oddR at h ⊢
    by_cases hi : i < n
    · rw [if_pos hi] at h ⊢
      cases ho : odB f n i with
      | true => rw [ho, if_pos rfl] at h; simp only at h; omega
      | false =>
        rw [ho, if_neg (by simp)] at h
        rw [if_neg (by simp)]
        have := oddR_ge q _ _ h
        omega
    · rw [if_neg hi]
      exact Int.le_refl _
theorem runes_pos {t : ByteArray} (h0 : 0 < t.size) (h : (oddU (bt t) t.size 0 0).1 < 0) : 1 ≤ (oddU (bt t) t.size 0 0).2 := by
  cases ho : odB (bt t) t.size 0 with
  | true => rw [oddU_odd h0 ho] at h; simp at h
  | false =>
    rw [oddU_go h0 ho] at h ⊢
    exact oddR_ge _ _ _ h
/-- what was read so far: names, none of them twice, none a word -/
structure Gd (s : WS) : Prop where
  ok : WsOk s
  r : namesB (gS s.R) s.R.length = true
  a : namesB (gS s.A) s.A.length = true
  rw : ∀ i, i < s.R.length → isW (gS s.R i) = false
  aw : ∀ i, i < s.A.length → isW (gS s.A i) = false
theorem gd0 : Gd ⟨0, [], []⟩ := ⟨ws0, rfl, rfl, fun _ h => absurd h (Nat.not_lt_zero _), fun _ h => absurd h (Nat.not_lt_zero _)⟩
theorem isw_app {l : List ByteArray} {t : ByteArray} (h : ∀ i, i < l.length → isW (gS l i) = false) (ht : isW t = false) : ∀ i, i < (l ++ [t]).length → isW (gS (l ++ [t]) i) = false := fun i hi => by
  by_cases c : i < l.length
  · rw [gS_lt c]; exact h i c
  · have : i = l.length := by simp at hi; omega
    subst this
    rw [gS_at]; exact ht
/-- the tokens that lead to a state -/
def pre (s : WS) : List ByteArray := (if s.R = [] ∧ s.p ≠ 1 then [] else wdR :: s.R) ++ (if s.p = 2 then wdA :: s.A else [])
theorem step_ok {t : ByteArray} {s s' : WS} (g : Gd s) (h0 : 0 < t.size) (e : wsT (0, t) s = .ok s') : Gd s' ∧ (s.p ≠ 0 → s.p ≠ 0) ∧ (pre s' = (if s.p = 0 then [] else pre s) ++ [t]) ∧ s'.p ≠ 0 := by
  have hk := wsT_ok g.ok e
  have hpp := g.ok.p
  by_cases hO : 0 ≤ (oddU (bt t) t.size 0 0).1
  · rw [wsT_1 hO] at e; cases e
  have hO' : (oddU (bt t) t.size 0 0).1 < 0 := by omega
  by_cases hW : isW t = true
  · by_cases c : nxP t ≤ s.p ∨ s.many = 0
    · rw [wsT_2 hO' hW c] at e; cases e
    · rw [wsT_3 hO' hW c] at e
      cases e
      refine ⟨⟨hk, g.r, g.a, g.rw, g.aw⟩, id, ?_, by have := (nxP_bd t).1; simp only; omega⟩
      rcases isW_of hW with rfl | rfl
      · rw [nx_R] at c ⊢
        have hp : s.p = 0 := by omega
        have hR := g.ok.r0 hp
        simp [pre, hR, hp]
      · rw [nx_A] at c ⊢
        have hA := g.ok.a0 (by omega)
        by_cases hp : s.p = 0
        · have hR := g.ok.r0 hp
          simp [pre, hR, hA, hp]
        · have hp1 : s.p = 1 := by omega
          have hR : s.R ≠ [] := fun h => c (.inr (by unfold WS.many WS.cur; rw [if_neg hp, if_neg (by omega), h]; rfl))
          simp [pre, hR, hA, hp1]
  · have hW' : isW t = false := by simpa using hW
    by_cases hp : s.p = 0
    · rw [wsT_4 hO' hW hp] at e; cases e
    by_cases c1 : 12 < (oddU (bt t) t.size 0 0).2 ∨ s.many = 6
    · rw [wsT_5 hO' hW hp c1] at e; cases e
    by_cases c2 : inS (gS s.cur) t s.cur.length = true
    · rw [wsT_6 hO' hW hp c1 c2] at e; cases e
    rw [wsT_7 hO' hW hp c1 c2] at e
    cases e
    have hN : nameB (bt t) t.size = true := by
      unfold nameB
      have := runes_pos h0 hO'
      simp only [Bool.and_eq_true, decide_eq_true_eq]
      omega
    have c3 : inS (gS s.cur) t s.cur.length = false := by simpa using c2
    by_cases h2 : s.p = 2
    · have hcu : s.cur = s.A := by unfold WS.cur; rw [if_pos h2]
      rw [hcu] at c3
      have e1 : addW s t = { s with A := s.A ++ [t] } := by unfold addW; rw [if_pos h2]
      rw [e1] at hk ⊢
      refine ⟨⟨hk, g.r, namesB_app g.a hN c3, g.rw, isw_app g.aw hW'⟩, id, ?_, hp⟩
      simp [pre, h2]
    · have hcu : s.cur = s.R := by unfold WS.cur; rw [if_neg h2]
      rw [hcu] at c3
      have hp1 : s.p = 1 := by omega
      have e1 : addW s t = { s with R := s.R ++ [t] } := by unfold addW; rw [if_neg h2]
      rw [e1] at hk ⊢
      refine ⟨⟨hk, namesB_app g.r hN c3, g.a, isw_app g.rw hW', g.aw⟩, id, ?_, hp⟩
      simp [pre, hp1]
theorem wsF_ok : ∀ (l : List ByteArray) (s st : WS), (∀ t ∈ l, 0 < t.size) → Gd s → wsF l s = some st → Gd st ∧ st.many ≠ 0 ∧ (if st.p = 0 then [] else pre st) = (if s.p = 0 then [] else pre s) ++ l
  | [], s, st, _, g, e => by
    unfold wsF at e
    split at e
    · cases e
    · rename_i c
      cases e
      exact ⟨g, c, by simp⟩
  | t :: l, s, st, hl, g, e => by
    have e' : (match wsT (0, t) s with | .error _ => none | .ok s' => wsF l s') = some st := e
    cases h : wsT (0, t) s with
    | error x => rw [h] at e'; cases e'
    | ok s' =>
      rw [h] at e'
      obtain ⟨g', _, hp, h0⟩ := step_ok g (hl t (List.mem_cons_self ..)) h
      obtain ⟨h1, h2, h3⟩ := wsF_ok l s' st (fun x hx => hl x (List.mem_cons_of_mem _ hx)) g' e'
      refine ⟨h1, h2, ?_⟩
      rw [h3, if_neg h0, hp]
      simp
theorem enF_end (s : ByteArray) : ∀ q i, s.size - i ≤ q → i ≤ s.size → enF s q i ≤ s.size ∧ (enF s q i = s.size ∨ bt s (enF s q i) = 32)
  | 0, i, h, h1 => by
    unfold enF
    omega
  | q + 1, i, h, h1 => by
    unfold enF
    split
    · exact enF_end s q (i + 1) (by omega) (by omega)
    · rename_i c
      refine ⟨h1, ?_⟩
      by_cases c1 : i < s.size
      · exact .inr (Classical.byContradiction fun c2 => c ⟨c1, c2⟩)
      · exact .inl (by omega)
theorem tk_size {s : ByteArray} : ∀ q i, s.size - i ≤ q → (∀ x ∈ tks s i, 0 < x.2.size) ∧ (jn ((tks s i).map (·.2))).size ≤ s.size - i
  | 0, i, h => by
    rw [tks_end (by omega)]
    exact ⟨fun x hx => (by cases hx), Nat.zero_le _⟩
  | q + 1, i, h => by
    by_cases c : i < s.size
    · by_cases b : bt s i = 32
      · rw [tks_sp c b]
        have := tk_size (s := s) q (i + 1) (by omega)
        exact ⟨this.1, by omega⟩
      · have hg := enK_gt c b
        obtain ⟨h1, h2⟩ := enF_end s (s.size - i) i (Nat.le_refl _) (by omega)
        have he : enF s (s.size - i) i = enK s i := rfl
        rw [he] at h1 h2
        rw [tks_tok c b]
        have hsz : (s.extract i (enK s i)).size = enK s i - i := by simp only [ByteArray.size_extract]; omega
        have ih := tk_size (s := s) q (enK s i) (by omega)
        refine ⟨fun x hx => ?_, ?_⟩
        · rcases List.mem_cons.1 hx with rfl | hx
          · simp only; omega
          · exact ih.1 x hx
        · rw [List.map_cons]
          cases hr : (tks s (enK s i)).map (·.2) with
          | nil =>
            show (s.extract i (enK s i)).size ≤ _
            omega
          | cons u l =>
            have hlt : enK s i < s.size := by
              rcases Nat.lt_or_ge (enK s i) s.size with h3 | h3
              · exact h3
              · rw [tks_end (by omega)] at hr
                cases hr
            have hb : bt s (enK s i) = 32 := by
              rcases h2 with h2 | h2
              · omega
              · exact h2
            have ih2 := (tk_size (s := s) q (enK s i + 1) (by omega)).2
            rw [← tks_sp hlt hb, hr] at ih2
            show (s.extract i (enK s i) ++ (wsp ++ jn (u :: l))).size ≤ _
            have hw : wsp.size = 1 := rfl
            rw [ByteArray.size_append, ByteArray.size_append, hw]
            omega
    · rw [tks_end c]
      exact ⟨fun x hx => (by cases hx), Nat.zero_le _⟩
theorem range_gS (l : List ByteArray) : (List.range l.length).map (gS l) = l := by
  refine List.ext_getElem (by simp) fun i h1 h2 => ?_
  rw [List.getElem_map, List.getElem_range]
  unfold gS
  rw [getElem!_pos l i h2]
theorem prtL_of (wd : ByteArray) (l : List ByteArray) : prtL wd (gS l) l.length = if l = [] then [] else wd :: l := by
  unfold prtL
  cases l with
  | nil => rfl
  | cons t l => rw [if_neg (by simp), if_neg (by simp), range_gS]
theorem hwB_of {l : List ByteArray} (h : ∀ i, i < l.length → isW (gS l i) = false) : hwB (gS l) l.length = false := by
  unfold hwB
  rw [decide_eq_false]
  rintro ⟨i, hi, e⟩
  rw [h i hi] at e
  cases e
/-- what was read can be written -/
theorem rd_wr {s : ByteArray} {st : WS} (h : rwV s = .ok st) : wrB st.R.length (gS st.R) st.A.length (gS st.A) = true ∧ st.R.length ≤ 6 ∧ st.A.length ≤ 6 := by
  unfold rwV at h
  by_cases c : 200 < s.size
  · rw [if_pos c] at h; cases h
  · rw [if_neg c, wsL_F] at h
    obtain ⟨h1, h2⟩ := tk_size (s := s) _ 0 (Nat.le_refl _)
    obtain ⟨g, hm, hp⟩ := wsF_ok _ _ _ (fun t ht => by
      obtain ⟨x, hx, rfl⟩ := List.mem_map.1 ht
      exact h1 x hx) gd0 h
    have hl : prtL wdR (gS st.R) st.R.length ++ prtL wdA (gS st.A) st.A.length = (tks s 0).map (·.2) := by
      have e2 : (tks s 0).map (·.2) = if st.p = 0 then [] else pre st := by rw [hp]; rfl
      rw [e2, prtL_of, prtL_of]
      have h2 := g.ok.p
      by_cases p0 : st.p = 0
      · simp [p0, g.ok.r0 p0, g.ok.a0 (by omega)]
      · by_cases p1 : st.p = 1
        · have hR : st.R ≠ [] := fun e => hm (by unfold WS.many WS.cur; rw [if_neg p0, if_neg (by omega), e]; rfl)
          simp [pre, p1, hR, g.ok.a0 (by omega)]
        · have p2 : st.p = 2 := by omega
          have hA : st.A ≠ [] := fun e => hm (by unfold WS.many WS.cur; rw [if_neg p0, if_pos p2, e]; rfl)
          simp [pre, p2, hA]
    have hr := g.ok.r
    have ha := g.ok.a
    refine ⟨?_, hr, ha⟩
    unfold wrB namB
    rw [txt_jn, hl, g.r, g.a, hwB_of g.rw, hwB_of g.aw]
    simp only [Bool.and_true, Bool.not_false, Bool.and_eq_true, decide_eq_true_eq]
    omega
end Go.Proofs.YtmlfijapndkfhaaDoor
