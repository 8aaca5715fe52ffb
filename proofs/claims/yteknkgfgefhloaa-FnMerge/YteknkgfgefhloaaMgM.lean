/- Two rising lists of stamped words made one; numbers alone. -/
import Derived.Test.YteknkgfgefhloaaRows
namespace Go.Proofs.Yteknkgfgefhloaa
/-- a stamped word: Time, From, Word -/
abbrev Sw := Int × Int × Int
def kLt (x y : Sw) : Prop := x.1 < y.1 ∨ (x.1 = y.1 ∧ x.2.1 < y.2.1)
instance (x y : Sw) : Decidable (kLt x y) := by unfold kLt; infer_instance
def kEq (x y : Sw) : Prop := x.1 = y.1 ∧ x.2.1 = y.2.1
theorem kLt_tri (x y : Sw) : kLt x y ∨ kEq x y ∨ kLt y x := by unfold kLt kEq; omega
theorem kLt_trans {x y z : Sw} (h : kLt x y) (k : kLt y z) : kLt x z := by unfold kLt at *; omega
theorem kLt_irr (x : Sw) : ¬ kLt x x := by unfold kLt; omega
theorem kLt_eq {x y : Sw} (h : kLt x y) : ¬ kEq x y := by unfold kLt kEq at *; omega
theorem kEq_lt {x y z : Sw} (h : kEq x y) (k : kLt y z) : kLt x z := by unfold kLt kEq at *; omega
theorem sw_ext {x y : Sw} (h : kEq x y) (w : x.2.2 = y.2.2) : x = y := by
  obtain ⟨a, b, c⟩ := x
  obtain ⟨d, e, f⟩ := y
  unfold kEq at h
  simp at h w
  simp [h, w]
/-- each ahead of the next -/
def Ris : List Sw → Prop
  | [] => True
  | x :: l => (∀ y ∈ l, kLt x y) ∧ Ris l
/-- none behind one that should come later -/
def Wk : List Sw → Prop
  | [] => True
  | x :: l => (∀ y ∈ l, ¬ kLt y x) ∧ Wk l
theorem Ris.inj {l : List Sw} (h : Ris l) {x y : Sw} (hx : x ∈ l) (hy : y ∈ l) (e : kEq x y) : x = y := by
  induction l with
  | nil => simp at hx
  | cons z l ih =>
    obtain ⟨h1, h2⟩ := h
    rcases List.mem_cons.1 hx with hx1 | hx1
    · rcases List.mem_cons.1 hy with hy1 | hy1
      · rw [hx1, hy1]
      · subst hx1; exact absurd e (kLt_eq (h1 y hy1))
    · rcases List.mem_cons.1 hy with hy1 | hy1
      · subst hy1; exact absurd (show kEq y x from ⟨e.1.symm, e.2.symm⟩) (kLt_eq (h1 x hx1))
      · exact ih h2 hx1 hy1
theorem ris_ext : ∀ {l m : List Sw}, Ris l → Ris m → (∀ x, x ∈ l ↔ x ∈ m) → l = m
  | [], [], _, _, _ => rfl
  | [], y :: m, _, _, h => absurd ((h y).2 (by simp)) (by simp)
  | x :: l, [], _, _, h => absurd ((h x).1 (by simp)) (by simp)
  | x :: l, y :: m, hl, hm, h => by
    have e : x = y := by
      rcases List.mem_cons.1 ((h x).1 (by simp)) with e | hx
      · exact e
      · rcases List.mem_cons.1 ((h y).2 (by simp)) with e | hy
        · exact e.symm
        · exact absurd (kLt_trans (hm.1 x hx) (hl.1 y hy)) (kLt_irr _)
    subst e
    have hn : x ∉ l := fun q => kLt_irr _ (hl.1 x q)
    have hn' : x ∉ m := fun q => kLt_irr _ (hm.1 x q)
    congr 1
    refine ris_ext hl.2 hm.2 fun z => ?_
    constructor
    · intro hz
      rcases List.mem_cons.1 ((h z).1 (by simp [hz])) with e | hz'
      · subst e; exact absurd hz hn
      · exact hz'
    · intro hz
      rcases List.mem_cons.1 ((h z).2 (by simp [hz])) with e | hz'
      · subst e; exact absurd hz hn'
      · exact hz'
/-- as the model goes -/
def mg : List Sw → List Sw → Option (List Sw)
  | [], b => some b
  | x :: a, [] => some (x :: a)
  | x :: a, y :: b => if kLt x y then (mg a (y :: b)).map (x :: ·) else if kLt y x then (mg (x :: a) b).map (y :: ·) else if x.2.2 = y.2.2 then (mg a b).map (x :: ·) else none
  termination_by a b => a.length + b.length
theorem mg_some : ∀ (a b : List Sw) (m : List Sw), Ris a → Ris b → mg a b = some m → Ris m ∧ ∀ x, x ∈ m ↔ x ∈ a ∨ x ∈ b := by
  intro a b
  induction a, b using mg.induct with
  | case1 b => intro m _ hb h; rw [mg] at h; cases h; exact ⟨hb, fun x => by simp⟩
  | case2 x a => intro m ha _ h; rw [mg] at h; cases h; exact ⟨ha, fun x => by simp⟩
  | case3 x a y b h1 ih =>
    intro m ha hb h
    rw [mg, if_pos h1, Option.map_eq_some_iff] at h
    obtain ⟨m', hm, rfl⟩ := h
    obtain ⟨i1, i2⟩ := ih m' ha.2 hb hm
    refine ⟨⟨fun z hz => ?_, i1⟩, fun z => ?_⟩
    · rcases (i2 z).1 hz with q | q
      · exact ha.1 z q
      · rcases List.mem_cons.1 q with rfl | q
        · exact h1
        · exact kLt_trans h1 (hb.1 z q)
    · simp only [List.mem_cons, i2 z, or_assoc]
  | case4 x a y b h1 h2 ih =>
    intro m ha hb h
    rw [mg, if_neg h1, if_pos h2, Option.map_eq_some_iff] at h
    obtain ⟨m', hm, rfl⟩ := h
    obtain ⟨i1, i2⟩ := ih m' ha hb.2 hm
    refine ⟨⟨fun z hz => ?_, i1⟩, fun z => ?_⟩
    · rcases (i2 z).1 hz with q | q
      · rcases List.mem_cons.1 q with rfl | q
        · exact h2
        · exact kLt_trans h2 (ha.1 z q)
      · exact hb.1 z q
    · rw [List.mem_cons, i2 z, List.mem_cons (a := z) (b := y)]
      constructor
      · rintro (q | q | q)
        · exact .inr (.inl q)
        · exact .inl q
        · exact .inr (.inr q)
      · rintro (q | q | q)
        · exact .inr (.inl q)
        · exact .inl q
        · exact .inr (.inr q)
  | case5 x a y b h1 h2 h3 ih =>
    intro m ha hb h
    rw [mg, if_neg h1, if_neg h2, if_pos h3, Option.map_eq_some_iff] at h
    obtain ⟨m', hm, rfl⟩ := h
    have hk : kEq x y := by rcases kLt_tri x y with q | q | q; exact absurd q h1; exact q; exact absurd q h2
    obtain rfl := sw_ext hk h3
    obtain ⟨i1, i2⟩ := ih m' ha.2 hb.2 hm
    refine ⟨⟨fun z hz => ?_, i1⟩, fun z => ?_⟩
    · rcases (i2 z).1 hz with q | q
      · exact ha.1 z q
      · exact hb.1 z q
    · rw [List.mem_cons, i2 z, List.mem_cons, List.mem_cons]
      constructor
      · rintro (q | q | q)
        · exact .inl (.inl q)
        · exact .inl (.inr q)
        · exact .inr (.inr q)
      · rintro ((q | q) | (q | q))
        · exact .inl q
        · exact .inr (.inl q)
        · exact .inl q
        · exact .inr (.inr q)
  | case6 x a y b h1 h2 h3 => intro m _ _ h; rw [mg, if_neg h1, if_neg h2, if_neg h3] at h; cases h
theorem mg_none : ∀ (a b : List Sw), mg a b = none → ∃ x ∈ a, ∃ y ∈ b, kEq x y ∧ x ≠ y := by
  intro a b
  induction a, b using mg.induct with
  | case1 b => intro h; rw [mg] at h; cases h
  | case2 x a => intro h; rw [mg] at h; cases h
  | case3 x a y b h1 ih =>
    intro h
    rw [mg, if_pos h1, Option.map_eq_none_iff] at h
    obtain ⟨p, hp, q, hq, r⟩ := ih h
    exact ⟨p, by simp [hp], q, hq, r⟩
  | case4 x a y b h1 h2 ih =>
    intro h
    rw [mg, if_neg h1, if_pos h2, Option.map_eq_none_iff] at h
    obtain ⟨p, hp, q, hq, r⟩ := ih h
    exact ⟨p, hp, q, by simp [hq], r⟩
  | case5 x a y b h1 h2 h3 ih =>
    intro h
    rw [mg, if_neg h1, if_neg h2, if_pos h3, Option.map_eq_none_iff] at h
    obtain ⟨p, hp, q, hq, r⟩ := ih h
    exact ⟨p, by simp [hp], q, by simp [hq], r⟩
  | case6 x a y b h1 h2 h3 =>
    intro _
    exact ⟨x, by simp, y, by simp, by rcases kLt_tri x y with q | q | q; exact absurd q h1; exact q; exact absurd q h2, fun e => h3 (by rw [e])⟩
/-- doubles side by side left out -/
def cpt : List Sw → List Sw
  | [] => []
  | [x] => [x]
  | x :: y :: l => if x = y then cpt (y :: l) else x :: cpt (y :: l)
theorem cpt_mem : ∀ (l : List Sw) (x : Sw), x ∈ cpt l ↔ x ∈ l
  | [], _ => by simp [cpt]
  | [y], _ => by simp [cpt]
  | y :: z :: l, x => by
    have ih := cpt_mem (z :: l) x
    rw [cpt]
    split
    · next e => subst e; rw [ih]; simp
    · rw [List.mem_cons, ih]; simp
theorem cpt_ris : ∀ {l : List Sw}, Wk l → (∀ x ∈ l, ∀ y ∈ l, kEq x y → x = y) → Ris (cpt l)
  | [], _, _ => trivial
  | [x], _, _ => ⟨fun y hy => by simp at hy, trivial⟩
  | x :: z :: l, hw, hu => by
    have ih := cpt_ris (l := z :: l) hw.2 (fun p hp q hq => hu p (by simp [hp]) q (by simp [hq]))
    rw [cpt]
    split
    · exact ih
    · next hne =>
      refine ⟨fun y hy => ?_, ih⟩
      have hy' := (cpt_mem (z :: l) y).1 hy
      have hz : kLt x z := by
        rcases kLt_tri x z with q | q | q
        · exact q
        · exact absurd (hu x (by simp) z (by simp) q) hne
        · exact absurd q (hw.1 z (by simp))
      rcases List.mem_cons.1 hy' with rfl | hyl
      · exact hz
      · rcases kLt_tri z y with q | q | q
        · exact kLt_trans hz q
        · have := hu z (by simp) y (by simp [hyl]) q
          subst this; exact hz
        · exact absurd q (hw.2.1 y hyl)
/-- the program's way: all sorted, doubles left out, told where that rises -/
theorem mg_cpt {a b S : List Sw} (ha : Ris a) (hb : Ris b) (hm : ∀ x, x ∈ S ↔ x ∈ a ∨ x ∈ b) (hw : Wk S) : (mg a b = none ∧ ¬ Ris (cpt S)) ∨ (mg a b = some (cpt S) ∧ Ris (cpt S)) := by
  cases e : mg a b with
  | none =>
    refine .inl ⟨rfl, fun hr => ?_⟩
    obtain ⟨x, hx, y, hy, h1, h2⟩ := mg_none a b e
    exact h2 (hr.inj ((cpt_mem S x).2 ((hm x).2 (.inl hx))) ((cpt_mem S y).2 ((hm y).2 (.inr hy))) h1)
  | some m =>
    obtain ⟨h1, h2⟩ := mg_some a b m ha hb e
    have hr : Ris (cpt S) := cpt_ris hw fun x hx y hy k => h1.inj ((h2 x).2 ((hm x).1 hx)) ((h2 y).2 ((hm y).1 hy)) k
    refine .inr ⟨?_, hr⟩
    congr 1
    exact ris_ext h1 hr fun x => by rw [h2 x, cpt_mem, hm x]
end Go.Proofs.Yteknkgfgefhloaa
