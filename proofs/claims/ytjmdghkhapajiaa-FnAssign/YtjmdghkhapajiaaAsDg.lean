/- A list of lists of the call's own that grows, its rows too. -/
import Derived.Test.YtjmdghkhapajiaaFsM
import Derived.Test.YtjmdghkhapajiaaCurEs
namespace Go.Proofs.Ytjmdghkhapajiaa
open Go.RowKit
def slL (A : Nat → Option Addr) (K C : Nat → Nat) (k : Nat) : List Value := (List.range k).map fun i => .slice (A i) (K i) (C i)
theorem slL_len (A : Nat → Option Addr) (K C : Nat → Nat) (k : Nat) : (slL A K C k).length = k := by simp [slL]
theorem slL_get {A : Nat → Option Addr} {K C : Nat → Nat} {k i : Nat} (h : i < k) : (slL A K C k)[i]? = some (.slice (A i) (K i) (C i)) := by simp [slL, h]
theorem slL_put (A : Nat → Option Addr) (K C : Nat → Nat) (k : Nat) (a : Option Addr) (m c : Nat) : slL (fun i => if i = k then a else A i) (fun i => if i = k then m else K i) (fun i => if i = k then c else C i) (k + 1) = slL A K C k ++ [.slice a m c] := by
  unfold slL
  rw [List.range_succ, List.map_append]
  congr 1
  · refine List.map_congr_left fun i hi => ?_
    have : i ≠ k := by have := List.mem_range.1 hi; omega
    simp [this]
  · simp
theorem own_of {w w' : World} {base : Nat} {v : Value} {k : Nat} {F : Nat → Int} (h : Own w base v k F) (hb : ∀ x, x < w.heap.size → base ≤ x → w'.heap[x]? = w.heap[x]?) : Own w' base v k F := by
  obtain ⟨hl, h⟩ := h
  refine ⟨hl, ?_⟩
  rcases h with h | ⟨g, cap, cur, h1, h2, h3, h4⟩
  · exact .inl h
  · exact .inr ⟨g, cap, cur, h1, h2, (hb g (Array.getElem?_eq_some_iff.1 h3).1 h2).trans h3, h4⟩
theorem own_lower {w : World} {b0 base : Nat} {v : Value} {k : Nat} {F : Nat → Int} (h : Own w base v k F) (hb : b0 ≤ base) : Own w b0 v k F := by
  obtain ⟨hl, h⟩ := h
  refine ⟨hl, ?_⟩
  rcases h with h | ⟨g, cap, cur, h1, h2, h3, h4⟩
  · exact .inl h
  · exact .inr ⟨g, cap, cur, h1, Nat.le_trans hb h2, h3, h4⟩
theorem vL_set (F : Nat → Int) {k j : Nat} (hj : j < k) (x : Int) : (vL F k).set j (.int .i64 x) = vL (put F j x) k := by
  apply List.ext_getElem?
  intro i
  by_cases hi : i < k
  · rw [vL_get hi]
    by_cases e : i = j
    · subst e
      rw [List.getElem?_set_self (by rw [vL_len]; exact hi)]
      simp [Go.Proofs.Ytjmdghkhapajiaa.put]
    · rw [List.getElem?_set_ne (Ne.symm e), vL_get hi]
      simp [Go.Proofs.Ytjmdghkhapajiaa.put, e]
  · rw [List.getElem?_eq_none (by rw [List.length_set, vL_len]; omega), List.getElem?_eq_none (by rw [vL_len]; omega)]
/-- k rows, none empty, each the call's own -/
structure Gt (w : World) (base : Nat) (v : Value) (k : Nat) (A : Nat → Option Addr) (K C : Nat → Nat) (R : Nat → Nat → Int) : Prop where
  own : w.ownsRow base 24 1 v k (slL A K C k)
  row : ∀ i, i < k → Own w base (.slice (A i) (K i) (C i)) (K i) (R i)
  pos : ∀ i, i < k → 0 < K i
  inj : ∀ i j, i < k → j < k → i ≠ j → A i ≠ A j
  ne : ∀ i g, i < k → v.ownBlock = some g → A i ≠ some ⟨g, 0, none⟩
section
variable {w w' : World} {base k : Nat} {v : Value} {A : Nat → Option Addr} {K C : Nat → Nat} {R : Nat → Nat → Int}
theorem gt_nil (w : World) (base : Nat) (A : Nat → Option Addr) (K C : Nat → Nat) (R : Nat → Nat → Int) : Gt w base (.slice none 0 0) 0 A K C R :=
  ⟨World.ownsRow_nil _ _ _ _, fun _ h => absurd h (Nat.not_lt_zero _), fun _ h => absurd h (Nat.not_lt_zero _), fun _ _ h => absurd h (Nat.not_lt_zero _), fun _ _ h => absurd h (Nat.not_lt_zero _)⟩
theorem Gt.of (h : Gt w base v k A K C R) (hb : ∀ x, x < w.heap.size → base ≤ x → w'.heap[x]? = w.heap[x]?) : Gt w' base v k A K C R := by
  refine ⟨?_, fun i hi => own_of (h.row i hi) hb, h.pos, h.inj, h.ne⟩
  obtain ⟨hl, h0⟩ := h.own
  refine ⟨hl, ?_⟩
  rcases h0 with h0 | ⟨g, cap, cur, h1, h2, h3, h4⟩
  · exact .inl h0
  · exact .inr ⟨g, cap, cur, h1, h2, (hb g (Array.getElem?_eq_some_iff.1 h3).1 h2).trans h3, h4⟩
theorem Gt.on (h : Gt w base v k A K C R) (b : Below w.heap.size w w') : Gt w' base v k A K C R := h.of fun x hx _ => b.block x hx
theorem Gt.turns {lo hi : Nat} (h : Gt w base v k A K C R) (o : Turns lo hi w w') (hb : hi ≤ base) : Gt w' base v k A K C R := h.of fun x hx hy => o.block x hx (.inr (by omega))
theorem Gt.at_ (h : Gt w base v k A K C R) {i : Nat} (hi : i < k) : ∃ B, A i = some ⟨B, 0, none⟩ ∧ base ≤ B ∧ IP w B (K i) (R i) := by
  obtain ⟨B, cap, e, h1, h2⟩ := (h.row i hi).some (h.pos i hi)
  exact ⟨B, by injection e, h1, h2⟩
theorem Gt.shape (h : Gt w base v k A K C R) : ∃ a cap, v = .slice a k cap := by
  obtain ⟨_, ⟨rfl, rfl⟩ | ⟨g, cap, cur, rfl, _⟩⟩ := h.own
  · exact ⟨_, _, rfl⟩
  · exact ⟨_, _, rfl⟩
theorem Gt.head (h : Gt w base v k A K C R) (hk : 0 < k) : ∃ g cap, v = .slice (some ⟨g, 0, none⟩) k cap ∧ base ≤ g ∧ g < w.heap.size ∧ k ≤ cap ∧ (∀ i, i < k → w.cell? ⟨g, i, none⟩ = some (.slice (A i) (K i) (C i))) ∧ (∀ i, w.frozen? ⟨g, i, none⟩ = false) := by
  have h' := h.own
  obtain ⟨_, h0 | ⟨g, cap, cur, rfl, h2, h3, h4, _⟩⟩ := h.own
  · omega
  · have hlt : g < w.heap.size := (Array.getElem?_eq_some_iff.1 h3).1
    refine ⟨g, cap, rfl, h2, hlt, h4, fun i hi => ?_, fun i => World.ownsRow.frozenAt h' i⟩
    rw [World.ownsRow.cellAt h' i (by omega)]; exact slL_get hi
theorem Gt.rk {a : Option Addr} {c lo : Nat} (h : Gt w base (.slice a k c) k A K C R) (hl : lo ≤ base) : RK w lo w.heap.size a k K R := fun h0 => by
  obtain ⟨g, cap, e, h1, h2, -, h3, -⟩ := h.head h0
  injection e with e1 e2 e3
  subst e1
  refine ⟨g, A, C, rfl, by omega, h2, h2, h3, fun i hi _ => ?_, fun i j hi hj _ _ hij => h.inj i j hi hj hij⟩
  obtain ⟨B, eA, hB, hP⟩ := h.at_ hi
  have hne := h.ne i g hi rfl
  exact ⟨B, eA, by omega, hP.lt, fun e9 => hne (by rw [eA, e9]), hP⟩
/-- a new row is appended -/
theorem Gt.app (h : Gt w base v k A K C R) {a' : Option Addr} {m c z : Nat} {f : Nat → Int} (hr : Own w z (.slice a' m c) m f) (hm : 0 < m) (hz : base ≤ z) (hAz : ∀ i B, i < k → A i = some ⟨B, 0, none⟩ → B < z) (hvz : ∀ g, v.ownBlock = some g → g < z)
    {v' : Value} {w3 : World} {o : Obj} (ho : w3.ownsRow base 24 1 v' (k + 1) (slL A K C k ++ [.slice a' m c])) (hg : (w.alloc o).grownBy w3 v.ownBlock) (hat : v'.ownBlock = v.ownBlock ∨ v'.ownBlock = some (w.alloc o).heap.size) :
    Gt w3 base v' (k + 1) (fun i => if i = k then a' else A i) (fun i => if i = k then m else K i) (fun i => if i = k then c else C i) (fun i => if i = k then f else R i) := by
  obtain ⟨B', cap', e', hB', hP'⟩ := hr.some hm
  have ea : a' = some ⟨B', 0, none⟩ := by injection e'
  have keep : ∀ {b0 : Nat} {u : Value} {q : Nat} {F : Nat → Int}, Own w b0 u q F → (∀ g, u.ownBlock = some g → v.ownBlock ≠ some g) → Own w3 b0 u q F := fun {b0 u q F} hu hd => by
    obtain ⟨hl, hu⟩ := hu
    refine ⟨hl, ?_⟩
    rcases hu with hu | ⟨g, cap, cur, h1, h2, h3, h4⟩
    · exact .inl hu
    · have hgl : g < w.heap.size := (Array.getElem?_eq_some_iff.1 h3).1
      have e1 : (w.alloc o).heap[g]? = w.heap[g]? := ((Below.refl w.heap.size w).alloc (Nat.le_refl _) o).block g hgl
      exact .inr ⟨g, cap, cur, h1, h2, ((hg.block g (by simp; omega) (fun e => hd g (by rw [h1]; rfl) e.symm)).trans e1).trans h3, h4⟩
  have hlt : ∀ i B, i < k → A i = some ⟨B, 0, none⟩ → B < w.heap.size := fun i B hi e => by
    obtain ⟨B2, e2, _, hP⟩ := h.at_ hi
    rw [e2] at e; injection e with e3; injection e3 with e4; subst e4; exact hP.lt
  refine ⟨by rw [slL_put]; exact ho, fun i hi => ?_, fun i hi => ?_, fun i j hi hj hij => ?_, fun i g hi hvg => ?_⟩
  · by_cases e : i = k
    · subst e
      simp only [if_true]
      refine own_lower (keep hr fun g hg9 => fun e9 => ?_) hz
      rw [ea] at hg9
      have : B' = g := by simpa [Value.ownBlock] using hg9
      have := hvz g e9
      omega
    · simp only [if_neg e]
      refine keep (h.row i (by omega)) fun g hg9 => fun e9 => ?_
      obtain ⟨B, eA, _, _⟩ := h.at_ (i := i) (by omega)
      rw [eA] at hg9
      have : B = g := by simpa [Value.ownBlock] using hg9
      subst this
      exact h.ne i B (by omega) e9 eA
  · by_cases e : i = k
    · subst e; simp only [if_true]; exact hm
    · simp only [if_neg e]; exact h.pos i (by omega)
  · by_cases e : i = k
    · subst e
      simp only [if_true]
      rw [if_neg (Ne.symm hij)]
      intro e2
      have := hAz j B' (by omega) (by rw [← e2, ea])
      omega
    · simp only [if_neg e]
      by_cases e3 : j = k
      · rw [if_pos e3]
        intro e2
        have := hAz i B' (by omega) (by rw [e2, ea])
        omega
      · rw [if_neg e3]; exact h.inj i j (by omega) (by omega) hij
  · have hvg2 : v.ownBlock = some g ∨ g = (w.alloc o).heap.size := by
      rcases hat with h9 | h9
      · exact .inl (by rw [← h9]; exact hvg)
      · right; rw [h9] at hvg; injection hvg with e5; exact e5.symm
    by_cases e : i = k
    · subst e
      simp only [if_true]
      rw [ea]
      intro e2
      have : B' = g := by injection e2 with e3; injection e3
      rcases hvg2 with h9 | h9
      · have := hvz g h9; omega
      · have := hP'.lt; simp at h9; omega
    · simp only [if_neg e]
      rcases hvg2 with h9 | h9
      · exact h.ne i g (by omega) h9
      · intro e2
        have := hlt i g (by omega) e2
        simp at h9; omega
/-- a number of a row is written -/
theorem Gt.put (h : Gt w base v k A K C R) {s j : Nat} (hs : s < k) (hj : j < K s) {B : Nat} (hA : A s = some ⟨B, 0, none⟩) (x : Int) : Gt (w.setCell ⟨B, j, none⟩ (.int .i64 x)) base v k A K C (fun i => if i = s then put (R s) j x else R i) := by
  have hO : Only B w (w.setCell ⟨B, j, none⟩ (.int .i64 x)) := (Only.refl _ _).set j _
  have same : ∀ {b0 : Nat} {t : TypeId} {u : Value} {q sz : Nat} {l : List Value}, w.ownsRow b0 t sz u q l → u.ownBlock ≠ some B → (w.setCell ⟨B, j, none⟩ (.int .i64 x)).ownsRow b0 t sz u q l := fun {b0 t u q sz l} hu hd => by
    obtain ⟨hl, hu⟩ := hu
    refine ⟨hl, ?_⟩
    rcases hu with hu | ⟨g, cap, cur, h1, h2, h3, h4⟩
    · exact .inl hu
    · exact .inr ⟨g, cap, cur, h1, h2, (hO.block g (fun e => hd (by rw [h1, e]; rfl))).trans h3, h4⟩
  refine ⟨same h.own (fun e => h.ne s B hs e hA), fun i hi => ?_, h.pos, h.inj, h.ne⟩
  by_cases e : i = s
  · subst e
    simp only [if_true]
    have hrow := h.row i hi
    rw [hA] at hrow ⊢
    have := (World.ownsRow.stored hrow j (.int .i64 x)).1
    rw [vL_set _ hj] at this
    exact this
  · simp only [if_neg e]
    refine same (h.row i hi) fun e9 => ?_
    obtain ⟨B2, eA, _, _⟩ := h.at_ hi
    rw [eA] at e9
    have : B2 = B := by simpa [Value.ownBlock] using e9
    exact h.inj i s hi hs e (by rw [eA, hA, this])
theorem Gt.tab3 {g cap s : Nat} {w3 : World} (h : Gt w base (.slice (some ⟨g, 0, none⟩) k cap) k A K C R) (hs : s < k) (hg : w.grownBy w3 (Value.slice (A s) (K s) (C s)).ownBlock) : w3.cell? ⟨g, s, none⟩ = some (.slice (A s) (K s) (C s)) ∧ w3.frozen? ⟨g, s, none⟩ = false ∧ g < w3.heap.size ∧ base ≤ g := by
  obtain ⟨g1, cap1, e1, hgb, hgl, -, hcell, hfz⟩ := h.head (by omega)
  injection e1 with e2 e3 e4
  injection e2 with e5
  injection e5 with e6
  subst e6
  obtain ⟨B0, eA0, hb0, hP0⟩ := h.at_ hs
  have hob : (Value.slice (A s) (K s) (C s)).ownBlock = some B0 := by rw [eA0]; rfl
  have hgB0 : g ≠ B0 := fun e => h.ne s g hs rfl (by rw [eA0, e])
  have eg : w3.heap[g]? = w.heap[g]? := hg.block g hgl (by rw [hob]; intro e; injection e with e; exact hgB0 e)
  exact ⟨(cell_same eg _).trans (hcell s hs), (frozen_same eg _).trans (hfz s), Nat.lt_of_lt_of_le hgl hg.size, hgb⟩
/-- a row has grown and is laid in its place again -/
theorem Gt.grown_rk {g cap lo s m c' : Nat} {w3 : World} {a' : Option Addr} {f : Nat → Int} (h : Gt w base (.slice (some ⟨g, 0, none⟩) k cap) k A K C R) (hl : lo ≤ base) (hs : s < k) (hg : w.grownBy w3 (Value.slice (A s) (K s) (C s)).ownBlock)
    (ho : Own w3 base (.slice a' m c') m f) (hm : 0 < m) (hat : (Value.slice a' m c').ownBlock = (Value.slice (A s) (K s) (C s)).ownBlock ∨ (Value.slice a' m c').ownBlock = some w.heap.size) :
    RK (w3.setCell ⟨g, s, none⟩ (.slice a' m c')) lo (w3.setCell ⟨g, s, none⟩ (.slice a' m c')).heap.size (some ⟨g, 0, none⟩) k (fun i => if i = s then m else K i) (fun i => if i = s then f else R i) := fun h0 => by
  obtain ⟨g1, cap1, e1, hgb, hgl, -, hcell, -⟩ := h.head h0
  injection e1 with e2 e3 e4
  injection e2 with e5
  injection e5 with e6
  subst e6
  obtain ⟨B0, eA0, hb0, hP0⟩ := h.at_ hs
  obtain ⟨B', cap', e', hb', hP'⟩ := ho.some hm
  have ea : a' = some ⟨B', 0, none⟩ := by injection e'
  have hob : (Value.slice (A s) (K s) (C s)).ownBlock = some B0 := by rw [eA0]; rfl
  have hgB0 : g ≠ B0 := fun e => h.ne s g hs rfl (by rw [eA0, e])
  have hB' : B' = B0 ∨ B' = w.heap.size := by
    rw [ea, hob] at hat
    rcases hat with h9 | h9
    · left; simpa [Value.ownBlock] using h9
    · right; simpa [Value.ownBlock] using h9
  have hgB' : g ≠ B' := by omega
  have hO : Only g w3 (w3.setCell ⟨g, s, none⟩ (.slice a' m c')) := (Only.refl _ _).set s _
  have eg : w3.heap[g]? = w.heap[g]? := hg.block g hgl (by rw [hob]; intro e; injection e with e; exact hgB0 e)
  refine ⟨g, fun i => if i = s then a' else A i, fun i => if i = s then c' else C i, rfl, by omega, by simp; have := hg.size; omega, by simp; have := hg.size; omega, fun i hi => ?_, fun i hi _ => ?_, fun i j hi hj _ _ hij => ?_⟩
  · by_cases e : i = s
    · subst e
      simp only [if_true]
      exact World.cell?_setCell_same _ _ _ ((cell_same eg _).trans (hcell i hi))
    · simp only [if_neg e]
      exact (World.cell?_setCell_other _ _ _ _ (by simp <;> omega)).trans ((cell_same eg _).trans (hcell i hi))
  · by_cases e : i = s
    · subst e
      simp only [if_true]
      exact ⟨B', ea, by omega, by simp; exact hP'.lt, by omega, hP'.only hO (by omega)⟩
    · simp only [if_neg e]
      obtain ⟨B, eA, hb, hP⟩ := h.at_ hi
      have hBB : B ≠ B0 := fun e9 => h.inj i s hi hs e (by rw [eA, eA0, e9])
      have hgB : g ≠ B := fun e9 => h.ne i g hi rfl (by rw [eA, e9])
      have eb : w3.heap[B]? = w.heap[B]? := hg.block B hP.lt (by rw [hob]; intro e9; injection e9 with e9; exact hBB e9)
      have hP3 : IP w3 B (K i) (R i) := ⟨Nat.lt_of_lt_of_le hP.lt hg.size, fun j hj => (cell_same eb j).trans (hP.c j hj), fun j => (frozen_same eb j).trans (hP.fz j)⟩
      exact ⟨B, eA, by omega, by simp; exact hP3.lt, by omega, hP3.only hO (by omega)⟩
  · have hlt : ∀ i B, i < k → A i = some ⟨B, 0, none⟩ → B < w.heap.size := fun i B hi e => by
      obtain ⟨B2, e2, _, hP⟩ := h.at_ hi
      rw [e2] at e; injection e with e3; injection e3 with e4; subst e4; exact hP.lt
    have hns : ∀ j, j < k → j ≠ s → A j ≠ a' := fun j hj hjs e => by
      rw [ea] at e
      rcases hB' with h9 | h9
      · exact h.inj j s hj hs hjs (by rw [e, eA0, h9])
      · have := hlt j B' hj e; omega
    show (if i = s then a' else A i) ≠ (if j = s then a' else A j)
    by_cases e : i = s
    · subst e; rw [if_pos rfl, if_neg (Ne.symm hij)]; exact fun e9 => hns j hj (Ne.symm hij) e9.symm
    · rw [if_neg e]
      by_cases e3 : j = s
      · rw [if_pos e3]; exact hns i hi e
      · rw [if_neg e3]; exact h.inj i j hi hj hij
end
end Go.Proofs.Ytjmdghkhapajiaa
