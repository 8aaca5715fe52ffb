/- What stands while frames and talkers are drawn. -/
import Derived.Test.YtldagjgpapnfpaaQBuFb
import Derived.Test.YtldagjgpapnfpaaQBuSM
namespace Go.Proofs.Ytldagjgpapnfpaa
open Go.RowKit
def pt {α : Type} (f : Nat → α) (k : Nat) (x : α) (i : Nat) : α := if i = k then x else f i
theorem pt_at {α : Type} (f : Nat → α) (k : Nat) (x : α) : pt f k x k = x := if_pos rfl
theorem pt_lt {α : Type} (f : Nat → α) {k i : Nat} (x : α) (h : i < k) : pt f k x i = f i := if_neg (by omega)
section
variable {w w' : World} {lo hi lo' hi' base : Nat}
theorem owns_tn {e : TypeId} {sz n : Nat} {v : Value} {xs : List Value} (h : w.ownsRow base e sz v n xs) (T : Turns lo hi w w') (hd : hi ≤ base) : w'.ownsRow base e sz v n xs := by
  obtain ⟨hl, h⟩ := h
  refine ⟨hl, ?_⟩
  rcases h with h | ⟨g, cap, cur, h1, h2, h3, h4⟩
  · exact .inl h
  · have hg : g < w.heap.size := (Array.getElem?_eq_some_iff.1 h3).1
    exact .inr ⟨g, cap, cur, h1, h2, (T.block g hg (.inr (by omega))).trans h3, h4⟩
theorem YR.turns {a : Option Addr} {n : Nat} {S : Nat → Int} (h : YR w lo hi a n S) (k : Turns lo' hi' w w') (hd : hi ≤ lo' ∨ hi' ≤ lo) : YR w' lo hi a n S := h.of k.size fun x h1 _ _ => k.block x h1 (by omega)
theorem YR.fit {a : Option Addr} {n : Nat} {S : Nat → Int} (h : YR w lo hi a n S) : YR w lo w.heap.size a n S := fun h0 => by
  obtain ⟨b, off, e, h1, _, h3, hc⟩ := h h0
  exact ⟨b, off, e, h1, h3, h3, hc⟩
theorem frC_cong {I I' : Nat → Int} {A A' : Nat → Option Addr} {N N' C C' : Nat → Nat} {k : Nat} (h : ∀ i, i < k → I i = I' i ∧ A i = A' i ∧ N i = N' i ∧ C i = C' i) : frC I A N C k = frC I' A' N' C' k := by
  induction k with
  | zero => rfl
  | succ k ih =>
    obtain ⟨e1, e2, e3, e4⟩ := h k (Nat.lt_succ_self _)
    rw [frC, frC, ih (fun i hi => h i (by omega)), e1, e2, e3, e4]
theorem tkC_cong {t t' : Tks} {QA QA' : Nat → Option Addr} {QC QC' : Nat → Nat} {k : Nat} (h : ∀ i, i < k → QA i = QA' i ∧ t.qm i = t'.qm i ∧ QC i = QC' i ∧ t.sh i = t'.sh i ∧ t.er i = t'.er i ∧ t.of i = t'.of i) : tkC t QA QC k = tkC t' QA' QC' k := by
  induction k with
  | zero => rfl
  | succ k ih =>
    obtain ⟨e1, e2, e3, e4, e5, e6⟩ := h k (Nat.lt_succ_self _)
    rw [tkC, tkC, ih (fun i hi => h i (by omega)), e1, e2, e3, e4, e5, e6]
end
/-- frames drawn so far, in a row that grows -/
structure DqP (base : Nat) (wr : World) (v : Value) (k : Nat) (I : Nat → Int) (N : Nat → Nat) (S : Nat → Nat → Int) (A : Nat → Option Addr) (C LO HI : Nat → Nat) : Prop where
  own : wr.ownsRow base 54 2 v k (frC I A N C k)
  q : ∀ j, j < k → YR wr (LO j) (HI j) (A j) (N j) (S j) ∧ Shp (A j) (N j) (C j) ∧ (base ≤ LO j ∧ HI j ≤ wr.heap.size) ∧ (∀ b, v.ownBlock = some b → b < LO j ∨ HI j ≤ b) ∧ N j ≤ 9
section
variable {base lo hi : Nat} {w w' : World} {v v' : Value} {k : Nat} {I : Nat → Int} {N : Nat → Nat} {S : Nat → Nat → Int} {A : Nat → Option Addr} {C LO HI : Nat → Nat}
theorem DqP.tn (h : DqP base w v k I N S A C LO HI) (T : Turns lo hi w w') (hd : hi ≤ base) : DqP base w' v k I N S A C LO HI :=
  ⟨owns_tn h.own T hd, fun j hj => by
    obtain ⟨h1, h2, h3, h4, h5⟩ := h.q j hj
    exact ⟨h1.turns T (.inr (by omega)), h2, ⟨h3.1, Nat.le_trans h3.2 T.size⟩, h4, h5⟩⟩
theorem DqP.shape (h : DqP base w v k I N S A C LO HI) : ∃ a c, v = .slice a k c ∧ Shp a k c := by
  obtain ⟨_, ⟨rfl, h0⟩ | ⟨g, cap, cur, rfl, _, _, h4, _⟩⟩ := h.own
  · exact ⟨none, 0, by rw [h0], by rw [h0]; exact shp_none⟩
  · exact ⟨_, _, rfl, shp_at _ _ h4⟩
theorem DqP.nil (w : World) (base : Nat) : DqP base w (.slice none 0 0) 0 (fun _ => 0) (fun _ => 0) (fun _ _ => 0) (fun _ => none) (fun _ => 0) (fun _ => 0) (fun _ => 0) := ⟨World.ownsRow_nil _ _ _ _, fun _ hj => absurd hj (Nat.not_lt_zero _)⟩
theorem DqP.end {a : Option Addr} {c : Nat} (h : DqP base w (.slice a k c) k I N S A C LO HI) : FrR w base w.heap.size a k I N S := by
  refine ⟨A, C, fun h0 => ?_, fun j hj => ?_⟩
  · have ho := h.own
    obtain ⟨_, ⟨_, h1⟩ | ⟨g, cap, cur, h1, h2, h3, h4, _⟩⟩ := h.own
    · omega
    · cases h1
      refine ⟨g, 0, rfl, h2, (Array.getElem?_eq_some_iff.1 h3).1, (Array.getElem?_eq_some_iff.1 h3).1, fun j hj => ?_⟩
      have hl := frC_len (I := I) (A := A) (N := N) (C := C) k
      rw [Nat.zero_add]
      exact ⟨(World.ownsRow.cellAt ho _ (by omega)).trans (frC_get hj).1, (World.ownsRow.cellAt ho _ (by omega)).trans (frC_get hj).2⟩
  · obtain ⟨h1, h2, h3, _, _⟩ := h.q j hj
    exact ⟨h1.wide h3.1 h3.2, h2⟩
/-- one more frame -/
theorem DqP.put {w5 w6 : World} {o : Obj} {W : Int} {a' : Option Addr} {n' c' l1 h1' : Nat} {f : Nat → Int} (h5 : DqP base w5 v k I N S A C LO HI) (hnew : ∀ b, v.ownBlock = some b → b < l1 ∨ h1' ≤ b) (hbl : base ≤ l1) (hhi : h1' ≤ w5.heap.size) (hy : YR w5 l1 h1' a' n' f) (hs : Shp a' n' c') (h9 : n' ≤ 9)
    (ho : w6.ownsRow base 54 2 v' (k + 1) (frC I A N C k ++ [.int .i64 W, .slice a' n' c'])) (hg : (w5.alloc o).grownBy w6 v.ownBlock) (hat : v'.ownBlock = v.ownBlock ∨ v'.ownBlock = some (w5.alloc o).heap.size) :
    DqP base w6 v' (k + 1) (pt I k W) (pt N k n') (pt S k f) (pt A k a') (pt C k c') (pt LO k l1) (pt HI k h1') := by
  have hz6 := hg.size
  simp only [size_al] at hz6
  have kept : ∀ {lo' hi' : Nat} {a : Option Addr} {m : Nat} {f : Nat → Int}, (∀ b, v.ownBlock = some b → b < lo' ∨ hi' ≤ b) → YR w5 lo' hi' a m f → YR w6 lo' hi' a m f := fun hne hq =>
    (hq.of ((Below.refl w5.heap.size w5).alloc (Nat.le_refl _) o).size fun x hx _ _ => ((Below.refl w5.heap.size w5).alloc (Nat.le_refl _) o).block x hx).of hg.size fun x hx h1 h2 => hg.block x hx (fun e => by have := hne x e.symm; omega)
  have nb : ∀ lo' hi', hi' ≤ w5.heap.size → (∀ b, v.ownBlock = some b → b < lo' ∨ hi' ≤ b) → ∀ b, v'.ownBlock = some b → b < lo' ∨ hi' ≤ b := fun lo' hi' hh hne b e => by
    rcases hat with h1 | h1
    · exact hne b (h1.symm.trans e)
    · rw [h1] at e
      have := Option.some.inj e
      simp only [size_al] at this
      omega
  refine ⟨?_, fun j hj => ?_⟩
  · rw [frC, pt_at, pt_at, pt_at, pt_at, ← frC_cong (I := I) (A := A) (N := N) (C := C) (fun i hi => ⟨(pt_lt I W hi).symm, (pt_lt A a' hi).symm, (pt_lt N n' hi).symm, (pt_lt C c' hi).symm⟩)]
    exact ho
  · by_cases e : j = k
    · subst e
      simp only [pt_at]
      exact ⟨kept hnew hy, hs, ⟨hbl, by omega⟩, nb l1 h1' hhi hnew, h9⟩
    · have hj' : j < k := by omega
      rw [pt_lt LO l1 hj', pt_lt HI h1' hj', pt_lt A a' hj', pt_lt N n' hj', pt_lt S f hj', pt_lt C c' hj']
      obtain ⟨h1, h2, h3, h4, h5'⟩ := h5.q j hj'
      exact ⟨kept h4 h1, h2, ⟨h3.1, by omega⟩, nb _ _ h3.2 h4, h5'⟩
end
/-- talkers drawn so far, in a row that grows -/
structure NtP (base : Nat) (wr : World) (v : Value) (k : Nat) (t : Tks) (S : Nat → Nat → Nat → Int) (QA : Nat → Option Addr) (QC LO HI : Nat → Nat) : Prop where
  g : NgP base wr v k t S QA QC LO HI
  b : ∀ i, i < k → t.qm i ≤ 4 ∧ ∀ j, j < t.qm i → t.N i j ≤ 9
section
variable {base lo hi : Nat} {w w' : World} {v v' : Value} {k : Nat} {t : Tks} {S : Nat → Nat → Nat → Int} {QA : Nat → Option Addr} {QC LO HI : Nat → Nat}
theorem NtP.tn (h : NtP base w v k t S QA QC LO HI) (T : Turns lo hi w w') (hd : hi ≤ base) : NtP base w' v k t S QA QC LO HI :=
  ⟨⟨owns_tn h.g.own T hd, fun i hi' => by
    obtain ⟨h1, h2, h3, h4⟩ := h.g.q i hi'
    exact ⟨h1.turns T (.inr (by omega)), h2, ⟨h3.1, Nat.le_trans h3.2 T.size⟩, h4⟩⟩, h.b⟩
theorem NtP.nil (w : World) (base : Nat) (t : Tks) (S : Nat → Nat → Nat → Int) : NtP base w (.slice none 0 0) 0 t S t.qa t.qc t.qc t.qc := ⟨⟨World.ownsRow_nil _ _ _ _, fun _ hj => absurd hj (Nat.not_lt_zero _)⟩, fun _ hj => absurd hj (Nat.not_lt_zero _)⟩
theorem NtP.shape (h : NtP base w v k t S QA QC LO HI) : ∃ a c, v = .slice a k c ∧ Shp a k c := by
  obtain ⟨_, ⟨rfl, h0⟩ | ⟨g, cap, cur, rfl, _, _, h4, _⟩⟩ := h.g.own
  · exact ⟨none, 0, by rw [h0], by rw [h0]; exact shp_none⟩
  · exact ⟨_, _, rfl, shp_at _ _ h4⟩
/-- a talker more -/
def ptT (t : Tks) (k m : Nat) (sh er : Int) (of : Bool) (I : Nat → Int) (N : Nat → Nat) : Tks := { t with qm := pt t.qm k m, sh := pt t.sh k sh, er := pt t.er k er, of := pt t.of k of, I := pt t.I k I, N := pt t.N k N }
theorem NtP.put {w5 w6 : World} {o : Obj} {a' : Option Addr} {m c' l1 h1' : Nat} {sh er : Int} {of : Bool} {I : Nat → Int} {N : Nat → Nat} {S1 : Nat → Nat → Int} (h5 : NtP base w5 v k t S QA QC LO HI) (hnew : ∀ b, v.ownBlock = some b → b < l1 ∨ h1' ≤ b) (hbl : base ≤ l1) (hhi : h1' ≤ w5.heap.size) (hy : FrR w5 l1 h1' a' m I N S1) (hs : Shp a' m c') (h4 : m ≤ 4) (h9 : ∀ j, j < m → N j ≤ 9)
    (ho : w6.ownsRow base 51 4 v' (k + 1) (tkC t QA QC k ++ [.slice a' m c', .int .i64 sh, .int .i64 er, .bool of])) (hg : (w5.alloc o).grownBy w6 v.ownBlock) (hat : v'.ownBlock = v.ownBlock ∨ v'.ownBlock = some (w5.alloc o).heap.size) :
    NtP base w6 v' (k + 1) (ptT t k m sh er of I N) (pt S k S1) (pt QA k a') (pt QC k c') (pt LO k l1) (pt HI k h1') := by
  have hz6 := hg.size
  simp only [size_al] at hz6
  have kept : ∀ {lo' hi' : Nat} {a : Option Addr} {m : Nat} {I : Nat → Int} {N : Nat → Nat} {S : Nat → Nat → Int}, (∀ b, v.ownBlock = some b → b < lo' ∨ hi' ≤ b) → FrR w5 lo' hi' a m I N S → FrR w6 lo' hi' a m I N S := fun hne hq =>
    (hq.on ((Below.refl _ _).alloc (Nat.le_refl _) o)).of hg.size fun x hx h1 h2 => hg.block x hx (fun e => by have := hne x e.symm; omega)
  have nb : ∀ lo' hi', hi' ≤ w5.heap.size → (∀ b, v.ownBlock = some b → b < lo' ∨ hi' ≤ b) → ∀ b, v'.ownBlock = some b → b < lo' ∨ hi' ≤ b := fun lo' hi' hh hne b e => by
    rcases hat with h1 | h1
    · exact hne b (h1.symm.trans e)
    · rw [h1] at e
      have := Option.some.inj e
      simp only [size_al] at this
      omega
  refine ⟨⟨?_, fun j hj => ?_⟩, fun j hj => ?_⟩
  · have e := tkC_cong (t := t) (t' := ptT t k m sh er of I N) (QA := QA) (QA' := pt QA k a') (QC := QC) (QC' := pt QC k c') (k := k) (fun i hi => ⟨(pt_lt QA a' hi).symm, (pt_lt t.qm m hi).symm, (pt_lt QC c' hi).symm, (pt_lt t.sh sh hi).symm, (pt_lt t.er er hi).symm, (pt_lt t.of of hi).symm⟩)
    rw [tkC, ← e]
    simp only [ptT, pt_at]
    exact ho
  · by_cases e : j = k
    · subst e
      simp only [ptT, pt_at]
      exact ⟨kept hnew hy, hs, ⟨hbl, by omega⟩, nb l1 h1' hhi hnew⟩
    · have hj' : j < k := by omega
      simp only [ptT, pt_lt _ _ hj']
      obtain ⟨h1, h2, h3, h4⟩ := h5.g.q j hj'
      exact ⟨kept h4 h1, h2, ⟨h3.1, by omega⟩, nb _ _ h3.2 h4⟩
  · by_cases e : j = k
    · subst e
      simp only [ptT, pt_at]
      exact ⟨h4, h9⟩
    · have hj' : j < k := by omega
      simp only [ptT, pt_lt _ _ hj']
      exact h5.b j hj'
/-- they are talkers as they are read -/
theorem NtP.tf {va : Option Addr} {vc : Nat} (h : NtP base w (.slice va k vc) k t S QA QC LO HI) : ∃ AA CC, TkF w va k { t with qa := QA, qc := QC, A := AA, C := CC } S := by
  obtain ⟨AA, CC, hF⟩ := choose_fr (qm := t.qm) (I := t.I) (N := t.N) (S := S) (QA := QA) (n := k) (w := w) fun i hi => (h.g.q i hi).1.ff
  refine ⟨AA, CC, ⟨fun h0 => ?_, fun i hi => (hF i hi).h⟩, fun i hi => (hF i hi).y, fun i hi => (hF i hi).s, fun i hi => (h.g.q i hi).2.1⟩
  have ho := h.g.own
  obtain ⟨_, ⟨_, h1⟩ | ⟨g, cap, cur, h1, h2, h3, h4, _⟩⟩ := h.g.own
  · omega
  · cases h1
    refine ⟨g, 0, rfl, (Array.getElem?_eq_some_iff.1 h3).1, fun i hi => ?_⟩
    have hl := tkC_len (t := t) (QA := QA) (QC := QC) k
    have hc := tkC_get (t := t) (QA := QA) (QC := QC) hi
    simp only [Nat.zero_add]
    exact ⟨(World.ownsRow.cellAt ho _ (by omega)).trans hc.1, (World.ownsRow.cellAt ho _ (by omega)).trans hc.2.1, (World.ownsRow.cellAt ho _ (by omega)).trans hc.2.2.1, (World.ownsRow.cellAt ho _ (by omega)).trans hc.2.2.2⟩
end
end Go.Proofs.Ytldagjgpapnfpaa
