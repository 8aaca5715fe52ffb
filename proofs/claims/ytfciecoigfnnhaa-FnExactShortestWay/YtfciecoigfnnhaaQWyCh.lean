/- The least list of cells among the ways that cost least. -/
import Derived.Test.YtfciecoigfnnhaaQWyFrB
namespace Go.Proofs.Ytfciecoigfnnhaa
open Go.RowKit

/-- may a way that costs least go on from i to k -/
def okB (st : Nat → Nat → Int) (A B : Nat → Int) (i k : Nat) : Bool := decide (st i k ≠ 0) && decide (0 ≤ A k) && decide (ky (A k) (B k) + wt (st i k) = ky (A i) (B i))
theorem okB_t {st : Nat → Nat → Int} {A B : Nat → Int} {i k : Nat} : okB st A B i k = true ↔ st i k ≠ 0 ∧ 0 ≤ A k ∧ ky (A k) (B k) + wt (st i k) = ky (A i) (B i) := by
  simp [okB, and_assoc]
/-- the least cell to go on to -/
def Nx (st : Nat → Nat → Int) (n : Nat) (A B : Nat → Int) (i k : Nat) : Prop := k < n ∧ okB st A B i k = true ∧ ∀ j, j < k → okB st A B i j = false
theorem Nx.uniq {st : Nat → Nat → Int} {n : Nat} {A B : Nat → Int} {i k k' : Nat} (h : Nx st n A B i k) (h' : Nx st n A B i k') : k = k' := by
  by_cases e : k < k'
  · have := h'.2.2 k e; rw [h.2.1] at this; cases this
  · by_cases e2 : k' < k
    · have := h.2.2 k' e2; rw [h'.2.1] at this; cases this
    · omega
/-- the list of cells from i on -/
inductive Ch (st : Nat → Nat → Int) (n : Nat) (A B : Nat → Int) (tt : Nat) : Nat → List Int → Prop
  | stop : Ch st n A B tt tt [(tt : Int)]
  | go {i k : Nat} {l : List Int} : i ≠ tt → Nx st n A B i k → Ch st n A B tt k l → Ch st n A B tt i ((i : Int) :: l)
theorem Ch.uniq {st : Nat → Nat → Int} {n : Nat} {A B : Nat → Int} {tt i : Nat} {l l' : List Int} (h : Ch st n A B tt i l) (h' : Ch st n A B tt i l') : l = l' := by
  induction h generalizing l' with
  | stop =>
    cases h' with
    | stop => rfl
    | go q => exact absurd rfl q
  | go q hn _ ih =>
    cases h' with
    | stop => exact absurd rfl q
    | go _ hn' hc =>
      have e := Nx.uniq hn hn'
      subst e
      rw [ih hc]
theorem Dst.reach {st : Nat → Nat → Int} {n tt : Nat} {A B : Nat → Int} (h : Dst st n tt A B) (hsy : ∀ i k, st i k = st k i) (hin : ∀ i k, st i k = 0 ∨ st i k = 1 ∨ st i k = 2) (hlt : ∀ i k, st i k ≠ 0 → i < n ∧ k < n) {i k : Nat} (h0 : 0 ≤ A i) (hs : st i k ≠ 0) : 0 ≤ A k := by
  have hl := hlt i k hs
  have w := h.real i hl.1 h0
  rcases hin i k with q | q | q
  · exact absurd q hs
  · exact (h.least k _ _ hl.2 (Wy.str (by rw [hsy]; exact q) w)).1
  · exact (h.least k _ _ hl.2 (Wy.sla (by rw [hsy]; exact q) w)).1
/-- there is one to go on to -/
theorem Dst.next {st : Nat → Nat → Int} {n tt : Nat} {A B : Nat → Int} (h : Dst st n tt A B) (hlt : ∀ i k, st i k ≠ 0 → i < n ∧ k < n) {i : Nat} (hi : i < n) (h0 : 0 ≤ A i) (ht : i ≠ tt) : ∃ k, k < n ∧ okB st A B i k = true := by
  have w := h.real i hi h0
  generalize ha : A i = a at w
  generalize hb : B i = b at w
  cases w with
  | nil => exact absurd rfl ht
  | @str _ k a b hs hw =>
    have hl := hlt i k (by omega)
    have l1 := h.least k _ _ hl.2 hw
    have l2 := h.least i _ _ hi (Wy.str hs (h.real k hl.2 l1.1))
    refine ⟨k, hl.2, okB_t.2 ⟨by omega, l1.1, ?_⟩⟩
    have e : wt (st i k) = 408 := by rw [hs]; rfl
    rw [e]
    have l3 := l1.2
    have l4 := l2.2
    rw [ha, hb] at l4 ⊢
    unfold ky at *
    omega
  | @sla _ k a b hs hw =>
    have hl := hlt i k (by omega)
    have l1 := h.least k _ _ hl.2 hw
    have l2 := h.least i _ _ hi (Wy.sla hs (h.real k hl.2 l1.1))
    refine ⟨k, hl.2, okB_t.2 ⟨by omega, l1.1, ?_⟩⟩
    have e : wt (st i k) = 577 := by rw [hs]; rfl
    rw [e]
    have l3 := l1.2
    have l4 := l2.2
    rw [ha, hb] at l4 ⊢
    unfold ky at *
    omega
/-- a step on is a step less -/
theorem Dst.less {st : Nat → Nat → Int} {n tt : Nat} {A B : Nat → Int} (h : Dst st n tt A B) (hin : ∀ i k, st i k = 0 ∨ st i k = 1 ∨ st i k = 2) {i k : Nat} (hi : i < n) (h0 : 0 ≤ A i) (hk : k < n) (ho : okB st A B i k = true) : A k + B k + 1 = A i + B i := by
  obtain ⟨o1, o2, o3⟩ := okB_t.1 ho
  have b1 := h.bnd i hi h0
  have b2 := h.bnd k hk o2
  rcases hin i k with q | q | q
  · exact absurd q o1
  · have e : wt (st i k) = 408 := by rw [q]; rfl
    rw [e] at o3
    have := ky_inj (a := A k + 1) (b := B k) (c := A i) (d := B i) (by omega) (by omega) (by unfold ky at *; omega)
    omega
  · have e : wt (st i k) = 577 := by rw [q]; rfl
    rw [e] at o3
    have := ky_inj (a := A k) (b := B k + 1) (c := A i) (d := B i) (by omega) (by omega) (by unfold ky at *; omega)
    omega
theorem okB_change {st : Nat → Nat → Int} {n tt : Nat} {A B A' B' : Nat → Int} (h : Dst st n tt A B) (h' : Dst st n tt A' B') (hsy : ∀ i k, st i k = st k i) (hin : ∀ i k, st i k = 0 ∨ st i k = 1 ∨ st i k = 2) (hlt : ∀ i k, st i k ≠ 0 → i < n ∧ k < n) {i : Nat} (hi : i < n) (h0 : 0 ≤ A i) (k : Nat) : okB st A B i k = okB st A' B' i k := by
  obtain ⟨_, e1, e2⟩ := h.uniq h' hi h0
  by_cases hs : st i k = 0
  · simp [okB, hs]
  · have r := h.reach hsy hin hlt h0 hs
    obtain ⟨r', f1, f2⟩ := h.uniq h' (hlt i k hs).2 r
    unfold okB
    rw [e1, e2, f1, f2]
theorem Ch.change {st : Nat → Nat → Int} {n tt : Nat} {A B A' B' : Nat → Int} (h : Dst st n tt A B) (h' : Dst st n tt A' B') (hsy : ∀ i k, st i k = st k i) (hin : ∀ i k, st i k = 0 ∨ st i k = 1 ∨ st i k = 2) (hlt : ∀ i k, st i k ≠ 0 → i < n ∧ k < n) {i : Nat} {l : List Int} (hc : Ch st n A B tt i l) (hi : i < n) (h0 : 0 ≤ A i) : Ch st n A' B' tt i l := by
  induction hc with
  | stop => exact .stop
  | @go i k l q hn _ ih =>
    obtain ⟨n1, n2, n3⟩ := hn
    have ho := okB_t.1 n2
    refine .go q ⟨n1, ?_, fun j hj => ?_⟩ (ih n1 ho.2.1)
    · rw [← okB_change h h' hsy hin hlt hi h0]; exact n2
    · rw [← okB_change h h' hsy hin hlt hi h0]; exact n3 j hj
/-- what ShortestWay tells -/
def Shrt (W : Int) (n : Nat) (f : Nat → Int) (p v : Int) (l : List Int) (s d : Int) (q : Bool) : Prop :=
  (q = true ∧ celB W n f = true ∧ ∃ (x y : Nat) (A B : Nat → Int), p = (x : Int) ∧ v = (y : Int) ∧ frB n f p = true ∧ frB n f v = true ∧ Dst (stN W n f) n y A B ∧ 0 ≤ A x ∧ s = A x ∧ d = B x ∧ Ch (stN W n f) n A B y x l) ∨
  (q = false ∧ l = [] ∧ s = 0 ∧ d = 0 ∧ ¬ (celB W n f = true ∧ frB n f p = true ∧ frB n f v = true ∧ ∃ (x y : Nat) (a b : Int), p = (x : Int) ∧ v = (y : Int) ∧ Wy (stN W n f) y x a b))
theorem stN_sy (W : Int) (n : Nat) (f : Nat → Int) (i k : Nat) : stN W n f i k = stN W n f k i := step_sym W n f i k
theorem stN_in (W : Int) (n : Nat) (f : Nat → Int) (i k : Nat) : stN W n f i k = 0 ∨ stN W n f i k = 1 ∨ stN W n f i k = 2 := by
  unfold stN stepV
  repeat' split
  all_goals simp
theorem stN_lt (W : Int) (n : Nat) (f : Nat → Int) (i k : Nat) (h : stN W n f i k ≠ 0) : i < n ∧ k < n := step_lt h
theorem Shrt.uniq {W : Int} {n : Nat} {f : Nat → Int} {p v : Int} {l l' : List Int} {s d s' d' : Int} {q q' : Bool} (h : Shrt W n f p v l s d q) (h' : Shrt W n f p v l' s' d' q') : l = l' ∧ s = s' ∧ d = d' ∧ q = q' := by
  rcases h with ⟨e1, hc, x, y, A, B, hx, hy, hp, hv, hD, h0, es, ed, hC⟩ | ⟨e1, e2, e3, e4, hno⟩
  · rcases h' with ⟨e1', hc', x', y', A', B', hx', hy', hp', hv', hD', h0', es', ed', hC'⟩ | ⟨e1', e2', e3', e4', hno'⟩
    · have : x = x' := by omega
      subst this
      have : y = y' := by omega
      subst this
      have hxn : x < n := by have := frB_t hp; omega
      obtain ⟨_, u1, u2⟩ := hD.uniq hD' hxn h0
      have hC2 := hC.change hD hD' (stN_sy W n f) (stN_in W n f) (stN_lt W n f) hxn h0
      exact ⟨hC2.uniq hC', by omega, by omega, by rw [e1, e1']⟩
    · have hxn : x < n := by have := frB_t hp; omega
      exact absurd ⟨hc, hp, hv, x, y, _, _, hx, hy, hD.real x hxn h0⟩ hno'
  · rcases h' with ⟨e1', hc', x', y', A', B', hx', hy', hp', hv', hD', h0', es', ed', hC'⟩ | ⟨e1', e2', e3', e4', hno'⟩
    · have hxn : x' < n := by have := frB_t hp'; omega
      exact absurd ⟨hc', hp', hv', x', y', _, _, hx', hy', hD'.real x' hxn h0'⟩ hno
    · exact ⟨by rw [e2, e2'], by omega, by omega, by rw [e1, e1']⟩
/-- the answer: a way and whether there is one -/
def AnsY (w w' : World) (e : Ending) (l : List Int) (s d : Int) (q : Bool) : Prop :=
  ∃ a' c', e = .returned (.tuple #[.agg #[.slice a' l.length c', .int .i64 s, .int .i64 d], .bool q]) ∧ LQ w' w.heap.size w'.heap.size a' l.length (gl l)
theorem ch_len {st : Nat → Nat → Int} {n tt : Nat} {A B : Nat → Int} (h : Dst st n tt A B) (hin : ∀ i k, st i k = 0 ∨ st i k = 1 ∨ st i k = 2) {i : Nat} {l : List Int} (hc : Ch st n A B tt i l) (hi : i < n) (h0 : 0 ≤ A i) : (l.length : Int) ≤ A i + B i + 1 := by
  induction hc with
  | stop => have := h.bnd _ hi h0; simp; omega
  | @go i k l q hn _ ih =>
    have ho := okB_t.1 hn.2.1
    have := ih hn.1 ho.2.1
    have := h.less hin hi h0 hn.1 hn.2.1
    simp; omega
end Go.Proofs.Ytfciecoigfnnhaa
