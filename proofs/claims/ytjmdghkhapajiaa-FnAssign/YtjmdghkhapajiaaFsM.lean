/- A table of lists, each of the call's own, whose rows grow. -/
import Derived.Test.YtjmdghkhapajiaaChRkM
namespace Go.Proofs.Ytjmdghkhapajiaa
open Go.RowKit
/-- a table in block g, row i so far of K i numbers -/
structure Fs (w : World) (base g n : Nat) (A : Nat → Option Addr) (K C : Nat → Nat) (R : Nat → Nat → Int) : Prop where
  head : w.rowIs g 24 n (fun i => .slice (A i) (K i) (C i))
  row : ∀ i, i < n → Own w base (.slice (A i) (K i) (C i)) (K i) (R i)
  inj : ∀ i j, i < n → j < n → i ≠ j → A i = A j → A i = none
  gb : g < base
section
variable {w w' : World} {base g n : Nat} {A : Nat → Option Addr} {K C : Nat → Nat} {R : Nat → Nat → Int}
theorem Fs.on (h : Fs w base g n A K C R) (b : Below w.heap.size w w') : Fs w' base g n A K C R :=
  ⟨rowIs_below h.head b h.head.lt, fun i hi => (h.row i hi).below b, h.inj, h.gb⟩
theorem fs_made (w : World) (n : Nat) (R : Nat → Nat → Int) : Fs (w.alloc (.cells (madeCells #[.slice none 0 0] n) 24)) (w.heap.size + 1) w.heap.size n (fun _ => none) (fun _ => 0) (fun _ => 0) R :=
  ⟨World.rowIs_made w (.slice none 0 0) n 24, fun _ _ => World.ownsRow_nil _ _ _ _, fun _ _ _ _ _ _ => rfl, Nat.lt_succ_self _⟩
theorem own_block {v : Value} {k : Nat} {F : Nat → Int} (h : Own w base v k F) : v = .slice none 0 0 ∧ k = 0 ∨ ∃ B c, v = .slice (some ⟨B, 0, none⟩) k c ∧ base ≤ B ∧ B < w.heap.size := by
  obtain ⟨-, h⟩ := h
  rcases h with ⟨h1, h2⟩ | ⟨g, cap, cur, h1, h2, h3, h4⟩
  · left
    exact ⟨h1, h2⟩
  · exact .inr ⟨g, cap, h1, h2, (Array.getElem?_eq_some_iff.1 h3).1⟩
/-- row s grows by one -/
theorem Fs.step (h : Fs w base g n A K C R) {s : Nat} (hs : s < n) {w3 : World} {a' : Option Addr} {c' : Nat} (hg : w.grownBy w3 (Value.slice (A s) (K s) (C s)).ownBlock)
    (ho : Own w3 base (.slice a' (K s + 1) c') (K s + 1) (R s)) (hat : (Value.slice a' (K s + 1) c').ownBlock = (Value.slice (A s) (K s) (C s)).ownBlock ∨ (Value.slice a' (K s + 1) c').ownBlock = some w.heap.size) :
    Fs (w3.setCell ⟨g, s, none⟩ (.slice a' (K s + 1) c')) base g n (fun i => if i = s then a' else A i) (fun i => if i = s then K s + 1 else K i) (fun i => if i = s then c' else C i) R := by
  have hO : Only g w3 (w3.setCell ⟨g, s, none⟩ (.slice a' (K s + 1) c')) := (Only.refl _ _).set s _
  have hbk : ∀ i, i < n → ∀ B, (Value.slice (A i) (K i) (C i)).ownBlock = some B → A i = some ⟨B, 0, none⟩ ∧ base ≤ B ∧ B < w.heap.size := fun i hi B hB => by
    rcases own_block (h.row i hi) with ⟨e, _⟩ | ⟨B', c, e, h1, h2⟩
    · rw [e] at hB; simp [Value.ownBlock] at hB
    · have e2 : A i = some ⟨B', 0, none⟩ := by injection e
      rw [e] at hB
      simp [Value.ownBlock] at hB
      subst hB
      exact ⟨e2, h1, h2⟩
  obtain ⟨B3, hB3, hB3b⟩ : ∃ B3, a' = some ⟨B3, 0, none⟩ ∧ base ≤ B3 := by
    rcases own_block ho with ⟨e, e2⟩ | ⟨B', c, e, h1, h2⟩
    · omega
    · exact ⟨B', by injection e, h1⟩
  have hne : ∀ i, i < n → i ≠ s → A i = none ∨ A i ≠ a' := fun i hi his => by
    cases hAi : A i with
    | none => exact .inl rfl
    | some p =>
      right
      intro e
      rw [hB3] at e
      have e1 : p = ⟨B3, 0, none⟩ := Option.some.inj e
      have hoB : (Value.slice (A i) (K i) (C i)).ownBlock = some B3 := by rw [hAi, e1]; simp [Value.ownBlock]
      obtain ⟨_, _, hlt⟩ := hbk i hi B3 hoB
      have ho3 : (Value.slice a' (K s + 1) c').ownBlock = some B3 := by rw [hB3]; simp [Value.ownBlock]
      rw [ho3] at hat
      rcases hat with h9 | h9
      · obtain ⟨e5, _, _⟩ := hbk s hs B3 h9.symm
        have := h.inj i s hi hs his (by rw [hAi, e1, e5])
        rw [hAi] at this; cases this
      · have : B3 = w.heap.size := by injection h9
        omega
  refine ⟨?_, fun i hi => ?_, fun i j hi hj hij => ?_, h.gb⟩
  · have hgl := h.head.lt
    have hr3 : w3.rowIs g 24 n (fun i => .slice (A i) (K i) (C i)) := by
      refine h.head.of_block (hg.block g hgl fun e => ?_)
      obtain ⟨_, hb1, _⟩ := hbk s hs g e.symm
      have := h.gb
      omega
    refine (hr3.set s _).congr fun i _ => ?_
    by_cases e : i = s
    · subst e; simp
    · simp [e]
  · by_cases e : i = s
    · subst e
      simp only [if_true]
      exact ho.only hO h.gb
    · simp only [if_neg e]
      have h1 : Own w3 base (.slice (A i) (K i) (C i)) (K i) (R i) := by
        refine World.ownsRow.kept (h.row i hi) hg ?_
        cases hb4 : (Value.slice (A i) (K i) (C i)).ownBlock with
        | none => exact .inl rfl
        | some B =>
          right
          intro e2
          obtain ⟨e5, _, _⟩ := hbk s hs B e2.symm
          obtain ⟨e6, _, _⟩ := hbk i hi B hb4
          have := h.inj i s hi hs e (by rw [e5, e6])
          rw [e6] at this; cases this
      exact h1.only hO h.gb
  · show (if i = s then a' else A i) = (if j = s then a' else A j) → (if i = s then a' else A i) = none
    by_cases e : i = s
    · subst e
      rw [if_pos rfl, if_neg (Ne.symm hij)]
      intro e2
      rcases hne j hj (Ne.symm hij) with h9 | h9
      · rw [e2, h9]
      · exact absurd e2.symm h9
    · rw [if_neg e]
      by_cases e3 : j = s
      · rw [if_pos e3]
        intro e2
        rcases hne i hi e with h9 | h9
        · exact h9
        · exact absurd e2 h9
      · rw [if_neg e3]
        exact h.inj i j hi hj hij
theorem Fs.congr {A' : Nat → Option Addr} {K' C' : Nat → Nat} (h : Fs w base g n A K C R) (h1 : ∀ i, i < n → A i = A' i) (h2 : ∀ i, i < n → K i = K' i) (h3 : ∀ i, i < n → C i = C' i) : Fs w base g n A' K' C' R :=
  ⟨h.head.congr fun i hi => by rw [h1 i hi, h2 i hi, h3 i hi], fun i hi => by rw [← h1 i hi, ← h2 i hi, ← h3 i hi]; exact h.row i hi, fun i j hi hj hij => by rw [← h1 i hi, ← h1 j hj]; exact h.inj i j hi hj hij, h.gb⟩
theorem Fs.rk (h : Fs w base g n A K C R) {lo : Nat} (hl : lo ≤ g) : RK w lo w.heap.size (some ⟨g, 0, none⟩) n K R := fun _ => by
  refine ⟨g, A, C, rfl, hl, h.head.lt, h.head.lt, fun i hi => h.head.cell hi, fun i hi h0 => ?_, fun i j hi hj h0 h0' hij e => ?_⟩
  · obtain ⟨B, cap, e, h1, h2⟩ := (h.row i hi).some h0
    have := h.gb
    exact ⟨B, by injection e, by omega, h2.lt, by omega, h2⟩
  · have := h.inj i j hi hj hij e
    obtain ⟨B, cap, e2, h1, h2⟩ := (h.row i hi).some h0
    have e3 : A i = some ⟨B, 0, none⟩ := by injection e2
    rw [this] at e3; cases e3
end
/-- the head of the table behind an append to one of its rows -/
theorem Fs.head3 {w w3 : World} {base g n : Nat} {A : Nat → Option Addr} {K C : Nat → Nat} {R : Nat → Nat → Int} (h : Fs w base g n A K C R) {s : Nat} (hs : s < n) (hg : w.grownBy w3 (Value.slice (A s) (K s) (C s)).ownBlock) : w3.rowIs g 24 n (fun i => .slice (A i) (K i) (C i)) := by
  refine h.head.of_block (hg.block g h.head.lt fun e => ?_)
  rcases own_block (h.row s hs) with ⟨e1, _⟩ | ⟨B', c, e1, h1, h2⟩
  · rw [e1] at e; simp [Value.ownBlock] at e
  · rw [e1] at e
    simp [Value.ownBlock] at e
    have := h.gb
    omega
/-- an append goes on behind the calls of its region -/
theorem held_app {P : Program} {o : Oper} {a : Act} {w w' : World} {K : Act → World → Prop} {Q : Exit → Act → World → Prop} {b : Prop} [Decidable b] (hb : b) (s x : Operand) (t : TypeId) (ho : o.op = .call { callee := .builtin .append, args := #[s, x], argTypes := #[t, t] }) {v vx v' : Value} (hs : a.eval s = v) (hx : a.eval x = vx) (hr : (Builtin.append_ #[t, t] o.type #[v, vx]).run P w = .ok v' w') (h : K (a.put o.dst v') w') : if b then Oper.wp P o a w K Q else K (a.put o.dst undef) w := by
  rw [if_pos hb]
  unfold Oper.wp execOp
  simp only [ho, resolve, invoke, builtin, Sem.run_bind, Sem.run_pure, Result.andThen_ok, List.map_toArray, List.map_cons, List.map_nil, hs, hx, hr]
  exact h
end Go.Proofs.Ytjmdghkhapajiaa
