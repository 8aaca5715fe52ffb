/- A queue of ints, or of pairs of ints, in a slice that is appended to behind and cut in front. -/
import Derived.Test.YtbndhhjgjalecabDoorQCwBs
import Derived.ArgAppend
namespace Go.Proofs.YtbndhhjgjalecabDoor
open Go.RowKit

/-- v is a slice of n elements of sz ints each, somewhere in a block of the call's own -/
def Qi (w : World) (base sz : Nat) (v : Value) (n : Nat) (G : Nat → Int) : Prop :=
  ∃ g off cap, v = .slice (some ⟨g, off, none⟩) n cap ∧ base ≤ g ∧ g < w.heap.size ∧ n ≤ cap ∧ (∀ j, j < n * sz → w.cell? ⟨g, off + j, none⟩ = some (.int .i64 (G j))) ∧ (∀ j, j < cap * sz → (w.cell? ⟨g, off + j, none⟩).isSome = true) ∧ ∀ j, w.frozen? ⟨g, j, none⟩ = false
section
variable {w w' : World} {base sz : Nat} {v : Value} {n : Nat} {G G' : Nat → Int}
theorem Qi.shape (h : Qi w base sz v n G) : ∃ g off cap, v = .slice (some ⟨g, off, none⟩) n cap ∧ base ≤ g ∧ g < w.heap.size ∧ n ≤ cap ∧ (∀ j, j < n * sz → w.cell? ⟨g, off + j, none⟩ = some (.int .i64 (G j))) := by
  obtain ⟨g, off, cap, h1, h2, h3, h4, h5, _, _⟩ := h
  exact ⟨g, off, cap, h1, h2, h3, h4, h5⟩
theorem Qi.heap (h : Qi w base sz v n G) (hs : w.heap.size ≤ w'.heap.size) (e : ∀ q, v.ownBlock = some q → w'.heap[q]? = w.heap[q]?) : Qi w' base sz v n G := by
  obtain ⟨g, off, cap, rfl, h2, h3, h4, h5, h6, h7⟩ := h
  have eb := e g rfl
  exact ⟨g, off, cap, rfl, h2, Nat.lt_of_lt_of_le h3 hs, h4, fun j hj => (cell_same eb _).trans (h5 j hj), fun j hj => by rw [cell_same eb _]; exact h6 j hj, fun j => (frozen_same eb j).trans (h7 j)⟩
theorem Qi.lt (h : Qi w base sz v n G) : ∀ q, v.ownBlock = some q → base ≤ q ∧ q < w.heap.size := by
  obtain ⟨g, off, cap, rfl, h2, h3, _⟩ := h
  intro q hq
  simp [Value.ownBlock] at hq
  subst hq
  exact ⟨h2, h3⟩
theorem Qi.on (h : Qi w base sz v n G) (k : Below w.heap.size w w') : Qi w' base sz v n G := h.heap k.size fun q hq => k.block q (h.lt q hq).2
theorem Qi.turns {lo hi : Nat} (h : Qi w base sz v n G) (k : Turns lo hi w w') (hb : hi ≤ base) : Qi w' base sz v n G := h.heap k.size fun q hq => k.block q (h.lt q hq).2 (.inr (Nat.le_trans hb (h.lt q hq).1))
theorem Qi.congr (h : Qi w base sz v n G) (e : ∀ j, j < n * sz → G j = G' j) : Qi w base sz v n G' := by
  obtain ⟨g, off, cap, h1, h2, h3, h4, h5, h6, h7⟩ := h
  exact ⟨g, off, cap, h1, h2, h3, h4, fun j hj => by rw [← e j hj]; exact h5 j hj, h6, h7⟩
/-- a row of the call's own is one -/
theorem qi_of_row {e : TypeId} (h : w.ownsRow base e sz v n ((List.range (n * sz)).map fun j => .int .i64 (G j))) (hn : 0 < n) : Qi w base sz v n G := by
  have h' := h
  obtain ⟨hl, h0 | ⟨g, cap, cur, rfl, h2, h3, h4, h5, h6, h7⟩⟩ := h
  · omega
  · refine ⟨g, 0, cap, rfl, h2, (Array.getElem?_eq_some_iff.1 h3).1, h4, fun j hj => ?_, fun j hj => ?_, fun j => ?_⟩
    · have hj2 : j < cap * sz := Nat.lt_of_lt_of_le hj (Nat.mul_le_mul_right _ h4)
      rw [Nat.zero_add, World.ownsRow.cellAt h' j hj]
      simp [hj]
    · rw [Nat.zero_add, cell_of_row w g j cur e (0, 0) h3]
      simp [h6, hj]
    · exact World.ownsRow.frozenAt h' j
/-- cut in front -/
theorem Qi.cut (h : Qi w base sz v (n + 1) G) (a : Option Addr) (c : Nat) (hv : v = .slice a (n + 1) c) :
    Qi w base sz (.slice (if c - 1 = 0 then a else a.map (·.add (1 * sz))) n (c - 1)) n (fun j => G (sz + j)) := by
  obtain ⟨g, off, cap, rfl, h2, h3, h4, h5, h6, h7⟩ := h
  simp only [Value.slice.injEq] at hv
  obtain ⟨rfl, -, rfl⟩ := hv
  by_cases hc : cap - 1 = 0
  · rw [if_pos hc]
    have hn : n = 0 := by omega
    subst hn
    exact ⟨g, off, cap - 1, rfl, h2, h3, by omega, fun j hj => by omega, fun j hj => by rw [hc] at hj; omega, h7⟩
  · rw [if_neg hc]
    refine ⟨g, off + sz, cap - 1, by simp [Addr.add_lit], h2, h3, by omega, fun j hj => ?_, fun j hj => ?_, h7⟩
    · have := h5 (sz + j) (by rw [Nat.add_mul]; omega)
      rw [show off + sz + j = off + (sz + j) by omega]; exact this
    · have := h6 (sz + j) (by
        have e : cap * sz = (cap - 1) * sz + sz := by
          rw [show cap = (cap - 1) + 1 by omega, Nat.add_mul]; simp
        omega)
      rw [show off + sz + j = off + (sz + j) by omega]; exact this
theorem heap_setCells (b : Nat) : ∀ (vs : List Value) (o : Nat) (w : World) (k : Nat), k ≠ b → (w.setCells b o vs).heap[k]? = w.heap[k]? ∧ (w.setCells b o vs).heap.size = w.heap.size
  | [], o, w, k, _ => ⟨rfl, rfl⟩
  | x :: vs, o, w, k, hk => by
    have ih := heap_setCells b vs (o + 1) (w.setCell ⟨b, o, none⟩ x) k hk
    simp only [World.setCells]
    refine ⟨ih.1.trans ?_, ih.2.trans (by simp)⟩
    exact ((Only.refl b w).set o x).block k hk
theorem setCells_env (b : Nat) : ∀ (vs : List Value) (o : Nat) (w : World), (w.setCells b o vs).os = w.os ∧ (w.setCells b o vs).tape = w.tape ∧ (w.setCells b o vs).output = w.output
  | [], o, w => ⟨rfl, rfl, rfl⟩
  | x :: vs, o, w => by
    have ih := setCells_env b vs (o + 1) (w.setCell ⟨b, o, none⟩ x)
    simp only [World.setCells]
    exact ih
theorem grown_setCells (b o : Nat) (vs : List Value) (w : World) : w.grownBy (w.setCells b o vs) (some b) :=
  ⟨(setCells_env b vs o w).1, (setCells_env b vs o w).2.1, (setCells_env b vs o w).2.2, Nat.le_of_eq (heap_setCells b vs o w (b + 1) (by omega)).2.symm, fun k _ hk => (heap_setCells b vs o w k (fun e => hk (by rw [e]))).1⟩
end
/-- where the grown queue lies -/
def Whr (w : World) (v v' : Value) : Prop := v'.ownBlock = v.ownBlock ∨ ∃ q, v'.ownBlock = some q ∧ w.heap.size ≤ q
set_option maxHeartbeats 1000000 in
theorem wpList_append_qi {w : World} {ops : Array Oper} {rest : List Oper} {o : Oper} {a : Act} {Q : Exit → Act → World → Prop}
    (hg : o.guard = none) (s x : Operand) (t : TypeId) (hop : o.op = Op.call { callee := Callee.builtin Builtin.append, args := #[s, x], argTypes := #[t, t] })
    (e : TypeId) (i : TypeInfo) (z : Value) (sz bytes : Nat) (h1 : Tryd.prog.underlying t = some (.slice e)) (h2 : Tryd.prog.info? e = some i) (h3 : i.zero = some z) (h4 : i.size = sz) (h5 : i.bytes = bytes) (h6 : z.cells.size = sz) (h7 : 0 < sz)
    {base n : Nat} {G : Nat → Int} {v : Value} (hs : a.eval s = v) (hq : Qi w base sz v n G) (hbw : base ≤ w.heap.size)
    (ad : Addr) (c : Nat) (H : Nat → Int) (hx : a.eval x = .slice (some ad) 1 c) (hc : ∀ j u, ((List.range sz).map fun j => Value.int .i64 (H j))[j]? = some u → w.cell? (ad.add j) = some u)
    (b1 : n + 1 ≤ maxLen) (b2 : (n + 1) * bytes ≤ 140737488355328)
    (hK : ∀ v' w', Qi w' base sz v' (n + 1) (fun j => if j < n * sz then G j else H (j - n * sz)) → w.grownBy w' v.ownBlock → Whr w v v' → wpList Tryd.prog ops Q rest (a.put o.dst v') w') :
    wpList Tryd.prog ops Q (o :: rest) a w := by
  obtain ⟨g, off, cap, rfl, q2, q3, q4, q5, q6, q7⟩ := hq
  have hlen : ((List.range sz).map fun j => Value.int .i64 (H j)).length = 1 * sz := by simp
  refine wpList_append_arg w hg s x t hop e i z sz bytes h1 h2 h3 h4 h5 h6 h7 g off n cap ((List.range (n * sz)).map fun j => .int .i64 (G j)) hs (by simp) (fun j u hj => ?_) ad 1 c ((List.range sz).map fun j => .int .i64 (H j)) hx hlen hc (fun u hu => ?_) (fun hr j hj => ⟨?_, q7 _⟩) b1 b2 (fun hr => ?_) (fun hr v' w' ho hgr => ?_)
  · simp only [List.getElem?_map, Option.map_eq_some_iff] at hj
    obtain ⟨k, hk, rfl⟩ := hj
    have := List.getElem?_eq_some_iff.1 hk
    obtain ⟨h8, h9⟩ := this
    simp at h8 h9
    subst h9
    exact q5 j h8
  · simp at hu
    obtain ⟨k, _, rfl⟩ := hu
    rfl
  · have hj' : j < sz := by simpa using hj
    have := q6 (n * sz + j) (by
      have : (n + 1) * sz ≤ cap * sz := Nat.mul_le_mul_right _ hr
      rw [Nat.add_mul] at this; omega)
    rw [Nat.add_assoc]; exact this
  · have hsome : ∀ j, j < ((List.range sz).map fun j => Value.int .i64 (H j)).length → (w.cell? ⟨g, off + n * sz + j, none⟩).isSome = true := fun j hj => by
      have hj' : j < sz := by simpa using hj
      have := q6 (n * sz + j) (by
        have : (n + 1) * sz ≤ cap * sz := Nat.mul_le_mul_right _ hr
        rw [Nat.add_mul] at this; omega)
      rw [Nat.add_assoc]; exact this
    have hin := World.cell?_setCells_in g ((List.range sz).map fun j => Value.int .i64 (H j)) (off + n * sz) w hsome
    have hout := World.cell?_setCells_out g ((List.range sz).map fun j => Value.int .i64 (H j)) (off + n * sz) w
    refine hK _ _ ⟨g, off, cap, rfl, q2, by rw [(heap_setCells g _ _ w (g + 1) (by omega)).2]; exact q3, hr, fun j hj => ?_, fun j hj => ?_, fun j => ?_⟩ (grown_setCells _ _ _ _) (.inl rfl)
    · by_cases hj2 : j < n * sz
      · rw [hout ⟨g, off + j, none⟩ (fun _ _ => .inl (by show off + j < off + n * sz; omega)), q5 j hj2]
        simp [hj2]
      · have hj3 : j - n * sz < sz := by rw [Nat.add_mul] at hj; omega
        have := hin (j - n * sz) (by simpa using hj3)
        rw [show off + n * sz + (j - n * sz) = off + j by omega] at this
        rw [this]
        simp [hj2]
    · by_cases hj2 : j < n * sz ∨ n * sz + sz ≤ j
      · rw [hout ⟨g, off + j, none⟩ (fun _ _ => by
          show off + j < off + n * sz ∨ off + n * sz + ((List.range sz).map fun j => Value.int .i64 (H j)).length ≤ off + j
          simp only [List.length_map, List.length_range]; omega)]
        exact q6 j hj
      · have := hin (j - n * sz) (by simp; omega)
        rw [show off + n * sz + (j - n * sz) = off + j by omega] at this
        rw [this]; rfl
    · rw [World.frozen?_setCells]; exact q7 j
  · have e1 : ((List.range (n * sz)).map fun j => Value.int .i64 (G j)) ++ ((List.range sz).map fun j => Value.int .i64 (H j)) = (List.range ((n + 1) * sz)).map fun j => Value.int .i64 (if j < n * sz then G j else H (j - n * sz)) := by
      apply List.ext_getElem
      · simp [Nat.add_mul]
      · intro k k1 k2
        simp only [List.getElem_append, List.length_map, List.length_range, List.getElem_map, List.getElem_range]
        split <;> simp_all
    rw [e1] at ho
    have hq' := qi_of_row ho (by omega)
    have hq2 : Qi w' base sz v' (n + 1) (fun j => if j < n * sz then G j else H (j - n * sz)) := by
      obtain ⟨g', off', cap', e', y2, y3⟩ := hq'
      exact ⟨g', off', cap', e', Nat.le_trans hbw y2, y3⟩
    refine hK v' w' hq2 ⟨hgr.os, hgr.tape, hgr.output, hgr.size, fun k hk _ => hgr.block k hk (by simp)⟩ (.inr ?_)
    obtain ⟨g', off', cap', rfl, y2, _⟩ := hq'
    exact ⟨g', rfl, y2⟩
end Go.Proofs.YtbndhhjgjalecabDoor
