/- The map of places that are not done: a set of numbers. -/
import Derived.Test.YtfciecoigfnnhaaLqBase
import Derived.Maps.OwnSet
namespace Go.Proofs.Ytfciecoigfnnhaa
open Go.RowKit Go.Maps

theorem lawI : Keyed Try.prog 3 := int_keyed Try.underlying3
theorem zeroU (w : World) : (zeroValue 85).run Try.prog w = .ok (.agg #[]) w := by kernel_rfl
/-- block Mb is a map that has just the numbers of L -/
def LM (w : World) (Mb n : Nat) (L : Int → Bool) : Prop := ∃ D : DataW Unit, w.ownsMap Try.prog 3 (unitElem (H := Unit)) Mb n D ∧ ∀ x : Int, (Lit.int .i64 x).wf = true → Maps.has D (.int .i64 x) = L x
theorem wf_small {x : Int} (h0 : -1000000 ≤ x) (h1 : x ≤ 1000000) : (Lit.int .i64 x).wf = true := WalkArith.wf_i64 (by omega)
theorem LM.look {w : World} {Mb n : Nat} {L : Int → Bool} (h : LM w Mb n L) {x : Int} (hx : (Lit.int .i64 x).wf = true) :
    (Instr.lookup 78 (.map (some Mb)) (.int .i64 x) true).run Try.prog w = .ok (.tuple #[.agg #[], .bool (L x)]) w := by
  obtain ⟨D, hD, hL⟩ := h
  obtain ⟨v, ps, hr, hv⟩ := hD.look_ok lawI Try.underlying78 (zeroU w) unitElem_mk (keyOf_int_mk Try.underlying3 hx)
  rw [hr, (unitElem_inv hv).1, hL x hx]
theorem LM.drop {w : World} {Mb n : Nat} {L : Int → Bool} (h : LM w Mb n L) {x : Int} (hx : (Lit.int .i64 x).wf = true) (ty : TypeId) :
    ∃ w', (Builtin.delete_ #[78, 3] ty #[.map (some Mb), .int .i64 x]).run Try.prog w = .ok (.tuple #[]) w' ∧ LM w' Mb n (fun y => L y && decide (y ≠ x)) ∧ w.mapTurned w' Mb := by
  obtain ⟨D, hD, hL⟩ := h
  obtain ⟨w', hr, hD', ht⟩ := hD.drop lawI Try.underlying78 (keyOf_int_mk Try.underlying3 hx) ty
  refine ⟨w', hr, ⟨_, hD', fun y hy => ?_⟩, ht⟩
  by_cases e : y = x
  · subst e; rw [has_del_same]; simp
  · rw [has_del_other (by intro q; injection q with _ q; exact e q), hL y hy]; simp [e]
theorem LM.store {w : World} {Mb n : Nat} {L : Int → Bool} (h : LM w Mb n L) (hn : n ≤ 1000000) {x : Int} (hx : (Lit.int .i64 x).wf = true) :
    ∃ w', (Instr.mapUpdate 78 (.map (some Mb)) (.int .i64 x) (.agg #[])).run Try.prog w = .ok () w' ∧ LM w' Mb (n + 1) (fun y => L y || decide (y = x)) ∧ w.mapTurned w' Mb := by
  obtain ⟨D, hD, hL⟩ := h
  obtain ⟨w', hr, hD', ht⟩ := hD.store lawI Try.underlying78 (by unfold maxLen; omega) (keyOf_int_mk Try.underlying3 hx) unitElem_mk
  refine ⟨w', hr, ⟨_, hD', fun y hy => ?_⟩, ht⟩
  by_cases e : y = x
  · subst e; rw [has_put_same (k := .int .i64 y) hD.isMap (show WideAt.IsKeyLit (.int .i64 y) from trivial)]; simp
  · rw [has_put_other (by intro q; injection q with _ q; exact e q), hL y hy]; simp [e]
theorem lm_made (w : World) : LM (w.alloc (.map #[] 0)) w.heap.size 0 (fun _ => false) := ⟨_, World.ownsMap_made w Try.prog 3 unitElem, fun _ _ => rfl⟩
theorem LM.heap {w w' : World} {Mb n : Nat} {L : Int → Bool} (h : LM w Mb n L) (e : w'.heap[Mb]? = w.heap[Mb]?) : LM w' Mb n L := by
  obtain ⟨D, ⟨es, clock, hb, r⟩, hL⟩ := h
  exact ⟨D, ⟨es, clock, e.trans hb, r⟩, hL⟩
theorem LM.lt {w : World} {Mb n : Nat} {L : Int → Bool} (h : LM w Mb n L) : Mb < w.heap.size := by
  obtain ⟨D, hD, _⟩ := h
  exact hD.lt
theorem LM.congr {w : World} {Mb n : Nat} {L L' : Int → Bool} (h : LM w Mb n L) (e : ∀ x, L x = L' x) : LM w Mb n L' := by
  have : L = L' := funext e
  rw [← this]; exact h
theorem LM.mono {w : World} {Mb n n' : Nat} {L : Int → Bool} (h : LM w Mb n L) (hn : n ≤ n') : LM w Mb n' L := by
  obtain ⟨D, hD, hL⟩ := h
  exact ⟨D, hD.mono hn, hL⟩
end Go.Proofs.Ytfciecoigfnnhaa
