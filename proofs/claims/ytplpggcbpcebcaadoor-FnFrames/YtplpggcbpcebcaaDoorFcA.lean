/- What ReadFrame tells. -/
import Derived.Test.YtplpggcbpcebcaaDoorFcB
import Derived.Laws.ResultCell
namespace Go.Proofs.YtplpggcbpcebcaaDoor
open Go.RowKit
open Classical in
/-- whether a text is a frame's bits -/
noncomputable def rdB (s : ByteArray) : Bool := decide (OkS s)
noncomputable def rdI (s : ByteArray) : Int := if rdB s = true then (idK (plT s) : Nat) else 0
noncomputable def rdN (s : ByteArray) : Nat := if rdB s = true then mnK (plT s) else 0
open Classical in
theorem rd_yes {s : ByteArray} (h : OkS s) : rdB s = true ∧ rdI s = (idK (plT s) : Nat) ∧ rdN s = mnK (plT s) := by
  have e : rdB s = true := by unfold rdB; exact decide_eq_true h
  unfold rdI rdN
  rw [e]
  exact ⟨rfl, rfl, rfl⟩
open Classical in
theorem rd_no {s : ByteArray} (h : ¬ OkS s) : rdB s = false ∧ rdI s = 0 ∧ rdN s = 0 := by
  have e : rdB s = false := by unfold rdB; exact decide_eq_false h
  unfold rdI rdN
  rw [e]
  exact ⟨rfl, rfl, rfl⟩
/-- a frame that was read -/
def AnsF (s : ByteArray) (w : World) (e : Ending) (w' : World) : Prop :=
  ∃ a c, e = .returned (.tuple #[frv (rdI s) a (rdN s) c, .bool (rdB s)]) ∧ VQ w' w.heap.size w'.heap.size a (rdN s) (fun i => .int .u8 (dtF (plT s) i))
theorem ans_no {s : ByteArray} {w w' : World} (h : ¬ OkS s) : AnsF s w (.returned (.tuple #[frv 0 none 0 0, .bool false])) w' := by
  obtain ⟨h1, h2, h3⟩ := rd_no h
  unfold AnsF
  rw [h1, h2, h3]
  exact ⟨none, 0, rfl, vq_none _ _ _ _ _⟩
theorem rdN_bd (s : ByteArray) : rdN s ≤ 8 := by
  by_cases h : OkS s
  · rw [(rd_yes h).2.2]; exact h.m
  · rw [(rd_no h).2.2]; omega
theorem ret_frv_tmp {fn : Func} {t t2 : Tmp} {R : Ending → World → Prop} {a : Act} {w : World} {b : Nat} {u v : Value} (h : fn.results = #[.cell t 24, .tmp t2]) (hp : a.tmps.getD t undef = .pointer (some ⟨b, 0, none⟩)) (c0 : w.cell? ⟨b, 0, none⟩ = some u) (c1 : w.cell? ⟨b, 1, none⟩ = some v) (hd : a.defers = [])
    (hR : R (.returned (.tuple #[.agg #[u, v], a.tmps.getD t2 undef])) w) : bodyPost Tryd.prog fn R .ret a w := by
  refine bodyPost_ret ?_ hd hR
  rw [results_cell_tmp h, hp]
  simp [asAddr, loadVar, go_sem, c0, c1]
theorem OwY.vq {w : World} {base : Nat} {a : Option Addr} {c : Nat} {l : List Int} (h : OwY w base (.slice a l.length c) l) : VQ w base w.heap.size a l.length (fun i => .int .u8 (gL l i)) := fun h0 => by
  have h' := h
  obtain ⟨hl, ⟨e, hn⟩ | ⟨g, cap, cur, e, hb, hheap, hcap, _, hsz, htk⟩⟩ := h
  · omega
  · simp only [Value.slice.injEq] at e
    obtain ⟨rfl, _, rfl⟩ := e
    have hlt : g < w.heap.size := (Array.getElem?_eq_some_iff.1 hheap).1
    refine ⟨g, rfl, hb, hlt, hlt, fun i hi => ?_, fun j => World.ownsRow.frozenAt h' j⟩
    rw [World.ownsRow.cellAt h' i (by omega)]
    simp [gL, List.getD, hi]
theorem VQ.congr {w : World} {lo hi : Nat} {a : Option Addr} {n : Nat} {f g : Nat → Value} (h : VQ w lo hi a n f) (e : ∀ i, i < n → f i = g i) : VQ w lo hi a n g := fun h0 => by
  obtain ⟨b, h1, h2, h3, h4⟩ := h h0
  exact ⟨b, h1, h2, h3, h4.lt, fun i hi => by rw [h4.c i hi, e i hi], h4.fz⟩
end Go.Proofs.YtplpggcbpcebcaaDoor
