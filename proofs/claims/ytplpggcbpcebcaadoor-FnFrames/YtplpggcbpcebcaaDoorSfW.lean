/- What stands while bits are stuffed or taken out: a row of bytes that grows, the run at the end, the bytes that are gone through. -/
import Derived.Test.YtplpggcbpcebcaaDoorSfT
namespace Go.Proofs.YtplpggcbpcebcaaDoor
open Go.RowKit
structure Sfs (w wr : World) (R Y : Nat) (s : ByteArray) (v : Value) (o : List Int) (l r : Int) : Prop where
  own : OwY wr w.heap.size v o
  rn : Rn wr R l r
  yc : ∀ i, i < s.size → wr.cell? ⟨Y, i, none⟩ = some (.int .u8 (bt s i))
  yb : Y < wr.heap.size
  nr : ∀ q, v.ownBlock = some q → q ≠ R ∧ q ≠ Y
  ry : R ≠ Y
  bel : Below w.heap.size w wr
  hR : w.heap.size ≤ R
section
variable {w wr w3 : World} {R Y : Nat} {s : ByteArray} {v v' : Value} {o : List Int} {l r x r' : Int}
theorem Sfs.take (h : Sfs w wr R Y s v o l r) (hn : Rn w3 R x r') (ho : Only R wr w3) : Sfs w w3 R Y s v o x r' := by
  have e := ho.block Y (fun e => h.ry e.symm)
  exact ⟨h.own.only ho (fun q hq => (h.nr q hq).1), hn, fun i hi => (cell_same e i).trans (h.yc i hi), by rw [ho.size]; exact h.yb, h.nr, h.ry, h.bel.trans (ho.below.mono h.hR), h.hR⟩
theorem Sfs.app {ob : Obj} (h : Sfs w wr R Y s v o l r) (ho : w3.ownsRow w.heap.size 5 1 v' (o.length + 1) (o.map (Value.int .u8) ++ [.int .u8 x])) (hg : (wr.alloc ob).grownBy w3 v.ownBlock)
    (ht : v'.ownBlock = v.ownBlock ∨ v'.ownBlock = some (wr.alloc ob).heap.size) : Sfs w w3 R Y s v' (o ++ [x]) l r := by
  have ha : Below wr.heap.size wr (wr.alloc ob) := (Below.refl _ _).alloc (Nat.le_refl _) ob
  have hRl := h.rn.lt
  have eR := hg.block R (Nat.lt_of_lt_of_le hRl ha.size) (fun e => (h.nr R e.symm).1 rfl)
  have eY := hg.block Y (Nat.lt_of_lt_of_le h.yb ha.size) (fun e => (h.nr Y e.symm).2 rfl)
  have bR : Bx (wr.alloc ob) R [.int .u8 l, .int .i64 r] := Bx.alloc h.rn ob
  refine ⟨h.own.app ho, ⟨Nat.lt_of_lt_of_le bR.lt hg.size, fun i hi => (cell_same eR i).trans (bR.c i hi), fun j => (frozen_same eR j).trans (bR.fz j)⟩, fun i hi => (cell_same eY i).trans ((ha.cell (p := ⟨Y, i, none⟩) h.yb).trans (h.yc i hi)), Nat.lt_of_lt_of_le h.yb (Nat.le_trans ha.size hg.size), fun q hq => ?_, h.ry, ?_, h.hR⟩
  · rcases ht with e | e
    · exact h.nr q (by rw [← e]; exact hq)
    · rw [e] at hq
      have : q = wr.heap.size + 1 := by simpa using hq.symm
      have := h.yb
      omega
  · exact h.bel.trans (((Below.refl w.heap.size wr).alloc h.bel.size ob).grown hg (by simp; have := h.bel.size; omega) (fun q hq => (World.ownsRow.lt h.own q hq).1))
end
theorem bytes_cell (w : World) (s : ByteArray) (C : Nat) (t : TypeId) (fz : Nat × Nat) (i : Nat) (hi : i < s.size) : (w.alloc (.cells (bytesRow s C) t fz)).cell? ⟨w.heap.size, i, none⟩ = some (.int .u8 (bt s i)) := by
  have hl : i < (bytesRow s C).size := by unfold bytesRow; simp; exact Nat.lt_of_lt_of_le hi (Nat.le_add_right _ _)
  have e : (bytesRow s C)[i]? = some (.int .u8 (bt s i)) := by
    unfold bytesRow
    rw [Array.getElem?_append_left (by simpa using hi)]
    have hi' : i < s.data.size := hi
    simp only [Array.getElem?_map, Array.getElem?_eq_getElem hi', Option.map_some]
    unfold bt
    rw [dif_pos hi]
    rfl
  unfold World.cell?
  rw [heap_alloc_new]
  exact e
theorem run_bytes (s : ByteArray) (w : World) : ∃ (c : Nat) (w3 : World), (convert 9 22 (.string s)).run Tryd.prog w = .ok (.slice (some ⟨w.heap.size, 0, none⟩) s.size c) w3 ∧ w3.heap.size = w.heap.size + 1 ∧ Below w.heap.size w w3 ∧ ∀ i, i < s.size → w3.cell? ⟨w.heap.size, i, none⟩ = some (.int .u8 (bt s i)) := by
  refine ⟨_, _, run_bytes_of_string w 9 22 5 s Tryd.underlying9 Tryd.underlying22 Tryd.underlying5, by simp, ?_, fun i hi => bytes_cell w.drew s _ _ _ i hi⟩
  exact (Below.refl _ _).drew.alloc (Nat.le_refl _) _
/-- what stands ahead of the first bit -/
theorem sfs_new (w wb w3 : World) (s : ByteArray) (hb : Below w.heap.size w wb) (hs : w3.heap.size = wb.heap.size + 1 + 1 + 1)
    (h3 : Below (wb.heap.size + 1 + 1) ((wb.alloc (.cells #[] 5)).alloc (.cells #[.int .u8 0, .int .i64 0] 47)) w3)
    (hc : ∀ i, i < s.size → w3.cell? ⟨wb.heap.size + 1 + 1, i, none⟩ = some (.int .u8 (bt s i))) :
    Sfs w w3 (wb.heap.size + 1) (wb.heap.size + 1 + 1) s (.slice (some ⟨wb.heap.size, 0, none⟩) 0 0) [] 0 0 := by
  have h2 : Below wb.heap.size wb ((wb.alloc (.cells #[] 5)).alloc (.cells #[.int .u8 0, .int .i64 0] 47)) := ((Below.refl _ _).alloc (Nat.le_refl _) _).alloc (by simp) _
  have bR : Bx ((wb.alloc (.cells #[] 5)).alloc (.cells #[.int .u8 0, .int .i64 0] 47)) (wb.heap.size + 1) [.int .u8 0, .int .i64 0] := bx_new (w := wb.alloc (.cells #[] 5)) [.int .u8 0, .int .i64 0] 47 (by simp)
  refine ⟨?_, bR.below h3 (by omega), hc, by omega, fun q hq => ?_, by omega, hb.trans ((h2.trans (h3.mono (by omega))).mono hb.size), by have := hb.size; omega⟩
  · have h0 := owY_lit0 wb w.heap.size hb.size
    exact (h0.below ((Below.refl _ _).alloc (Nat.le_refl _) (.cells #[.int .u8 0, .int .i64 0] 47))).below (by simpa using h3)
  · have : wb.heap.size = q := by simpa [Value.ownBlock] using hq
    omega
end Go.Proofs.YtplpggcbpcebcaaDoor
