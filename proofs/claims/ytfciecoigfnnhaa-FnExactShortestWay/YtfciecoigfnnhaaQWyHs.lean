/- The heap of openings within the search, and what its functions leave as it was. -/
import Derived.Test.YtfciecoigfnnhaaQWyOw
namespace Go.Proofs.Ytfciecoigfnnhaa
open Go.RowKit

/-- the heap lies in the fifth cell of the block Sb, its openings in blocks from base on -/
structure Hs (w : World) (base Sb m : Nat) (E : Nat → Og) : Prop where
  sb : Sb < base
  le : base ≤ w.heap.size
  v : ∃ v, w.cell? ⟨Sb, 5, none⟩ = some v ∧ OwO w base v m E
  fz : w.frozen? ⟨Sb, 5, none⟩ = false
  all : AllO m E
  ok : m ≤ 1048576
/-- what the heap's functions leave as it was -/
structure Ht (base Sb : Nat) (w w' : World) : Prop where
  os : w'.os = w.os
  tape : w'.tape = w.tape
  output : w'.output = w.output
  size : w.heap.size ≤ w'.heap.size
  block : ∀ k, k < base → k ≠ Sb → w'.heap[k]? = w.heap[k]?
  sbc : ∀ j, j ≠ 5 → w'.cell? ⟨Sb, j, none⟩ = w.cell? ⟨Sb, j, none⟩
  sbf : ∀ j, w'.frozen? ⟨Sb, j, none⟩ = w.frozen? ⟨Sb, j, none⟩
theorem Ht.refl (base Sb : Nat) (w : World) : Ht base Sb w w := ⟨rfl, rfl, rfl, Nat.le_refl _, fun _ _ _ => rfl, fun _ _ => rfl, fun _ => rfl⟩
theorem Ht.trans {base Sb : Nat} {w w' w'' : World} (h : Ht base Sb w w') (k : Ht base Sb w' w'') : Ht base Sb w w'' :=
  ⟨k.os.trans h.os, k.tape.trans h.tape, k.output.trans h.output, Nat.le_trans h.size k.size, fun c h1 h2 => (k.block c h1 h2).trans (h.block c h1 h2), fun j hj => (k.sbc j hj).trans (h.sbc j hj), fun j => (k.sbf j).trans (h.sbf j)⟩
theorem ht_below {base Sb : Nat} {w w' : World} (h : Below w.heap.size w w') (hb : base ≤ w.heap.size) (hs : Sb < base) : Ht base Sb w w' :=
  ⟨h.os, h.tape, h.output, h.size, fun k h1 _ => h.block k (by omega), fun j _ => h.cell (p := ⟨Sb, j, none⟩) (by simp; omega), fun j => h.frozen (p := ⟨Sb, j, none⟩) (by simp; omega)⟩
theorem Ht.set {base Sb g j : Nat} {w w' : World} (h : Ht base Sb w w') (hg : base ≤ g) (hs : Sb < base) (v : Value) : Ht base Sb w (w'.setCell ⟨g, j, none⟩ v) :=
  h.trans ⟨rfl, rfl, rfl, by simp, fun k h1 _ => Below.heap_setCell w' ⟨g, j, none⟩ v k (by simp; omega), fun i _ => cell_same (Below.heap_setCell w' ⟨g, j, none⟩ v Sb (by simp; omega)) i, fun i => frozen_same (Below.heap_setCell w' ⟨g, j, none⟩ v Sb (by simp; omega)) i⟩
theorem Ht.hd {base Sb : Nat} {w w' : World} (h : Ht base Sb w w') (v : Value) : Ht base Sb w (w'.setCell ⟨Sb, 5, none⟩ v) :=
  h.trans ⟨rfl, rfl, rfl, by simp, fun k _ h2 => Below.heap_setCell w' ⟨Sb, 5, none⟩ v k (by simpa using h2), fun i hi => World.cell?_setCell_other _ _ _ _ (by simp <;> omega), fun i => by simp⟩
theorem Hs.on {w w' : World} {base Sb m : Nat} {E : Nat → Og} (h : Hs w base Sb m E) (k : Below w.heap.size w w') : Hs w' base Sb m E := by
  obtain ⟨v, h1, h2⟩ := h.v
  have hs : Sb < w.heap.size := Nat.lt_of_lt_of_le h.sb h.le
  exact ⟨h.sb, Nat.le_trans h.le k.size, ⟨v, (k.cell (p := ⟨Sb, 5, none⟩) hs).trans h1, h2.below k⟩, (k.frozen (p := ⟨Sb, 5, none⟩) hs).trans h.fz, h.all, h.ok⟩
/-- another block of the search's turned -/
theorem Hs.turn {w w' : World} {base Sb m : Nat} {E : Nat → Og} (h : Hs w base Sb m E) (e : ∀ k, k < w.heap.size → base ≤ k → w'.heap[k]? = w.heap[k]?) (c : w'.cell? ⟨Sb, 5, none⟩ = w.cell? ⟨Sb, 5, none⟩) (f : w'.frozen? ⟨Sb, 5, none⟩ = w.frozen? ⟨Sb, 5, none⟩) (hs : w.heap.size ≤ w'.heap.size) : Hs w' base Sb m E := by
  obtain ⟨v, h1, h2⟩ := h.v
  exact ⟨h.sb, Nat.le_trans h.le hs, ⟨v, c.trans h1, h2.only e⟩, f.trans h.fz, h.all, h.ok⟩
/-- the block in which the openings lie -/
def hO (w : World) (Sb : Nat) : Option Nat := match w.cell? ⟨Sb, 5, none⟩ with
  | some v => v.ownBlock
  | none => none
theorem hO_at {w : World} {Sb : Nat} {v : Value} (h : w.cell? ⟨Sb, 5, none⟩ = some v) : hO w Sb = v.ownBlock := by unfold hO; rw [h]
theorem hO_same {w w' : World} {Sb : Nat} (h : w'.cell? ⟨Sb, 5, none⟩ = w.cell? ⟨Sb, 5, none⟩) : hO w' Sb = hO w Sb := by unfold hO; rw [h]
/-- nothing that there was has turned but the openings' own block and the heap's cell -/
structure Hq (Sb : Nat) (w w' : World) : Prop where
  keep : ∀ k, k < w.heap.size → k ≠ Sb → some k ≠ hO w Sb → w'.heap[k]? = w.heap[k]?
  own : hO w' Sb = hO w Sb ∨ ∃ g, hO w' Sb = some g ∧ w.heap.size ≤ g
theorem Hq.refl (Sb : Nat) (w : World) : Hq Sb w w := ⟨fun _ _ _ _ => rfl, .inl rfl⟩
theorem Hq.trans {Sb : Nat} {w w' w'' : World} (h : Hq Sb w w') (k : Hq Sb w' w'') (hs : w.heap.size ≤ w'.heap.size) : Hq Sb w w'' := by
  refine ⟨fun i h1 h2 h3 => ?_, ?_⟩
  · refine (k.keep i (by omega) h2 ?_).trans (h.keep i h1 h2 h3)
    rcases h.own with e | ⟨g, e, hg⟩
    · rw [e]; exact h3
    · rw [e]; intro q; injection q with q; omega
  · rcases k.own with e | ⟨g, e, hg⟩
    · rw [e]; exact h.own
    · exact .inr ⟨g, e, by omega⟩
theorem hq_below {Sb : Nat} {w w' : World} (h : Below w.heap.size w w') (hs : Sb < w.heap.size) : Hq Sb w w' :=
  ⟨fun k h1 _ _ => h.block k h1, .inl (hO_same (h.cell (p := ⟨Sb, 5, none⟩) hs))⟩
theorem hq_row {Sb g n cap : Nat} {w w' : World} (c5 : w.cell? ⟨Sb, 5, none⟩ = some (.slice (some ⟨g, 0, none⟩) n cap)) (c : w'.cell? ⟨Sb, 5, none⟩ = w.cell? ⟨Sb, 5, none⟩) (h : ∀ k, k < w.heap.size → k ≠ g → w'.heap[k]? = w.heap[k]?) : Hq Sb w w' :=
  ⟨fun k h1 _ h3 => h k h1 (fun e => h3 (by rw [hO_at c5, e]; rfl)), .inl (hO_same c)⟩
/-- a block that there was, and that is not the openings', stays so -/
theorem Hq.apart {Sb b : Nat} {w w' : World} (h : Hq Sb w w') (hb : b < w.heap.size) (hn : some b ≠ hO w Sb) : some b ≠ hO w' Sb := by
  rcases h.own with e | ⟨g, e, hg⟩
  · rw [e]; exact hn
  · rw [e]; intro q; injection q with q; omega
theorem Bx.hq {w w' : World} {Sb b : Nat} {vs : List Value} (h : Bx w b vs) (q : Hq Sb w w') (hb : b ≠ Sb) (hn : some b ≠ hO w Sb) (hs : w.heap.size ≤ w'.heap.size) : Bx w' b vs := by
  have e := q.keep b h.lt hb hn
  exact ⟨Nat.lt_of_lt_of_le h.lt hs, fun i hi => (cell_same e i).trans (h.c i hi), fun j => (frozen_same e j).trans (h.fz j)⟩
theorem Hs.own {w : World} {base Sb m : Nat} {E : Nat → Og} (h : Hs w base Sb m E) {b : Nat} (hb : some b = hO w Sb) : base ≤ b ∧ b < w.heap.size := by
  obtain ⟨v, h1, h2⟩ := h.v
  rw [hO_at h1] at hb
  exact World.ownsRow.lt h2 b hb.symm
theorem mtO (x : Og) (w : World) : (method 165 117 (ov x) "loop.example/g00047/impl.ahead").run Try.prog w = .ok (132, ov x) w := by kernel_rfl
end Go.Proofs.Ytfciecoigfnnhaa
