/- The search in memory, and what its steps leave as it was. -/
import Derived.Test.YtfciecoigfnnhaaQWyTkI
import Derived.Test.YtfciecoigfnnhaaQWySm
import Derived.Test.YtfciecoigfnnhaaQWyStpI
import Derived.Test.YtfciecoigfnnhaaQWyAroI
import Derived.BigRegion
import Derived.Deep.RegionHeld
import Derived.Deep.RegionHeld3
import Derived.Deep.CutRange
import Derived.Deep.Cut
import Derived.Test.YtfciecoigfnnhaaQClVal
namespace Go.Proofs.Ytfciecoigfnnhaa
open Go.RowKit

/-- tolls by one flat index -/
def f2 (A B : Nat → Int) (t : Nat) : Int := if t % 2 = 0 then A (t / 2) else B (t / 2)
theorem f2_0 (A B : Nat → Int) (i : Nat) : f2 A B (i * 2) = A i := by
  have h1 : i * 2 % 2 = 0 := by omega
  have h2 : i * 2 / 2 = i := by omega
  simp [f2, h1, h2]
theorem f2_1 (A B : Nat → Int) (i : Nat) : f2 A B (i * 2 + 1) = B i := by
  have h1 : (i * 2 + 1) % 2 = 1 := by omega
  have h2 : (i * 2 + 1) / 2 = i := by omega
  simp [f2, h1, h2]
theorem f2_put (A B : Nat → Int) (i : Nat) (a b : Int) : f2 (put A i a) (put B i b) = put (put (f2 A B) (i * 2) a) (i * 2 + 1) b := by
  funext t
  unfold put
  by_cases e : t / 2 = i
  · have ht : t = i * 2 ∨ t = i * 2 + 1 := by omega
    rcases ht with rfl | rfl
    · have h1 : i * 2 % 2 = 0 := by omega
      have h2 : i * 2 / 2 = i := by omega
      simp [f2, h1, h2]
    · have h1 : (i * 2 + 1) % 2 = 1 := by omega
      have h2 : (i * 2 + 1) / 2 = i := by omega
      simp [f2, h1, h2]
  · have h1 : t ≠ i * 2 + 1 := by omega
    have h2 : t ≠ i * 2 := by omega
    simp [f2, e, h1, h2]
/-- the search: its ground, its tolls, its map of what is left, its heap -/
structure Sr (w : World) (base Sb Tb Mb : Nat) (W H : Int) (q : Option Addr) (n c m : Nat) (E : Nat → Og) (A B : Nat → Int) (L : Int → Bool) : Prop where
  hs : Hs w base Sb m E
  s0 : w.cell? ⟨Sb, 0, none⟩ = some (.int .i64 W)
  s1 : w.cell? ⟨Sb, 1, none⟩ = some (.int .i64 H)
  s2 : w.cell? ⟨Sb, 2, none⟩ = some (.slice q n c)
  s3 : w.cell? ⟨Sb, 3, none⟩ = some (.slice (some ⟨Tb, 0, none⟩) n n)
  s4 : w.cell? ⟨Sb, 4, none⟩ = some (.map (some Mb))
  tb : IP w Tb (n * 2) (f2 A B)
  mb : LM w Mb n L
  t1 : Tb < base
  m1 : Mb < base
  d1 : Tb ≠ Sb
  d2 : Mb ≠ Sb
  d3 : Tb ≠ Mb
/-- what has turned: the search's own blocks, and the openings' -/
structure Sq (Sb Tb Mb : Nat) (w w' : World) : Prop where
  os : w'.os = w.os
  tape : w'.tape = w.tape
  output : w'.output = w.output
  size : w.heap.size ≤ w'.heap.size
  keep : ∀ k, k < w.heap.size → k ≠ Sb → k ≠ Tb → k ≠ Mb → some k ≠ hO w Sb → w'.heap[k]? = w.heap[k]?
  own : hO w' Sb = hO w Sb ∨ ∃ g, hO w' Sb = some g ∧ w.heap.size ≤ g
theorem Sq.refl (Sb Tb Mb : Nat) (w : World) : Sq Sb Tb Mb w w := ⟨rfl, rfl, rfl, Nat.le_refl _, fun _ _ _ _ _ _ => rfl, .inl rfl⟩
theorem Sq.trans {Sb Tb Mb : Nat} {w w' w'' : World} (h : Sq Sb Tb Mb w w') (k : Sq Sb Tb Mb w' w'') : Sq Sb Tb Mb w w'' := by
  have hz := h.size
  refine ⟨k.os.trans h.os, k.tape.trans h.tape, k.output.trans h.output, Nat.le_trans h.size k.size, fun i h1 h2 h3 h4 h5 => ?_, ?_⟩
  · refine (k.keep i (by omega) h2 h3 h4 ?_).trans (h.keep i h1 h2 h3 h4 h5)
    rcases h.own with e | ⟨g, e, hg⟩
    · rw [e]; exact h5
    · rw [e]; intro q; injection q with q; omega
  · rcases k.own with e | ⟨g, e, hg⟩
    · rw [e]; exact h.own
    · exact .inr ⟨g, e, by omega⟩
theorem sq_of {base Sb Tb Mb : Nat} {w w' : World} (h : Ht base Sb w w') (q : Hq Sb w w') : Sq Sb Tb Mb w w' :=
  ⟨h.os, h.tape, h.output, h.size, fun k h1 h2 _ _ h5 => q.keep k h1 h2 h5, q.own⟩
theorem sq_below {Sb Tb Mb : Nat} {w w' : World} (h : Below w.heap.size w w') (hs : Sb < w.heap.size) : Sq Sb Tb Mb w w' :=
  ⟨h.os, h.tape, h.output, h.size, fun k h1 _ _ _ _ => h.block k h1, (hq_below h hs).own⟩
theorem Sq.apart {Sb Tb Mb b : Nat} {w w' : World} (h : Sq Sb Tb Mb w w') (hb : b < w.heap.size) (hn : some b ≠ hO w Sb) : some b ≠ hO w' Sb := by
  rcases h.own with e | ⟨g, e, hg⟩
  · rw [e]; exact hn
  · rw [e]; intro q; injection q with q; omega
theorem Bx.sq {w w' : World} {Sb Tb Mb b : Nat} {vs : List Value} (h : Bx w b vs) (q : Sq Sb Tb Mb w w') (h1 : b ≠ Sb) (h2 : b ≠ Tb) (h3 : b ≠ Mb) (hn : some b ≠ hO w Sb) : Bx w' b vs := by
  have e := q.keep b h.lt h1 h2 h3 hn
  exact ⟨Nat.lt_of_lt_of_le h.lt q.size, fun i hi => (cell_same e i).trans (h.c i hi), fun j => (frozen_same e j).trans (h.fz j)⟩
theorem Sq.below {Sb Tb Mb base m B0 : Nat} {E : Nat → Og} {w w' : World} (h : Sq Sb Tb Mb w w') (hs : Hs w base Sb m E) (h1 : B0 ≤ Sb) (h2 : B0 ≤ Tb) (h3 : B0 ≤ Mb) : Below B0 w w' := by
  have hsb := hs.sb
  have hle := hs.le
  refine ⟨h.os, h.tape, h.output, h.size, fun k hk => h.keep k (by omega) (by omega) (by omega) (by omega) ?_⟩
  intro q
  have := (hs.own q).1
  omega
theorem il_b0 {w w' : World} {B0 : Nat} {q : Option Addr} {n : Nat} {f : Nat → Int} (h : IL w q n f) (hq : 0 < n → ∃ x o, q = some ⟨x, o, none⟩ ∧ x < B0) (k : Below B0 w w') : IL w' q n f := fun h0 => by
  obtain ⟨b, off, e, hb, hc⟩ := h h0
  obtain ⟨x, o, e2, hx⟩ := hq h0
  rw [e] at e2
  have e3 : b = x := by injection e2 with e2; injection e2
  subst e3
  exact ⟨b, off, e, Nat.lt_of_lt_of_le hb k.size, fun i hi => (k.cell (p := ⟨b, off + i, none⟩) hx).trans (hc i hi)⟩
theorem Sr.on {w w' : World} {base Sb Tb Mb : Nat} {W H : Int} {q : Option Addr} {n c m : Nat} {E : Nat → Og} {A B : Nat → Int} {L : Int → Bool} (h : Sr w base Sb Tb Mb W H q n c m E A B L) (k : Below w.heap.size w w') : Sr w' base Sb Tb Mb W H q n c m E A B L := by
  have hsb := h.hs.sb
  have hle := h.hs.le
  have ht := h.t1
  have hm := h.m1
  exact ⟨h.hs.on k, (k.cell (p := ⟨Sb, 0, none⟩) (by simp; omega)).trans h.s0, (k.cell (p := ⟨Sb, 1, none⟩) (by simp; omega)).trans h.s1, (k.cell (p := ⟨Sb, 2, none⟩) (by simp; omega)).trans h.s2, (k.cell (p := ⟨Sb, 3, none⟩) (by simp; omega)).trans h.s3, (k.cell (p := ⟨Sb, 4, none⟩) (by simp; omega)).trans h.s4, h.tb.below k (by omega), h.mb.heap (k.block Mb (by omega)), h.t1, h.m1, h.d1, h.d2, h.d3⟩
theorem Sr.ht {w w' : World} {base Sb Tb Mb : Nat} {W H : Int} {q : Option Addr} {n c m m' : Nat} {E E' : Nat → Og} {A B : Nat → Int} {L : Int → Bool} (h : Sr w base Sb Tb Mb W H q n c m E A B L) (T : Ht base Sb w w') (S : Hs w' base Sb m' E') : Sr w' base Sb Tb Mb W H q n c m' E' A B L := by
  have e := T.block Tb h.t1 h.d1
  refine ⟨S, (T.sbc 0 (by omega)).trans h.s0, (T.sbc 1 (by omega)).trans h.s1, (T.sbc 2 (by omega)).trans h.s2, (T.sbc 3 (by omega)).trans h.s3, (T.sbc 4 (by omega)).trans h.s4, ⟨Nat.lt_of_lt_of_le h.tb.lt T.size, fun i hi => (cell_same e i).trans (h.tb.c i hi), fun j => (frozen_same e j).trans (h.tb.fz j)⟩, h.mb.heap (T.block Mb h.m1 h.d2), h.t1, h.m1, h.d1, h.d2, h.d3⟩
/-- a toll is stored -/
theorem Sr.toll {w : World} {base Sb Tb Mb : Nat} {W H : Int} {q : Option Addr} {n c m : Nat} {E : Nat → Og} {A B : Nat → Int} {L : Int → Bool} (h : Sr w base Sb Tb Mb W H q n c m E A B L) {i : Nat} (hi : i < n) (a b : Int) :
    Sr ((w.setCell ⟨Tb, i * 2, none⟩ (.int .i64 a)).setCell ⟨Tb, i * 2 + 1, none⟩ (.int .i64 b)) base Sb Tb Mb W H q n c m E (put A i a) (put B i b) L ∧ Sq Sb Tb Mb w ((w.setCell ⟨Tb, i * 2, none⟩ (.int .i64 a)).setCell ⟨Tb, i * 2 + 1, none⟩ (.int .i64 b)) := by
  have ot : ∀ k, k ≠ Tb → ((w.setCell ⟨Tb, i * 2, none⟩ (.int .i64 a)).setCell ⟨Tb, i * 2 + 1, none⟩ (.int .i64 b)).heap[k]? = w.heap[k]? := fun k hk => (Below.heap_setCell _ ⟨Tb, _, none⟩ _ k hk).trans (Below.heap_setCell _ ⟨Tb, _, none⟩ _ k hk)
  have eS := ot Sb (Ne.symm h.d1)
  have ht := h.t1
  have sz : ((w.setCell ⟨Tb, i * 2, none⟩ (.int .i64 a)).setCell ⟨Tb, i * 2 + 1, none⟩ (.int .i64 b)).heap.size = w.heap.size := by simp
  have tb := (h.tb.set (k := i * 2) (by omega) a).set (k := i * 2 + 1) (by omega) b
  rw [← f2_put] at tb
  refine ⟨⟨h.hs.turn (fun k _ hk => ot k (by omega)) (cell_same eS 5) (frozen_same eS 5) (by rw [sz]; exact Nat.le_refl _), (cell_same eS 0).trans h.s0, (cell_same eS 1).trans h.s1, (cell_same eS 2).trans h.s2, (cell_same eS 3).trans h.s3, (cell_same eS 4).trans h.s4, tb, h.mb.heap (ot Mb (Ne.symm h.d3)), h.t1, h.m1, h.d1, h.d2, h.d3⟩, ?_⟩
  exact ⟨rfl, rfl, rfl, by rw [sz]; exact Nat.le_refl _, fun k _ _ h3 _ _ => ot k h3, .inl (hO_same (cell_same eS 5))⟩
/-- something is struck off, or added to, what is left -/
theorem Sr.left {w w' : World} {base Sb Tb Mb : Nat} {W H : Int} {q : Option Addr} {n c m : Nat} {E : Nat → Og} {A B : Nat → Int} {L L' : Int → Bool} (h : Sr w base Sb Tb Mb W H q n c m E A B L) (hg : w.grownBy w' (some Mb)) (hm : LM w' Mb n L') :
    Sr w' base Sb Tb Mb W H q n c m E A B L' ∧ Sq Sb Tb Mb w w' := by
  have hsb := h.hs.sb
  have hle := h.hs.le
  have ht := h.t1
  have hm1 := h.m1
  have ot : ∀ k, k < w.heap.size → k ≠ Mb → w'.heap[k]? = w.heap[k]? := fun k h1 h2 => hg.block k h1 (fun e => h2 (by injection e))
  have eS := ot Sb (by omega) (Ne.symm h.d2)
  have eT := ot Tb (by omega) h.d3
  refine ⟨⟨h.hs.turn (fun k h1 hk => ot k h1 (by omega)) (cell_same eS 5) (frozen_same eS 5) hg.size, (cell_same eS 0).trans h.s0, (cell_same eS 1).trans h.s1, (cell_same eS 2).trans h.s2, (cell_same eS 3).trans h.s3, (cell_same eS 4).trans h.s4, ⟨Nat.lt_of_lt_of_le h.tb.lt hg.size, fun i hi => (cell_same eT i).trans (h.tb.c i hi), fun j => (frozen_same eT j).trans (h.tb.fz j)⟩, hm, h.t1, h.m1, h.d1, h.d2, h.d3⟩, ?_⟩
  exact ⟨hg.os, hg.tape, hg.output, hg.size, fun k h1 _ _ h4 _ => ot k h1 h4, .inl (hO_same (cell_same eS 5))⟩
theorem Sr.drew {w : World} {base Sb Tb Mb : Nat} {W H : Int} {q : Option Addr} {n c m : Nat} {E : Nat → Og} {A B : Nat → Int} {L : Int → Bool} (h : Sr w base Sb Tb Mb W H q n c m E A B L) : Sr w.drew base Sb Tb Mb W H q n c m E A B L := h.on (Below.refl _ _).drew
theorem Sq.drew {Sb Tb Mb : Nat} {w w' : World} (h : Sq Sb Tb Mb w w') : Sq Sb Tb Mb w w'.drew := ⟨h.os, h.tape, h.output, h.size, h.keep, h.own⟩
/-- delete, at a step of a region -/
theorem step_delete {ops : Array Oper} {o : Oper} {a : Act} {K : Act → World → Prop} {Q : Exit → Act → World → Prop} {F : Prop} {w w' : World} {Mb : Nat} {x : Int} (hgd : o.guard = none) (s t : Operand) (ho : o.op = .call { callee := .builtin .delete, args := #[s, t], argTypes := #[78, 3] })
    (hs : a.eval s = .map (some Mb)) (ht : a.eval t = .int .i64 x) (hr : (Builtin.delete_ #[78, 3] o.type #[.map (some Mb), .int .i64 x]).run Try.prog w = .ok (.tuple #[]) w') (h : K (a.put o.dst (.tuple #[])) w') :
    if Region.wanted o (yielded ops a.tmps) = true then Oper.wp Try.prog o a w K Q else F := by
  have hw : Region.wanted o (yielded ops a.tmps) = true := by simp [Region.wanted, hgd]
  rw [if_pos hw]
  unfold Oper.wp execOp
  simp only [ho, resolve, invoke, builtin, Sem.run_bind, Sem.run_pure, Result.andThen_ok, List.map_toArray, List.map_cons, List.map_nil, hs, ht, hr]
  exact h
end Go.Proofs.Ytfciecoigfnnhaa

/- The search begins: its tolls, its map and its heap are made. -/
namespace Go.Proofs.Ytfciecoigfnnhaa
open Go.RowKit

theorem infoT : (Try.prog.info? 88).map (fun i => (i.zero, i.size, i.bytes)) = some (some (.agg #[.int .i64 0, .int .i64 0]), 2, 16) := by kernel_rfl
abbrev tlsO (n : Nat) : Obj := .cells (madeCells #[.int .i64 0, .int .i64 0] (n * 2)) 88
/-- make of n tolls -/
theorem run_make_tolls (n : Nat) (hn : n ≤ 1048576) (w : World) :
    (Instr.makeSlice 77 (.int .i64 (n : Int)) (.int .i64 (n : Int))).run Try.prog w = .ok (.slice (some ⟨w.heap.size, 0, none⟩) n n) (w.alloc (tlsO n)) := by
  obtain ⟨i, hi, hzz⟩ := Option.map_eq_some_iff.1 infoT
  simp only [Prod.mk.injEq] at hzz
  obtain ⟨hz, hs, hb⟩ := hzz
  have hr := run_make (P := Try.prog) w 77 88 i _ Try.underlying77 hi hz .i64 .i64 (n : Int) (n : Int) (by omega) (Int.le_refl _) (by rw [hb]; omega) (by omega)
  simp only [Int.toNat_natCast, hs] at hr
  exact hr
theorem made_tolls (w : World) (n : Nat) : IP (w.alloc (tlsO n)) w.heap.size (n * 2) (fun _ => 0) := by
  have hs : (madeCells #[Value.int .i64 0, .int .i64 0] (n * 2)).size = n * 2 := size_madeCells _ _
  have hr := World.rowIs_alloc w (madeCells #[Value.int .i64 0, .int .i64 0] (n * 2)) 88 (fun _ => .int .i64 0) (by
    intro j hj
    rw [hs] at hj
    rcases Nat.mod_two_eq_zero_or_one j with e | e <;> simp [madeCells, hj, e])
  rw [hs] at hr
  exact ⟨hr.lt, fun i hi => hr.cell hi, fun j => hr.frozen j⟩
abbrev srZ : Obj := .cells #[.int .i64 0, .int .i64 0, .slice none 0 0, .slice none 0 0, .map none, .slice none 0 0] 83
abbrev srL (W H : Int) (q : Option Addr) (n c Tb Mb : Nat) : List Value := [.int .i64 W, .int .i64 H, .slice q n c, .slice (some ⟨Tb, 0, none⟩) n n, .map (some Mb), .slice none 0 0]
/-- what is made at the beginning -/
def CutI (w1 wx : World) (W H : Int) (q : Option Addr) (n c : Nat) (s : Value) : Prop :=
  ∃ Sb Tb Mb, s = .pointer (some ⟨Sb, 0, none⟩) ∧ w1.heap.size ≤ Sb ∧ w1.heap.size ≤ Tb ∧ w1.heap.size ≤ Mb ∧ Tb ≠ Sb ∧ Mb ≠ Sb ∧ Tb ≠ Mb ∧ Bx wx Sb (srL W H q n c Tb Mb) ∧ IP wx Tb (n * 2) (fun _ => 0) ∧ LM wx Mb 0 (fun _ => false) ∧ Below w1.heap.size w1 wx

theorem al_keep (w : World) (o : Obj) : Below w.heap.size w (w.alloc o) := (Below.refl _ _).alloc (Nat.le_refl _) o
theorem al2_keep (w : World) (o o' : Obj) : Below w.heap.size w ((w.alloc o).alloc o') := stepA (al_keep w o) (al_keep _ o')
theorem al3_drew (w : World) (o o' o'' : Obj) : Below w.heap.size w (((w.alloc o).alloc o').alloc o'').drew := (stepA (al2_keep w o o') (al_keep _ o'')).drew
theorem ip_drew {w : World} {b n : Nat} {F : Nat → Int} (h : IP w b n F) : IP w.drew b n F := ⟨h.lt, h.c, h.fz⟩
end Go.Proofs.Ytfciecoigfnnhaa

/- What a region leaves that lays a step's toll into a new variable. -/
namespace Go.Proofs.Ytfciecoigfnnhaa
open Go.RowKit
/-- what a region leaves that lays a step's toll into a new variable -/
def CutT (wr wx : World) (u v : Int) (q : Bool) (s1 s2 : Value) : Prop := ∃ g, s1 = .pointer (some ⟨g, 0, none⟩) ∧ s2 = .bool q ∧ wr.heap.size ≤ g ∧ Bx wx g [.int .i64 u, .int .i64 v] ∧ Below wr.heap.size wr wx
end Go.Proofs.Ytfciecoigfnnhaa
