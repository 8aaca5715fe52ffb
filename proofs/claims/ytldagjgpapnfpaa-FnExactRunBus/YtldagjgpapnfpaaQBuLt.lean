/- Talkers: the law's own copies of them, whole. -/
import Derived.Test.YtldagjgpapnfpaaQBuL
namespace Go.Proofs.Ytldagjgpapnfpaa
open Go.RowKit
set_option maxRecDepth 20000 in
set_option maxHeartbeats 4000000 in
theorem toTalker_at (qa : Option Addr) (m qc : Nat) (sh er : Int) (of : Bool) (I : Nat → Int) (A : Nat → Option Addr) (N C : Nat → Nat) (S : Nat → Nat → Int) (w : World) (hm : m ≤ 1048576) (hN : ∀ j, j < m → N j ≤ 1048576) (hF : FrH w qa m I A N C) (hY : ∀ j, j < m → YL w (A j) (N j) (S j)) :
    Calls Try.prog 38 #[tkv qa m qc sh er of] w fun e w' => ∃ b, e = .returned (tkv (some ⟨b, 0, none⟩) m m sh er of) ∧ FrQ w' w.heap.size w'.heap.size (some ⟨b, 0, none⟩) m I N S ∧ Below w.heap.size w w' := by
  have h1 : Below w.heap.size w (w.alloc (tkO qa m qc sh er of 76)) := (Below.refl _ _).alloc (Nat.le_refl _) _
  have b0 := bx_new (w := w) (tkL qa m qc sh er of) 76 rfl
  generalize hW1 : w.alloc (tkO qa m qc sh er of 76) = W1 at *
  have hz1 : W1.heap.size = w.heap.size + 1 := by rw [← hW1]; simp
  have h2 : Below w.heap.size w (W1.alloc (tkO none 0 0 0 0 false 51)) := h1.alloc (by omega) _
  have b1 := bx_new (w := W1) (tkL none 0 0 0 0 false) 51 rfl
  have b0' := b0.alloc (tkO none 0 0 0 0 false 51)
  generalize hW2 : W1.alloc (tkO none 0 0 0 0 false 51) = W2 at *
  have hz2 : W2.heap.size = w.heap.size + 2 := by rw [← hW2]; simp; omega
  have h3 : Below w.heap.size w (W2.alloc (tkO none 0 0 0 0 false 51)) := h2.alloc (by omega) _
  have b2 := bx_new (w := W2) (tkL none 0 0 0 0 false) 51 rfl
  have b1' := b1.alloc (tkO none 0 0 0 0 false 51)
  have b0'' := b0'.alloc (tkO none 0 0 0 0 false 51)
  have kF := toFrameS_any qa m qc I A N C S (W2.alloc (tkO none 0 0 0 0 false 51)) hm hN (hF.below h3) (fun j hj => (hY j hj).below h3)
  subst hW1
  subst hW2
  simp only [size_al] at *
  clear hz1 hz2 h1 h2 b0 b0' b1 hF hY hN
  go_enter Try.func38, Try.ntmps38
  go_upto_region 2 with fail
  generalize hW3 : ((w.alloc (tkO qa m qc sh er of 76)).alloc (tkO none 0 0 0 0 false 51)).alloc (tkO none 0 0 0 0 false 51) = W3 at *
  have HZ3 : Hid (W3.heap.size = w.heap.size + 3) := by show _ = _; rw [← hW3]; simp
  clear hW3
  have x0 := b0''.c0
  have l0 := b0''.lt
  go_wp2_with fail
  refine kF.mono ?_
  rintro e w4 ⟨rfl, hQ, hlt4, hb4⟩
  have hB4 := stepA h3 hb4
  have a0 := b0''.on hb4
  have a1 := b1'.on hb4
  have a2 := b2.on hb4
  clear kF x0 l0 b0'' b1' b2 h3 hb4
  generalize hgq : W3.heap.size = gq at *
  clear hgq
  have x1 := a0.c1
  have x2 := a0.c2
  have x3 := a0.c3
  have l0 := a0.lt
  have y0 := a2.c0
  have y1 := a2.c1
  have y2 := a2.c2
  have y3 := a2.c3
  have l2 := a2.lt
  have f0 := a2.fz 0
  have f1 := a2.fz 1
  have f2 := a2.fz 2
  have f3 := a2.fz 3
  have r0 := a1.c0
  have r1 := a1.c1
  have r2 := a1.c2
  have r3 := a1.c3
  have l1 := a1.lt
  have q0 := a1.fz 0
  have q1 := a1.fz 1
  have q2 := a1.fz 2
  have q3 := a1.fz 3
  have o2 := ((((Only.refl (w.heap.size + 1 + 1) w4).set 0 (.slice (some ⟨gq, 0, none⟩) m m)).set 1 (.int .i64 sh)).set 2 (.int .i64 er)).set 3 (.bool of)
  have e1 := a1.only (OnlyIn.of o2 (Nat.le_refl _) (Nat.lt_succ_self _)) (by omega)
  have o1 := ((((Only.refl (w.heap.size + 1) ((((w4.setCell ⟨w.heap.size + 1 + 1, 0, none⟩ (.slice (some ⟨gq, 0, none⟩) m m)).setCell ⟨w.heap.size + 1 + 1, 1, none⟩ (.int .i64 sh)).setCell ⟨w.heap.size + 1 + 1, 2, none⟩ (.int .i64 er)).setCell ⟨w.heap.size + 1 + 1, 3, none⟩ (.bool of))).set 0 (.slice (some ⟨gq, 0, none⟩) m m)).set 1 (.int .i64 sh)).set 2 (.int .i64 er)).set 3 (.bool of)
  have bR := (((e1.set 0 (by simp) (.slice (some ⟨gq, 0, none⟩) m m)).set 1 (by simp) (.int .i64 sh)).set 2 (by simp) (.int .i64 er)).set 3 (by simp) (.bool of)
  have hQ5 := (hQ.turns (OnlyIn.of o2 (Nat.le_refl _) (Nat.lt_succ_self _)).turns (.inr (by have := HZ3.out; omega))).turns (OnlyIn.of o1 (Nat.le_refl _) (Nat.lt_succ_self _)).turns (.inr (by have := HZ3.out; omega))
  have hB6 := (hB4.trans (o2.below.mono (by omega))).trans (o1.below.mono (by omega))
  have HQ6 := hQ5.wide (show w.heap.size ≤ gq by have := HZ3.out; omega) (Nat.le_of_eq (o1.size.trans o2.size).symm)
  clear o1 o2 e1 hQ hQ5 hB4 a0 a1 a2
  go_wp2_with fail
  refine ret_tkv Try.results38 rfl bR rfl ?_
  exact ⟨_, rfl, HQ6, hB6⟩
end Go.Proofs.Ytldagjgpapnfpaa
