/- The program's order of stamped words: compareStamps. -/
import Derived.Test.YteknkgfgefhloaaMgC
import Derived.Sort.Grow
namespace Go.Proofs.Yteknkgfgefhloaa
open Go.RowKit
/-- what was there is as it was, and the draws have not gone back -/
structure Gw (w w' : World) : Prop where
  b : Below w.heap.size w w'
  d : w.drawn ≤ w'.drawn
theorem Gw.refl (w : World) : Gw w w := ⟨Below.refl _ _, Nat.le_refl _⟩
theorem Gw.drew {w w' : World} (h : Gw w w') : Gw w w'.drew := ⟨h.b.drew, Nat.le_trans h.d (Nat.le_succ _)⟩
theorem Gw.alloc {w w' : World} (h : Gw w w') (o : Obj) : Gw w (w'.alloc o) := ⟨h.b.alloc h.b.size o, h.d⟩
theorem Gw.trans {a b c : World} (h : Gw a b) (k : Gw b c) : Gw a c := ⟨stepA h.b k.b, Nat.le_trans h.d k.d⟩
theorem Gw.grown {w w' : World} (h : Gw w w') : ∃ q os, w' = Go.Sort.grow (w.drewN q) os := by
  obtain ⟨⟨h1, h2, h3, h4, h5⟩, h6⟩ := h
  refine ⟨w'.drawn - w.drawn, w'.heap.extract w.heap.size w'.heap.size, ?_⟩
  obtain ⟨hp, tp, dr, os, out⟩ := w'
  obtain ⟨hp0, tp0, dr0, os0, out0⟩ := w
  simp only at h1 h2 h3 h4 h5 h6
  subst h1; subst h2; subst h3
  have e1 : hp = hp0 ++ hp.extract hp0.size hp.size := by
    apply Array.ext_getElem?
    intro i
    by_cases hi : i < hp0.size
    · rw [h5 i hi, Array.getElem?_append_left hi]
    · rw [Array.getElem?_append_right (by omega), Array.getElem?_extract]
      by_cases hj : i < hp.size
      · rw [if_pos (by omega)]; congr 1; omega
      · rw [if_neg (by omega)]; simp; omega
  have e2 : dr = dr0 + (dr - dr0) := by omega
  show World.mk hp _ dr _ _ = World.mk (hp0 ++ hp.extract hp0.size hp.size) _ (dr0 + (dr - dr0)) _ _
  rw [← e1, ← e2]
  rfl
theorem keep4_c {w w' : World} {b1 b2 : Nat} {v1 v2 v5 v6 : Value} (x0 : w.cell? ⟨b1, 0, none⟩ = some v1) (x1 : w.cell? ⟨b1, 1, none⟩ = some v2) (y0 : w.cell? ⟨b2, 0, none⟩ = some v5) (y1 : w.cell? ⟨b2, 1, none⟩ = some v6) (l1 : b1 < w.heap.size) (l2 : b2 < w.heap.size) (k : Below w.heap.size w w') :
    w'.cell? ⟨b1, 0, none⟩ = some v1 ∧ w'.cell? ⟨b1, 1, none⟩ = some v2 ∧ w'.cell? ⟨b2, 0, none⟩ = some v5 ∧ w'.cell? ⟨b2, 1, none⟩ = some v6 :=
  ⟨(k.cell (p := ⟨b1, _, none⟩) l1).trans x0, (k.cell (p := ⟨b1, _, none⟩) l1).trans x1, (k.cell (p := ⟨b2, _, none⟩) l2).trans y0, (k.cell (p := ⟨b2, _, none⟩) l2).trans y1⟩
theorem cmp_b (x y : Int) (w : World) : Calls Try.prog 62 #[.int .i64 x, .int .i64 y] w fun e w' => e = .returned (.int .i64 (cmpI x y)) ∧ Gw w w' :=
  (cmp_any x y w).mono (by rintro e w' ⟨rfl, rfl⟩; exact ⟨rfl, Gw.refl _⟩)
theorem or_b (x y : Int) (w : World) : Calls Try.prog 61 #[.slice (some ⟨w.heap.size, 0, none⟩) 2 2] (w.alloc (.cells #[.int .i64 x, .int .i64 y] 3)) fun e w' => e = .returned (.int .i64 (orI x y)) ∧ Gw (w.alloc (.cells #[.int .i64 x, .int .i64 y] 3)) w' := by
  have b := bx_new (w := w) (b := w.heap.size) [.int .i64 x, .int .i64 y] 3 rfl
  refine (or_two x y w.heap.size (w.alloc (.cells #[.int .i64 x, .int .i64 y] 3)) b.c0 b.c1).mono ?_
  rintro e w' ⟨rfl, rfl⟩
  exact ⟨rfl, Gw.refl _⟩
set_option maxHeartbeats 2000000 in
theorem iCompareG (a b c d e f : Int) (w : World) :
    Calls Try.prog 41 #[spv a b c, spv d e f] w fun r w' => r = .returned (.int .i64 (cmpS (a, b, c) (d, e, f))) ∧ Gw w w' := by
  have hB : Gw w ((w.alloc (.cells #[.int .i64 a, .int .i64 b, .int .i64 c] 29)).alloc (.cells #[.int .i64 d, .int .i64 e, .int .i64 f] 29)) := ((Gw.refl _).alloc _).alloc _
  have b0 := (bx_new (w := w) (b := w.heap.size) [.int .i64 a, .int .i64 b, .int .i64 c] 29 rfl).alloc (.cells #[.int .i64 d, .int .i64 e, .int .i64 f] 29)
  have b1 := bx_new (w := w.alloc (.cells #[.int .i64 a, .int .i64 b, .int .i64 c] 29)) (b := w.heap.size + 1) [.int .i64 d, .int .i64 e, .int .i64 f] 29 (by simp)
  have x0 := b0.c0
  have x1 := b0.c1
  have y0 := b1.c0
  have y1 := b1.c1
  have k1 := fun w => cmp_b a d w
  have k2 := fun w => cmp_b b e w
  unfold cmpS
  simp only
  generalize cmpI a d = X at *
  generalize cmpI b e = Y at *
  have kor := fun w => or_b X Y w
  generalize orI X Y = V at *
  have l1 : w.heap.size < ((w.alloc (.cells #[.int .i64 a, .int .i64 b, .int .i64 c] 29)).alloc (.cells #[.int .i64 d, .int .i64 e, .int .i64 f] 29)).heap.size := by simp; omega
  have l2 : w.heap.size + 1 < ((w.alloc (.cells #[.int .i64 a, .int .i64 b, .int .i64 c] 29)).alloc (.cells #[.int .i64 d, .int .i64 e, .int .i64 f] 29)).heap.size := by simp
  clear b0 b1
  go_enter Try.func41, Try.ntmps41
  go_upto_region 1 with fail
  generalize ((w.alloc (.cells #[.int .i64 a, .int .i64 b, .int .i64 c] 29)).alloc (.cells #[.int .i64 d, .int .i64 e, .int .i64 f] 29)) = wb at *
  have hw0 := Gw.refl wb
  go_region_held3 (fun w' => w'.cell? ⟨w.heap.size, 0, none⟩ = some (.int .i64 a) ∧ w'.cell? ⟨w.heap.size, 1, none⟩ = some (.int .i64 b) ∧ w'.cell? ⟨w.heap.size + 1, 0, none⟩ = some (.int .i64 d) ∧ w'.cell? ⟨w.heap.size + 1, 1, none⟩ = some (.int .i64 e)) (first | (exact keep4_c x0 x1 y0 y1 l1 l2 hw0.drew.b) | (exact keep4_c x0 x1 y0 y1 l1 l2 hw3.b) | (exact keep4_c x0 x1 y0 y1 l1 l2 (hw2.alloc _).b) | (exact keep4_c x0 x1 y0 y1 l1 l2 hw2.b) | (exact keep4_c x0 x1 y0 y1 l1 l2 hw1.b) | (fail)) (first | (go_at_call_of 62 a; refine (k1 _).mono ?_; rintro e w1 ⟨rfl, hb⟩; have hw1 := hw0.drew.trans hb; clear hb) | (go_at_call 62; refine (k2 _).mono ?_; rintro e w2 ⟨rfl, hb⟩; have hw2 := hw1.trans hb; clear hb) | (go_at_call 61; refine (kor _).mono ?_; rintro e w3 ⟨rfl, hb⟩; have hw3 := (hw2.alloc _).trans hb; clear hb) | (fail))
  have hB1 := hB.trans hw3
  clear x0 x1 y0 y1
  go_wp2
  go_ret
  exact ⟨rfl, hB1⟩
theorem iCompare (a b c d e f : Int) (w : World) :
    Calls Try.prog 41 #[spv a b c, spv d e f] w fun r w' => r = .returned (.int .i64 (cmpS (a, b, c) (d, e, f))) ∧ Below w.heap.size w w' :=
  (iCompareG a b c d e f w).mono fun _ _ h => ⟨h.1, h.2.b⟩
end Go.Proofs.Yteknkgfgefhloaa
