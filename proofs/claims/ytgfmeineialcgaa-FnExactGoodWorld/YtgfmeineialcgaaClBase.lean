/- Cells: the law's own copies of them, compared, marked, and held. -/
import Derived.Test.YtgfmeineialcgaaLqCopy
import Derived.Test.YtgfmeineialcgaaLqSz
import Derived.Test.YtgfmeineialcgaaClVal
namespace Go.Proofs.Ytgfmeineialcgaa
open Go.RowKit

set_option maxHeartbeats 1000000 in
theorem toCells_any (W : Int) (a : Option Addr) (n c : Nat) (f : Nat → Int) (w : World) (hn : n ≤ 1048576) (hf : IL w a n f) :
    Calls Try.prog 13 #[cel W a n c] w fun e w' => ∃ a', e = .returned (cel W a' n n) ∧ LQ w' w.heap.size w'.heap.size a' n f ∧ Below w.heap.size w w' := by
  go_enter Try.func13, Try.ntmps13
  go_wp2_with fail
  refine (copyQ a n c f _ hn (((hf.alloc _).alloc _).alloc _)).mono ?_
  rintro e w1 ⟨rfl, hL1, hs1, hb1⟩
  have bO := (((bx_new (w := w.alloc (celO W a n c 24)) (b := w.heap.size + 1) (celL 0 none 0 0) 29 (by simp)).alloc _).on hb1)
  have bT := ((bx_new (w := (w.alloc (celO W a n c 24)).alloc (celO 0 none 0 0 29)) (b := w.heap.size + 1 + 1) (celL W none 0 0) 29 (by simp)).on hb1)
  have hB1 := below_al (below_al (below_al hb1))
  simp only [size_al] at hL1 hs1
  clear hb1
  have y0 := bT.c0
  have y1 := bT.c1
  have yf := bT.fz 1
  have z0 := bO.c0
  have z1 := bO.c1
  have zf0 := bO.fz 0
  have zf1 := bO.fz 1
  have bR := ((bO.far (b' := w.heap.size + 1 + 1) (k := 1) (.slice (some ⟨w.heap.size + 1 + 1 + 1, 0, none⟩) n n) (by omega)).set 0 (by simp) (.int .i64 W)).set 1 (by simp) (.slice (some ⟨w.heap.size + 1 + 1 + 1, 0, none⟩) n n)
  have hL4 := lq_set (lq_set (lq_set hL1 (b := w.heap.size + 1 + 1) (k := 1) (.slice (some ⟨w.heap.size + 1 + 1 + 1, 0, none⟩) n n) (by omega)) (b := w.heap.size + 1) (k := 0) (.int .i64 W) (by omega)) (b := w.heap.size + 1) (k := 1) (.slice (some ⟨w.heap.size + 1 + 1 + 1, 0, none⟩) n n) (by omega)
  have hB4 := ((hB1.setCell (p := ⟨w.heap.size + 1 + 1, 1, none⟩) (by simp <;> omega) (.slice (some ⟨w.heap.size + 1 + 1 + 1, 0, none⟩) n n)).setCell (p := ⟨w.heap.size + 1, 0, none⟩) (by simp <;> omega) (.int .i64 W)).setCell (p := ⟨w.heap.size + 1, 1, none⟩) (by simp <;> omega) (.slice (some ⟨w.heap.size + 1 + 1 + 1, 0, none⟩) n n)
  go_wp2_with fail
  refine ret_cel Try.results13 rfl bR.c0 bR.c1 rfl ?_
  exact ⟨_, rfl, hL4.wide (by omega) (by simp only [size_set]; omega), hB4⟩

set_option maxHeartbeats 1000000 in
theorem eqCells_any (W : Int) (a a2 : Option Addr) (n c c2 : Nat) (f : Nat → Int) (w : World) (hn : n ≤ 1048576) (hf : IL w a n f) (hf2 : IL w a2 n f) :
    Calls Try.prog 17 #[cel W a n c, cel W a2 n c2] w fun e w' => e = .returned (.bool true) ∧ Below w.heap.size w w' := by
  go_enter Try.func17, Try.ntmps17
  go_wp2_with fail
  refine (eqI_any a a2 n c c2 f _ hn ((hf.alloc _).alloc _) ((hf2.alloc _).alloc _)).mono ?_
  rintro e w1 ⟨rfl, hb1⟩
  have hB1 := below_al (below_al hb1)
  clear hb1
  go_wp2
  go_ret
  exact ⟨rfl, hB1⟩

set_option maxHeartbeats 1000000 in
theorem szCells_in (W : Int) (a : Option Addr) (n c : Nat) (w : World) (h : n ≤ 1048576) :
    Calls Try.prog 9 #[cel W a n c, .int .i64 1048576] w fun e w' => e = .returned (.int .i64 (1048576 - (n : Int))) ∧ Below w.heap.size w w' := by
  have j1 : ¬ (1048576 : Int) - (n : Int) < 0 := by omega
  have hb0 : Below w.heap.size w (w.alloc (celO W a n c 24)) := (Below.refl _ _).alloc (Nat.le_refl _) _
  go_enter Try.func9, Try.ntmps9
  go_wp2_with fail
  refine (szI_in a n c 1048576 _ (by omega) (by omega)).mono ?_
  rintro e w1 ⟨rfl, hw1⟩
  have hs1 := hw1.symm
  clear hw1
  subst hs1
  go_wp2
  go_ret
  exact ⟨rfl, hb0⟩
set_option maxHeartbeats 1000000 in
theorem szCells_out (W : Int) (a : Option Addr) (n c : Nat) (w : World) (h : 1048576 < n) (hn : n ≤ 9223372036854775807) :
    Calls Try.prog 9 #[cel W a n c, .int .i64 1048576] w fun e w' => e = .returned (.int .i64 (-1)) ∧ Below w.heap.size w w' := by
  have hb0 : Below w.heap.size w (w.alloc (celO W a n c 24)) := (Below.refl _ _).alloc (Nat.le_refl _) _
  go_enter Try.func9, Try.ntmps9
  go_wp2_with fail
  refine (szI_out a n c 1048576 _ (by omega) (by omega) hn).mono ?_
  rintro e w1 ⟨rfl, hw1⟩
  have hs1 := hw1.symm
  clear hw1
  subst hs1
  go_wp2
  go_ret
  exact ⟨rfl, hb0⟩
end Go.Proofs.Ytgfmeineialcgaa
