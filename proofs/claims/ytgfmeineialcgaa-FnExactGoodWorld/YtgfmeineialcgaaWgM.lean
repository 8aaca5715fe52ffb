/- A world as a value; the law's own copies of it; which worlds are good. -/
import Derived.Test.YtgfmeineialcgaaClBase
import Derived.Test.YtgfmeineialcgaaClSFree
import Derived.Test.YtgfmeineialcgaaClFree
namespace Go.Proofs.Ytgfmeineialcgaa
open Go.RowKit

abbrev wvl (W : Int) (a : Option Addr) (n c : Nat) (t s d : Int) : Value := .agg #[.int .i64 W, .slice a n c, .int .i64 t, .int .i64 s, .int .i64 d]
abbrev wvL (W : Int) (a : Option Addr) (n c : Nat) (t s d : Int) : List Value := [.int .i64 W, .slice a n c, .int .i64 t, .int .i64 s, .int .i64 d]
abbrev wvO (W : Int) (a : Option Addr) (n c : Nat) (t s d : Int) (ty : TypeId) : Obj := .cells #[.int .i64 W, .slice a n c, .int .i64 t, .int .i64 s, .int .i64 d] ty
theorem Bx.c3 {w : World} {b : Nat} {s t u v : Value} {l : List Value} (h : Bx w b (s :: t :: u :: v :: l)) : w.cell? ⟨b, 3, none⟩ = some v := h.c 3 (by simp)
theorem Bx.c4 {w : World} {b : Nat} {r s t u v : Value} {l : List Value} (h : Bx w b (r :: s :: t :: u :: v :: l)) : w.cell? ⟨b, 4, none⟩ = some v := h.c 4 (by simp)
/-- is a seed good -/
def sdB (n : Int) : Bool := decide (0 ≤ n ∧ n ≤ 2147483647)
/-- is a world good -/
def wgB (W : Int) (n : Nat) (f : Nat → Int) (t s d : Int) : Bool := celB W n f && frB n f t && decide (0 ≤ s ∧ s ≤ 9) && sdB d
theorem ret_wvl {fn : Func} {x : Tmp} {R : Ending → World → Prop} {a : Act} {w : World} {b : Nat} {u0 u1 u2 u3 u4 : Value} (h : fn.results = #[.cell x 31]) (hp : a.tmps.getD x undef = .pointer (some ⟨b, 0, none⟩)) (hb : Bx w b [u0, u1, u2, u3, u4]) (hd : a.defers = [])
    (hR : R (.returned (.agg #[u0, u1, u2, u3, u4])) w) : bodyPost Try.prog fn R .ret a w := by
  have c0 := hb.c0
  have c1 := hb.c1
  have c2 := hb.c2
  have c3 := hb.c3
  have c4 := hb.c4
  refine bodyPost_ret ?_ hd hR
  have hp' : a.tmps[x]?.getD undef = .pointer (some ⟨b, 0, none⟩) := by simpa using hp
  simp [results, h, hp', asAddr, loadVar, go_sem, c0, c1, c2, c3, c4]

set_option maxHeartbeats 2000000 in
theorem toWorld_any (W : Int) (a : Option Addr) (n c : Nat) (t s d : Int) (f : Nat → Int) (w : World) (hn : n ≤ 1048576) (hf : IL w a n f) :
    Calls Try.prog 6 #[wvl W a n c t s d] w fun e w' => ∃ a', e = .returned (wvl W a' n n t s d) ∧ LQ w' w.heap.size w'.heap.size a' n f ∧ Below w.heap.size w w' := by
  go_enter Try.func6, Try.ntmps6
  go_wp2_with fail
  refine (toCells_any W a n c f _ hn (((hf.alloc _).alloc _).alloc _)).mono ?_
  rintro e w1 ⟨a1, rfl, hL1, hb1⟩
  have bP := (((bx_new (w := w) (b := w.heap.size) (wvL W a n c t s d) 26 rfl).alloc _).alloc _).on hb1
  have bO := (((bx_new (w := w.alloc (wvO W a n c t s d 26)) (b := w.heap.size + 1) (wvL 0 none 0 0 0 0 0) 31 (by simp)).alloc _).on hb1)
  have bT := ((bx_new (w := (w.alloc (wvO W a n c t s d 26)).alloc (wvO 0 none 0 0 0 0 0 31)) (b := w.heap.size + 1 + 1) (wvL 0 none 0 0 0 0 0) 31 (by simp)).on hb1)
  have hB1 := below_al (below_al (below_al hb1))
  have hs1 := hb1.size
  simp only [size_al] at hL1 hs1
  clear hb1
  have y0 := bT.c0
  have y1 := bT.c1
  have yf0 := bT.fz 0
  have yf1 := bT.fz 1
  go_upto_region 3 with fail
  have bT2 := (bT.set 0 (by simp) (.int .i64 W)).set 1 (by simp) (.slice a1 n n)
  have bO2 := (bO.far (b' := w.heap.size + 1 + 1) (k := 0) (.int .i64 W) (by omega)).far (b' := w.heap.size + 1 + 1) (k := 1) (.slice a1 n n) (by omega)
  have bP2 := (bP.far (b' := w.heap.size + 1 + 1) (k := 0) (.int .i64 W) (by omega)).far (b' := w.heap.size + 1 + 1) (k := 1) (.slice a1 n n) (by omega)
  have hL2 := lq_set (lq_set hL1 (b := w.heap.size + 1 + 1) (k := 0) (.int .i64 W) (by omega)) (b := w.heap.size + 1 + 1) (k := 1) (.slice a1 n n) (by omega)
  have hB2 := (hB1.setCell (p := ⟨w.heap.size + 1 + 1, 0, none⟩) (by simp <;> omega) (.int .i64 W)).setCell (p := ⟨w.heap.size + 1 + 1, 1, none⟩) (by simp <;> omega) (.slice a1 n n)
  have hz2 : ((w1.setCell ⟨w.heap.size + 1 + 1, 0, none⟩ (.int .i64 W)).setCell ⟨w.heap.size + 1 + 1, 1, none⟩ (.slice a1 n n)).heap.size = w1.heap.size := by simp only [size_set]
  have hs2 : w.heap.size + 1 + 1 + 1 ≤ ((w1.setCell ⟨w.heap.size + 1 + 1, 0, none⟩ (.int .i64 W)).setCell ⟨w.heap.size + 1 + 1, 1, none⟩ (.slice a1 n n)).heap.size := by rw [hz2]; exact hs1
  rw [← hz2] at hL2
  clear hz2 hs1 y0 y1 yf0 yf1 bT bO bP hL1 hB1
  generalize (w1.setCell ⟨w.heap.size + 1 + 1, 0, none⟩ (.int .i64 W)).setCell ⟨w.heap.size + 1 + 1, 1, none⟩ (.slice a1 n n) = w2 at *
  have p2 := bP2.c2
  have y2 := bT2.c2
  have yf2 := bT2.fz 2
  go_upto_region 4 with fail
  have bT3 := bT2.set 2 (by simp) (.int .i64 t)
  have bO3 := bO2.far (b' := w.heap.size + 1 + 1) (k := 2) (.int .i64 t) (by omega)
  have bP3 := bP2.far (b' := w.heap.size + 1 + 1) (k := 2) (.int .i64 t) (by omega)
  have hL3 := lq_set hL2 (b := w.heap.size + 1 + 1) (k := 2) (.int .i64 t) (by omega)
  have hB3 := hB2.setCell (p := ⟨w.heap.size + 1 + 1, 2, none⟩) (by simp <;> omega) (.int .i64 t)
  have hz3 : (w2.setCell ⟨w.heap.size + 1 + 1, 2, none⟩ (.int .i64 t)).heap.size = w2.heap.size := by simp only [size_set]
  have hs3 : w.heap.size + 1 + 1 + 1 ≤ (w2.setCell ⟨w.heap.size + 1 + 1, 2, none⟩ (.int .i64 t)).heap.size := by rw [hz3]; exact hs2
  rw [← hz3] at hL3
  clear hz3 hs2 p2 y2 yf2 bT2 bO2 bP2 hL2 hB2
  generalize w2.setCell ⟨w.heap.size + 1 + 1, 2, none⟩ (.int .i64 t) = w3 at *
  have p3 := bP3.c3
  have y3 := bT3.c3
  have yf3 := bT3.fz 3
  go_upto_region 5 with fail
  have bT4 := bT3.set 3 (by simp) (.int .i64 s)
  have bO4 := bO3.far (b' := w.heap.size + 1 + 1) (k := 3) (.int .i64 s) (by omega)
  have bP4 := bP3.far (b' := w.heap.size + 1 + 1) (k := 3) (.int .i64 s) (by omega)
  have hL4 := lq_set hL3 (b := w.heap.size + 1 + 1) (k := 3) (.int .i64 s) (by omega)
  have hB4 := hB3.setCell (p := ⟨w.heap.size + 1 + 1, 3, none⟩) (by simp <;> omega) (.int .i64 s)
  have hz4 : (w3.setCell ⟨w.heap.size + 1 + 1, 3, none⟩ (.int .i64 s)).heap.size = w3.heap.size := by simp only [size_set]
  have hs4 : w.heap.size + 1 + 1 + 1 ≤ (w3.setCell ⟨w.heap.size + 1 + 1, 3, none⟩ (.int .i64 s)).heap.size := by rw [hz4]; exact hs3
  rw [← hz4] at hL4
  clear hz4 hs3 p3 y3 yf3 bT3 bO3 bP3 hL3 hB3
  generalize w3.setCell ⟨w.heap.size + 1 + 1, 3, none⟩ (.int .i64 s) = w4 at *
  have p4 := bP4.c4
  have y4 := bT4.c4
  have yf4 := bT4.fz 4
  go_upto_region 6 with fail
  have bT5 := bT4.set 4 (by simp) (.int .i64 d)
  have bO5 := bO4.far (b' := w.heap.size + 1 + 1) (k := 4) (.int .i64 d) (by omega)
  have bP5 := bP4.far (b' := w.heap.size + 1 + 1) (k := 4) (.int .i64 d) (by omega)
  have hL5 := lq_set hL4 (b := w.heap.size + 1 + 1) (k := 4) (.int .i64 d) (by omega)
  have hB5 := hB4.setCell (p := ⟨w.heap.size + 1 + 1, 4, none⟩) (by simp <;> omega) (.int .i64 d)
  have hz5 : (w4.setCell ⟨w.heap.size + 1 + 1, 4, none⟩ (.int .i64 d)).heap.size = w4.heap.size := by simp only [size_set]
  have hs5 : w.heap.size + 1 + 1 + 1 ≤ (w4.setCell ⟨w.heap.size + 1 + 1, 4, none⟩ (.int .i64 d)).heap.size := by rw [hz5]; exact hs4
  rw [← hz5] at hL5
  clear hz5 hs4 p4 y4 yf4 bT4 bO4 bP4 hL4 hB4
  generalize w4.setCell ⟨w.heap.size + 1 + 1, 4, none⟩ (.int .i64 d) = w5 at *
  have y0 := bT5.c0
  have y1 := bT5.c1
  have y2 := bT5.c2
  have y3 := bT5.c3
  have y4 := bT5.c4
  have z0 := bO5.c0
  have z1 := bO5.c1
  have z2 := bO5.c2
  have z3 := bO5.c3
  have z4 := bO5.c4
  have zf0 := bO5.fz 0
  have zf1 := bO5.fz 1
  have zf2 := bO5.fz 2
  have zf3 := bO5.fz 3
  have zf4 := bO5.fz 4
  have bR := ((((bO5.set 0 (by simp) (.int .i64 W)).set 1 (by simp) (.slice a1 n n)).set 2 (by simp) (.int .i64 t)).set 3 (by simp) (.int .i64 s)).set 4 (by simp) (.int .i64 d)
  have hL6 := lq_set (lq_set (lq_set (lq_set (lq_set hL5 (b := w.heap.size + 1) (k := 0) (.int .i64 W) (by omega)) (b := w.heap.size + 1) (k := 1) (.slice a1 n n) (by omega)) (b := w.heap.size + 1) (k := 2) (.int .i64 t) (by omega)) (b := w.heap.size + 1) (k := 3) (.int .i64 s) (by omega)) (b := w.heap.size + 1) (k := 4) (.int .i64 d) (by omega)
  have hB6 := ((((hB5.setCell (p := ⟨w.heap.size + 1, 0, none⟩) (by simp <;> omega) (.int .i64 W)).setCell (p := ⟨w.heap.size + 1, 1, none⟩) (by simp <;> omega) (.slice a1 n n)).setCell (p := ⟨w.heap.size + 1, 2, none⟩) (by simp <;> omega) (.int .i64 t)).setCell (p := ⟨w.heap.size + 1, 3, none⟩) (by simp <;> omega) (.int .i64 s)).setCell (p := ⟨w.heap.size + 1, 4, none⟩) (by simp <;> omega) (.int .i64 d)
  clear bT5 bO5 bP5
  go_wp2_with fail
  refine ret_wvl Try.results6 rfl bR rfl ?_
  exact ⟨_, rfl, hL6.wide (by omega) (by simp only [size_set]; omega), hB6⟩

set_option maxHeartbeats 1000000 in
theorem eqWorld_any (W : Int) (a a2 : Option Addr) (n c c2 : Nat) (t s d : Int) (f : Nat → Int) (w : World) (hn : n ≤ 1048576) (hf : IL w a n f) (hf2 : IL w a2 n f) :
    Calls Try.prog 8 #[wvl W a n c t s d, wvl W a2 n c2 t s d] w fun e w' => e = .returned (.bool true) ∧ Below w.heap.size w w' := by
  have j1 : (t != t) = false := by simp
  have j2 : (s != s) = false := by simp
  have j3 : (d != d) = false := by simp
  go_enter Try.func8, Try.ntmps8
  go_wp2_with fail
  refine (eqCells_any W a a2 n c c2 f _ hn ((hf.alloc _).alloc _) ((hf2.alloc _).alloc _)).mono ?_
  rintro e w1 ⟨rfl, hb1⟩
  have bP := ((bx_new (w := w) (b := w.heap.size) (wvL W a n c t s d) 31 rfl).alloc _).on hb1
  have bQ := (bx_new (w := w.alloc (wvO W a n c t s d 31)) (b := w.heap.size + 1) (wvL W a2 n c2 t s d) 31 (by simp)).on hb1
  have p2 := bP.c2
  have p3 := bP.c3
  have p4 := bP.c4
  have q2 := bQ.c2
  have q3 := bQ.c3
  have q4 := bQ.c4
  have hB1 := below_al (below_al hb1)
  clear hb1 bP bQ
  go_wp2
  go_ret
  exact ⟨rfl, hB1⟩

set_option maxHeartbeats 1000000 in
theorem szWorld_in (W : Int) (a : Option Addr) (n c : Nat) (t s d : Int) (w : World) (h : n ≤ 1048576) :
    Calls Try.prog 4 #[wvl W a n c t s d, .int .i64 1048576] w fun e w' => e = .returned (.int .i64 (1048576 - (n : Int))) ∧ Below w.heap.size w w' := by
  have j1 : ¬ (1048576 : Int) - (n : Int) < 0 := by omega
  go_enter Try.func4, Try.ntmps4
  go_wp2_with fail
  refine (szCells_in W a n c _ h).mono ?_
  rintro e w1 ⟨rfl, hb1⟩
  have hB1 := below_al hb1
  clear hb1
  go_wp2
  go_ret
  exact ⟨rfl, hB1⟩
set_option maxHeartbeats 1000000 in
theorem szWorld_out (W : Int) (a : Option Addr) (n c : Nat) (t s d : Int) (w : World) (h : 1048576 < n) (hn : n ≤ 9223372036854775807) :
    Calls Try.prog 4 #[wvl W a n c t s d, .int .i64 1048576] w fun e w' => e = .returned (.int .i64 (-1)) ∧ Below w.heap.size w w' := by
  go_enter Try.func4, Try.ntmps4
  go_wp2_with fail
  refine (szCells_out W a n c _ h hn).mono ?_
  rintro e w1 ⟨rfl, hb1⟩
  have hB1 := below_al hb1
  clear hb1
  go_wp2
  go_ret
  exact ⟨rfl, hB1⟩
end Go.Proofs.Ytgfmeineialcgaa
