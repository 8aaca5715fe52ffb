/- The contracts of both MulPoints functions, and the walk of the law on MulPoints. -/
import Derived.Test.YtgcnkecfdmafdaaPtTell
import Derived.Laws.ResultCell
namespace Go.Proofs.Ytgcnkecfdmafdaa
open Go.RowKit

/-- a point's cells -/
structure Box (w : World) (b x y : Nat) : Prop where
  lt : b < w.heap.size
  c0 : w.cell? ⟨b, 0, none⟩ = some (.float .f64 x)
  c1 : w.cell? ⟨b, 1, none⟩ = some (.float .f64 y)
  f0 : w.frozen? ⟨b, 0, none⟩ = false
  f1 : w.frozen? ⟨b, 1, none⟩ = false
theorem Box.below {w w' : World} {B b x y : Nat} (h : Box w b x y) (hb : Below B w w') (hB : b < B) : Box w' b x y := by
  obtain ⟨h0, h1, h2, h3, h4⟩ := h
  exact ⟨Nat.lt_of_lt_of_le h0 hb.size, (hb.cell (p := ⟨b, 0, none⟩) hB).trans h1, (hb.cell (p := ⟨b, 1, none⟩) hB).trans h2, (hb.frozen (p := ⟨b, 0, none⟩) hB).trans h3, (hb.frozen (p := ⟨b, 1, none⟩) hB).trans h4⟩
theorem box_new (w : World) (x y : Nat) (t : TypeId) : Box (w.alloc (.cells #[.float .f64 x, .float .f64 y] t)) w.heap.size x y := by
  refine ⟨by simp, ?_, ?_, ?_, ?_⟩ <;> simp [go_sem]
theorem size_alloc (w : World) (o : Obj) : (w.alloc o).heap.size = w.heap.size + 1 := by simp
theorem Box.alloc {w : World} {b x y : Nat} (h : Box w b x y) (o : Obj) : Box (w.alloc o) b x y := h.below ((Below.refl w.heap.size w).alloc (Nat.le_refl _) o) h.1
theorem below_new {w w' : World} {o : Obj} (h : Below (w.alloc o).heap.size (w.alloc o) w') : Below w.heap.size w w' := ((Below.refl _ _).alloc (Nat.le_refl _) o).trans (h.mono (by rw [size_alloc]; exact Nat.le_succ _))

/-- the boxes of two arguments and of a result, behind calls -/
def Three (w w' : World) (a b c d x y : Nat) : Prop := Box w' w.heap.size a b ∧ Box w' (w.heap.size + 1) c d ∧ Box w' (w.heap.size + 1 + 1) x y ∧ Below w.heap.size w w'

theorem boxes3 {w w' : World} {a b c d x y : Nat} {s t u : TypeId} (h : Below (((w.alloc (.cells #[.float .f64 a, .float .f64 b] s)).alloc (.cells #[.float .f64 c, .float .f64 d] t)).alloc (.cells #[.float .f64 x, .float .f64 y] u)).heap.size (((w.alloc (.cells #[.float .f64 a, .float .f64 b] s)).alloc (.cells #[.float .f64 c, .float .f64 d] t)).alloc (.cells #[.float .f64 x, .float .f64 y] u)) w') :
    Three w w' a b c d x y := by
  have h0 := box_new w a b s
  have h1 := box_new (w.alloc (.cells #[.float .f64 a, .float .f64 b] s)) c d t
  have h2 := box_new ((w.alloc (.cells #[.float .f64 a, .float .f64 b] s)).alloc (.cells #[.float .f64 c, .float .f64 d] t)) x y u
  refine ⟨((h0.alloc _).alloc _).below h ((h0.alloc _).alloc _).1, ?_, ?_, below_new (below_new (below_new h))⟩
  · have := ((h1.alloc (.cells #[.float .f64 x, .float .f64 y] u))).below h (h1.alloc _).1
    simpa [size_alloc] using this
  · have := h2.below h h2.1
    simpa [size_alloc] using this
theorem Three.next {w w1 w2 : World} {a b c d x y : Nat} (h : Three w w1 a b c d x y) (k : Below w1.heap.size w1 w2) : Three w w2 a b c d x y :=
  ⟨h.1.below k h.1.1, h.2.1.below k h.2.1.1, h.2.2.1.below k h.2.2.1.1, h.2.2.2.trans (k.mono h.2.2.2.size)⟩
/-- the same, as a walk wants it -/
def ThreeC (w w' : World) (a b c d x y : Nat) : Prop :=
  w'.cell? ⟨w.heap.size, 0, none⟩ = some (.float .f64 a) ∧ w'.cell? ⟨w.heap.size, 1, none⟩ = some (.float .f64 b) ∧ w'.cell? ⟨w.heap.size + 1, 0, none⟩ = some (.float .f64 c) ∧ w'.cell? ⟨w.heap.size + 1, 1, none⟩ = some (.float .f64 d) ∧ w'.cell? ⟨w.heap.size + 1 + 1, 0, none⟩ = some (.float .f64 x) ∧ w'.cell? ⟨w.heap.size + 1 + 1, 1, none⟩ = some (.float .f64 y) ∧
  w'.frozen? ⟨w.heap.size + 1 + 1, 0, none⟩ = false ∧ w'.frozen? ⟨w.heap.size + 1 + 1, 1, none⟩ = false ∧ w.heap.size + 1 + 1 < w'.heap.size ∧ Below w.heap.size w w'
theorem Three.c {w w' : World} {a b c d x y : Nat} (h : Three w w' a b c d x y) : ThreeC w w' a b c d x y :=
  ⟨h.1.c0, h.1.c1, h.2.1.c0, h.2.1.c1, h.2.2.1.c0, h.2.2.1.c1, h.2.2.1.f0, h.2.2.1.f1, h.2.2.1.lt, h.2.2.2⟩
theorem keep3 {w w1 w2 : World} {a b c d x y : Nat} (p0 : w1.cell? ⟨w.heap.size, 0, none⟩ = some (.float .f64 a)) (p1 : w1.cell? ⟨w.heap.size, 1, none⟩ = some (.float .f64 b)) (q0 : w1.cell? ⟨w.heap.size + 1, 0, none⟩ = some (.float .f64 c)) (q1 : w1.cell? ⟨w.heap.size + 1, 1, none⟩ = some (.float .f64 d))
    (r0 : w1.cell? ⟨w.heap.size + 1 + 1, 0, none⟩ = some (.float .f64 x)) (r1 : w1.cell? ⟨w.heap.size + 1 + 1, 1, none⟩ = some (.float .f64 y)) (f0 : w1.frozen? ⟨w.heap.size + 1 + 1, 0, none⟩ = false) (f1 : w1.frozen? ⟨w.heap.size + 1 + 1, 1, none⟩ = false) (hs : w.heap.size + 1 + 1 < w1.heap.size) (hB : Below w.heap.size w w1) (k : Below w1.heap.size w1 w2) : ThreeC w w2 a b c d x y := by
  have e0 : w.heap.size < w1.heap.size := by omega
  have e1 : w.heap.size + 1 < w1.heap.size := by omega
  exact ⟨(k.cell (p := ⟨_, 0, none⟩) e0).trans p0, (k.cell (p := ⟨_, 1, none⟩) e0).trans p1, (k.cell (p := ⟨_, 0, none⟩) e1).trans q0, (k.cell (p := ⟨_, 1, none⟩) e1).trans q1, (k.cell (p := ⟨_, 0, none⟩) hs).trans r0, (k.cell (p := ⟨_, 1, none⟩) hs).trans r1,
    (k.frozen (p := ⟨_, 0, none⟩) hs).trans f0, (k.frozen (p := ⟨_, 1, none⟩) hs).trans f1, Nat.lt_of_lt_of_le hs k.size, hB.trans (k.mono hB.size)⟩
/-- what is kept of the arguments' boxes within a region -/
theorem keep2 {w w1 w2 : World} {a b c d : Nat} (p0 : w1.cell? ⟨w.heap.size, 0, none⟩ = some (.float .f64 a)) (p1 : w1.cell? ⟨w.heap.size, 1, none⟩ = some (.float .f64 b)) (q0 : w1.cell? ⟨w.heap.size + 1, 0, none⟩ = some (.float .f64 c)) (q1 : w1.cell? ⟨w.heap.size + 1, 1, none⟩ = some (.float .f64 d))
    (hs : w.heap.size + 1 + 1 < w1.heap.size) (hB : Below w.heap.size w w1) (k : Below (w.heap.size + 1 + 1) w1 w2) : w2.cell? ⟨w.heap.size, 0, none⟩ = some (.float .f64 a) ∧ w2.cell? ⟨w.heap.size, 1, none⟩ = some (.float .f64 b) ∧ w2.cell? ⟨w.heap.size + 1, 0, none⟩ = some (.float .f64 c) ∧ w2.cell? ⟨w.heap.size + 1, 1, none⟩ = some (.float .f64 d) ∧ w.heap.size + 1 + 1 < w2.heap.size ∧ Below w.heap.size w w2 := by
  have e0 : w.heap.size < w.heap.size + 1 + 1 := by omega
  have e1 : w.heap.size + 1 < w.heap.size + 1 + 1 := by omega
  exact ⟨(k.cell (p := ⟨_, 0, none⟩) e0).trans p0, (k.cell (p := ⟨_, 1, none⟩) e0).trans p1, (k.cell (p := ⟨_, 0, none⟩) e1).trans q0, (k.cell (p := ⟨_, 1, none⟩) e1).trans q1, Nat.lt_of_lt_of_le hs k.size, hB.trans (k.mono (by omega))⟩
theorem upto {w w1 w2 : World} (hs : w.heap.size + 1 + 1 < w1.heap.size) (k : Below w1.heap.size w1 w2) : Below (w.heap.size + 1 + 1) w1 w2 := k.mono (Nat.le_of_lt hs)
theorem upset {w w1 : World} (u v : Value) : Below (w.heap.size + 1 + 1) w1 ((w1.setCell ⟨w.heap.size + 1 + 1, 0, none⟩ u).setCell ⟨w.heap.size + 1 + 1, 1, none⟩ v) := ((Below.refl _ _).setCell (p := ⟨_, 0, none⟩) (Nat.le_refl _) _).setCell (p := ⟨_, 1, none⟩) (Nat.le_refl _) _
theorem below_of {w w' : World} {n : Nat} (h : w' = w.drewN n) : Below w.heap.size w w' := by subst h; exact below_dr (Below.refl _ _) n

theorem tell_rep {o p : Option Nat} {v u : Nat} (h : Rep o v) (k : Rep p u) : Value.tuple #[pt (tV v u) (tW v u), .bool (toldT v && toldT u)] = .tuple #[pt (tellR o p) (tellI o p), .bool (tellOk o p)] := by
  unfold tV tW tellR tellI tellOk
  rw [(told_rep h).1, (told_rep h).2, (told_rep k).1, (told_rep k).2]

theorem set_two {w : World} {b : Nat} {x y u v : Value} (r0 : w.cell? ⟨b, 0, none⟩ = some x) (r1 : w.cell? ⟨b, 1, none⟩ = some y) :
    ((w.setCell ⟨b, 0, none⟩ u).setCell ⟨b, 1, none⟩ v).cell? ⟨b, 0, none⟩ = some u ∧ ((w.setCell ⟨b, 0, none⟩ u).setCell ⟨b, 1, none⟩ v).cell? ⟨b, 1, none⟩ = some v := by
  have n1 : (⟨b, 1, none⟩ : Addr) ≠ ⟨b, 0, none⟩ := by simp
  have n2 : (⟨b, 0, none⟩ : Addr) ≠ ⟨b, 1, none⟩ := by simp
  have e : (w.setCell ⟨b, 0, none⟩ u).cell? ⟨b, 1, none⟩ = some y := (World.cell?_setCell_other _ _ _ _ n2).trans r1
  exact ⟨(World.cell?_setCell_other _ _ _ _ n1).trans (World.cell?_setCell_same _ _ _ r0), World.cell?_setCell_same _ _ _ e⟩

/-- a return of a point out of its box, and a truth -/
theorem ret_pt {fn : Func} {p u : Tmp} {R : Ending → World → Prop} {a : Act} {w : World} {b x y : Nat} (h : fn.results = #[.cell p 25, .tmp u]) (hp : a.tmps.getD p undef = .pointer (some ⟨b, 0, none⟩)) (c : w.cell? ⟨b, 0, none⟩ = some (.float .f64 x) ∧ w.cell? ⟨b, 1, none⟩ = some (.float .f64 y)) (hd : a.defers = [])
    (hR : R (.returned (.tuple #[pt x y, a.tmps.getD u undef])) w) : bodyPost Try.prog fn R .ret a w := by
  refine bodyPost_ret ?_ hd hR
  rw [results_cell_tmp h, hp]
  simp [asAddr, loadVar, go_sem, c.1, c.2]

theorem Box.set {w : World} {b x y u v : Nat} (h : Box w b x y) : Box ((w.setCell ⟨b, 0, none⟩ (.float .f64 u)).setCell ⟨b, 1, none⟩ (.float .f64 v)) b u v := by
  have e := set_two (u := .float .f64 u) (v := .float .f64 v) h.c0 h.c1
  exact ⟨by simpa using h.lt, e.1, e.2, by simpa using h.f0, by simpa using h.f1⟩
theorem Box.far {w : World} {b b' x y : Nat} {u v : Value} (h : Box w b x y) (hn : b ≠ b') : Box ((w.setCell ⟨b', 0, none⟩ u).setCell ⟨b', 1, none⟩ v) b x y := by
  have e : ((w.setCell ⟨b', 0, none⟩ u).setCell ⟨b', 1, none⟩ v).heap[b]? = w.heap[b]? := (Below.heap_setCell _ ⟨b', 1, none⟩ v b hn).trans (Below.heap_setCell w ⟨b', 0, none⟩ u b hn)
  exact ⟨by simpa using h.lt, (World.cell?_of_block (w := w) e).trans h.c0, (World.cell?_of_block (w := w) e).trans h.c1, (World.frozen?_of_block (w := w) e).trans h.f0, (World.frozen?_of_block (w := w) e).trans h.f1⟩
theorem below_set3 {w w1 : World} (h : Below w.heap.size w w1) (u v : Value) : Below w.heap.size w ((w1.setCell ⟨w.heap.size + 1 + 1, 0, none⟩ u).setCell ⟨w.heap.size + 1 + 1, 1, none⟩ v) := (h.setCell (p := ⟨_, 0, none⟩) (by simp only; omega) _).setCell (p := ⟨_, 1, none⟩) (by simp only; omega) _

set_option maxHeartbeats 1000000 in
theorem implMul_good (a b c d : Nat) (w : World) (ha : a < 18446744073709551616) (hb : b < 18446744073709551616) (hc : c < 18446744073709551616) (hd : d < 18446744073709551616) (g1 : (goodB a && goodB b) = true) (g2 : (goodB c && goodB d) = true) :
    Calls Try.prog 11 #[pt a b, pt c d] w fun e w' => e = .returned (.tuple #[pt (tellR (mR (some a) (some b) (some c) (some d)) (mI (some a) (some b) (some c) (some d))) (tellI (mR (some a) (some b) (some c) (some d)) (mI (some a) (some b) (some c) (some d))), .bool (tellOk (mR (some a) (some b) (some c) (some d)) (mI (some a) (some b) (some c) (some d)))]) ∧ Below w.heap.size w w' := by
  go_enter Try.func11, Try.ntmps11
  go_wp2_with fail
  refine (implGoodPt_any a b _ ha hb).mono ?_
  rintro e w1 ⟨rfl, hb1⟩
  obtain ⟨p0, p1, q0, q1, r0, r1, f0, f1, hs, hB⟩ := (boxes3 hb1).c
  clear hb1
  go_wp2_with fail
  refine (implGoodPt_any c d _ hc hd).mono ?_
  rintro e w2 ⟨rfl, hb2⟩
  have T2 := keep3 p0 p1 q0 q1 r0 r1 f0 f1 hs hB hb2
  clear hb2 p0 p1 q0 q1 r0 r1 f0 f1 hs hB
  obtain ⟨p0, p1, q0, q1, r0, r1, f0, f1, hs, hB⟩ := T2
  go_wp2_with fail
  go_region_held3 (fun w' => w'.cell? ⟨w.heap.size, 0, none⟩ = some (.float .f64 a) ∧ w'.cell? ⟨w.heap.size, 1, none⟩ = some (.float .f64 b) ∧ w'.cell? ⟨w.heap.size + 1, 0, none⟩ = some (.float .f64 c) ∧ w'.cell? ⟨w.heap.size + 1, 1, none⟩ = some (.float .f64 d) ∧ w.heap.size + 1 + 1 < w'.heap.size ∧ Below w.heap.size w w')
    (first | (go_split_ands; exact keep2 (by assumption) (by assumption) (by assumption) (by assumption) (by assumption) (by assumption) (upto (by assumption) hbn)) | (go_split_ands; exact keep2 (by assumption) (by assumption) (by assumption) (by assumption) (by assumption) (by assumption) (upset _ _)) | (exact keep2 p0 p1 q0 q1 hs hB (Below.refl _ _).drew))
    (first | (go_at_call_of 37 a; refine (complexOf_any a b _).mono ?_; rintro e w3 ⟨rfl, hbn⟩; have hw3 : Below w2.heap.size w2 w3 := (Below.refl _ _).drew.trans hbn)
           | (go_at_call 37; refine (complexOf_any c d _).mono ?_; rintro e w4 ⟨rfl, hbn⟩; have hw4 := hw3.trans (hbn.mono hw3.size))
           | (go_at_call 36; refine (mulComplex_any a b c d _).mono ?_; rintro e w5 ⟨vr, vi, rfl, hrep, n, hn⟩; have hbn := below_of hn; clear hn; have hw5 := hw4.trans (hbn.mono hw4.size); obtain ⟨hrr, hri⟩ := hrep _ _ _ _ (rep_of ha) (rep_of hb) (rep_of hc) (rep_of hd); clear hrep)
           | (go_at_call 35; refine (tellPoint_any vr vi _ hrr.1 hri.1).mono ?_; rintro e w6 ⟨rfl, hbn⟩; rw [tell_rep hrr hri]; have hw6 := hw5.trans (hbn.mono hw5.size); obtain ⟨-, -, -, -, r0, r1, f0, f1, -, -⟩ := keep3 p0 p1 q0 q1 r0 r1 f0 f1 hs hB hw6))
  go_wp2
  (try simp only [Exit.inBlock, Exit.then])
  refine ret_pt rfl rfl (set_two r0 r1) rfl ?_
  exact ⟨rfl, below_set3 (hB.trans (hw6.mono hB.size)) _ _⟩

set_option maxHeartbeats 1000000 in
theorem specMul_good (a b c d : Nat) (w : World) (ha : a < 18446744073709551616) (hb : b < 18446744073709551616) (hc : c < 18446744073709551616) (hd : d < 18446744073709551616) (g1 : (goodB a && goodB b) = true) (g2 : (goodB c && goodB d) = true) :
    Calls Try.prog 9 #[pt a b, pt c d] w fun e w' => e = .returned (.tuple #[pt (tellR (mR (some a) (some b) (some c) (some d)) (mI (some a) (some b) (some c) (some d))) (tellI (mR (some a) (some b) (some c) (some d)) (mI (some a) (some b) (some c) (some d))), .bool (tellOk (mR (some a) (some b) (some c) (some d)) (mI (some a) (some b) (some c) (some d)))]) ∧ Below w.heap.size w w' := by
  go_enter Try.func9, Try.ntmps9
  go_wp2_with fail
  refine (specGoodPt_any a b _ ha hb).mono ?_
  rintro e w1 ⟨rfl, hb1⟩
  obtain ⟨p0, p1, q0, q1, r0, r1, f0, f1, hs, hB⟩ := (boxes3 hb1).c
  clear hb1
  go_wp2_with fail
  refine (specGoodPt_any c d _ hc hd).mono ?_
  rintro e w2 ⟨rfl, hb2⟩
  have T2 := keep3 p0 p1 q0 q1 r0 r1 f0 f1 hs hB hb2
  clear hb2 p0 p1 q0 q1 r0 r1 f0 f1 hs hB
  obtain ⟨p0, p1, q0, q1, r0, r1, f0, f1, hs, hB⟩ := T2
  go_wp2_with fail
  refine (l3Mul_any a b c d _).mono ?_
  rintro e w3 ⟨vr, vi, rfl, hrep, hb3⟩
  have T3 := keep3 p0 p1 q0 q1 r0 r1 f0 f1 hs hB hb3
  clear hb3 p0 p1 q0 q1 r0 r1 f0 f1 hs hB
  obtain ⟨p0, p1, q0, q1, r0, r1, f0, f1, hs, hB⟩ := T3
  obtain ⟨hrr, hri⟩ := hrep _ _ _ _ (rep_of ha) (rep_of hb) (rep_of hc) (rep_of hd)
  clear hrep
  go_wp2_with fail
  refine (l3Told_any vr vi _ hrr.1 hri.1).mono ?_
  rintro e w4 ⟨rfl, hb4⟩
  have T4 := keep3 p0 p1 q0 q1 r0 r1 f0 f1 hs hB hb4
  clear hb4 p0 p1 q0 q1 r0 r1 f0 f1 hs hB
  obtain ⟨p0, p1, q0, q1, r0, r1, f0, f1, hs, hB⟩ := T4
  rw [tell_rep hrr hri]
  clear hrr hri
  go_wp2
  (try simp only [Exit.inBlock, Exit.then])
  refine ret_pt rfl rfl (set_two r0 r1) rfl ?_
  exact ⟨rfl, below_set3 hB _ _⟩

set_option maxHeartbeats 1000000 in
theorem implMul_bad1 (a b c d : Nat) (w : World) (ha : a < 18446744073709551616) (hb : b < 18446744073709551616) (g1 : (goodB a && goodB b) = false) :
    Calls Try.prog 11 #[pt a b, pt c d] w fun e w' => e = .returned (.tuple #[pt 0 0, .bool false]) ∧ Below w.heap.size w w' := by
  go_enter Try.func11, Try.ntmps11
  go_wp2_with fail
  refine (implGoodPt_any a b _ ha hb).mono ?_
  rintro e w1 ⟨rfl, hb1⟩
  obtain ⟨p0, p1, q0, q1, r0, r1, f0, f1, hs, hB⟩ := (boxes3 hb1).c
  clear hb1
  go_wp2
  (try simp only [Exit.inBlock, Exit.then])
  refine ret_pt rfl rfl (set_two r0 r1) rfl ?_
  exact ⟨rfl, below_set3 hB _ _⟩

set_option maxHeartbeats 1000000 in
theorem implMul_bad2 (a b c d : Nat) (w : World) (ha : a < 18446744073709551616) (hb : b < 18446744073709551616) (hc : c < 18446744073709551616) (hd : d < 18446744073709551616) (g1 : (goodB a && goodB b) = true) (g2 : (goodB c && goodB d) = false) :
    Calls Try.prog 11 #[pt a b, pt c d] w fun e w' => e = .returned (.tuple #[pt 0 0, .bool false]) ∧ Below w.heap.size w w' := by
  go_enter Try.func11, Try.ntmps11
  go_wp2_with fail
  refine (implGoodPt_any a b _ ha hb).mono ?_
  rintro e w1 ⟨rfl, hb1⟩
  obtain ⟨p0, p1, q0, q1, r0, r1, f0, f1, hs, hB⟩ := (boxes3 hb1).c
  clear hb1
  go_wp2_with fail
  refine (implGoodPt_any c d _ hc hd).mono ?_
  rintro e w2 ⟨rfl, hb2⟩
  have T2 := keep3 p0 p1 q0 q1 r0 r1 f0 f1 hs hB hb2
  clear hb2 p0 p1 q0 q1 r0 r1 f0 f1 hs hB
  obtain ⟨p0, p1, q0, q1, r0, r1, f0, f1, hs, hB⟩ := T2
  go_wp2
  (try simp only [Exit.inBlock, Exit.then])
  refine ret_pt rfl rfl (set_two r0 r1) rfl ?_
  exact ⟨rfl, below_set3 hB _ _⟩

set_option maxHeartbeats 1000000 in
theorem specMul_bad1 (a b c d : Nat) (w : World) (ha : a < 18446744073709551616) (hb : b < 18446744073709551616) (g1 : (goodB a && goodB b) = false) :
    Calls Try.prog 9 #[pt a b, pt c d] w fun e w' => e = .returned (.tuple #[pt 0 0, .bool false]) ∧ Below w.heap.size w w' := by
  go_enter Try.func9, Try.ntmps9
  go_wp2_with fail
  refine (specGoodPt_any a b _ ha hb).mono ?_
  rintro e w1 ⟨rfl, hb1⟩
  obtain ⟨p0, p1, q0, q1, r0, r1, f0, f1, hs, hB⟩ := (boxes3 hb1).c
  clear hb1
  go_wp2
  (try simp only [Exit.inBlock, Exit.then])
  refine ret_pt rfl rfl (set_two r0 r1) rfl ?_
  exact ⟨rfl, below_set3 hB _ _⟩

set_option maxHeartbeats 1000000 in
theorem specMul_bad2 (a b c d : Nat) (w : World) (ha : a < 18446744073709551616) (hb : b < 18446744073709551616) (hc : c < 18446744073709551616) (hd : d < 18446744073709551616) (g1 : (goodB a && goodB b) = true) (g2 : (goodB c && goodB d) = false) :
    Calls Try.prog 9 #[pt a b, pt c d] w fun e w' => e = .returned (.tuple #[pt 0 0, .bool false]) ∧ Below w.heap.size w w' := by
  go_enter Try.func9, Try.ntmps9
  go_wp2_with fail
  refine (specGoodPt_any a b _ ha hb).mono ?_
  rintro e w1 ⟨rfl, hb1⟩
  obtain ⟨p0, p1, q0, q1, r0, r1, f0, f1, hs, hB⟩ := (boxes3 hb1).c
  clear hb1
  go_wp2_with fail
  refine (specGoodPt_any c d _ hc hd).mono ?_
  rintro e w2 ⟨rfl, hb2⟩
  have T2 := keep3 p0 p1 q0 q1 r0 r1 f0 f1 hs hB hb2
  clear hb2 p0 p1 q0 q1 r0 r1 f0 f1 hs hB
  obtain ⟨p0, p1, q0, q1, r0, r1, f0, f1, hs, hB⟩ := T2
  go_wp2
  (try simp only [Exit.inBlock, Exit.then])
  refine ret_pt rfl rfl (set_two r0 r1) rfl ?_
  exact ⟨rfl, below_set3 hB _ _⟩

/-- the answer of MulPoints -/
def mulG (a b c d : Nat) : Bool := (goodB a && goodB b) && (goodB c && goodB d)
def mulX (a b c d : Nat) : Nat := if mulG a b c d then tellR (mR (some a) (some b) (some c) (some d)) (mI (some a) (some b) (some c) (some d)) else 0
def mulY (a b c d : Nat) : Nat := if mulG a b c d then tellI (mR (some a) (some b) (some c) (some d)) (mI (some a) (some b) (some c) (some d)) else 0
def mulT (a b c d : Nat) : Bool := if mulG a b c d then tellOk (mR (some a) (some b) (some c) (some d)) (mI (some a) (some b) (some c) (some d)) else false
theorem told_lt' (o : Option Nat) (h : ∀ r, o = some r → r < 18446744073709551616) : told o < 18446744073709551616 := by
  cases o with
  | none => simp [told]
  | some r => exact told_lt (rep_of (h r rfl))
theorem ob_lt {op : BinOp} {o p : Option Nat} {r : Nat} (h : ob op o p = some r) : r < 18446744073709551616 := by
  cases o with
  | none => simp [ob] at h
  | some a =>
    cases p with
    | none => simp [ob] at h
    | some b => exact bits_lt (by simpa [ob] using h)
theorem mulX_lt (a b c d : Nat) : mulX a b c d < 18446744073709551616 := by
  unfold mulX tellR
  repeat' split
  · exact told_lt' _ fun r h => ob_lt h
  all_goals decide
theorem mulY_lt (a b c d : Nat) : mulY a b c d < 18446744073709551616 := by
  unfold mulY tellI
  repeat' split
  · exact told_lt' _ fun r h => ob_lt h
  all_goals decide

theorem implMul_any (a b c d : Nat) (w : World) (ha : a < 18446744073709551616) (hb : b < 18446744073709551616) (hc : c < 18446744073709551616) (hd : d < 18446744073709551616) :
    Calls Try.prog 11 #[pt a b, pt c d] w fun e w' => e = .returned (.tuple #[pt (mulX a b c d) (mulY a b c d), .bool (mulT a b c d)]) ∧ Below w.heap.size w w' := by
  unfold mulX mulY mulT mulG
  cases g1 : (goodB a && goodB b) with
  | false => simpa using implMul_bad1 a b c d w ha hb g1
  | true =>
    cases g2 : (goodB c && goodB d) with
    | false => simpa using implMul_bad2 a b c d w ha hb hc hd g1 g2
    | true => simpa using implMul_good a b c d w ha hb hc hd g1 g2

theorem specMul_any (a b c d : Nat) (w : World) (ha : a < 18446744073709551616) (hb : b < 18446744073709551616) (hc : c < 18446744073709551616) (hd : d < 18446744073709551616) :
    Calls Try.prog 9 #[pt a b, pt c d] w fun e w' => e = .returned (.tuple #[pt (mulX a b c d) (mulY a b c d), .bool (mulT a b c d)]) ∧ Below w.heap.size w w' := by
  unfold mulX mulY mulT mulG
  cases g1 : (goodB a && goodB b) with
  | false => simpa using specMul_bad1 a b c d w ha hb g1
  | true =>
    cases g2 : (goodB c && goodB d) with
    | false => simpa using specMul_bad2 a b c d w ha hb hc hd g1 g2
    | true => simpa using specMul_good a b c d w ha hb hc hd g1 g2
end Go.Proofs.Ytgcnkecfdmafdaa
