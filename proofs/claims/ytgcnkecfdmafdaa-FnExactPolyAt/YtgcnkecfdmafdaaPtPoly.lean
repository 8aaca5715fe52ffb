/- The contracts of both PolyAt functions. -/
import Derived.Test.YtgcnkecfdmafdaaPtPolyC
namespace Go.Proofs.Ytgcnkecfdmafdaa
open Go.RowKit

/-- the boxes of an argument and of a result, behind calls -/
structure Two (w w' : World) (x y u v : Nat) : Prop where
  a : Box w' w.heap.size x y
  r : Box w' (w.heap.size + 1) u v
  b : Below w.heap.size w w'
theorem Two.next {w w1 w2 : World} {x y u v : Nat} (h : Two w w1 x y u v) (k : Below w1.heap.size w1 w2) : Two w w2 x y u v := ⟨h.a.below k h.a.lt, h.r.below k h.r.lt, h.b.trans (k.mono h.b.size)⟩
theorem two_new (w : World) (x y u v : Nat) (s t : TypeId) : Two w ((w.alloc (.cells #[.float .f64 x, .float .f64 y] s)).alloc (.cells #[.float .f64 u, .float .f64 v] t)) x y u v := by
  have h1 := box_new (w.alloc (.cells #[.float .f64 x, .float .f64 y] s)) u v t
  rw [size_alloc] at h1
  exact ⟨(box_new w x y s).alloc _, h1, ((Below.refl _ _).alloc (Nat.le_refl _) _).alloc (by rw [size_alloc]; omega) _⟩
theorem below_set2 {w w1 : World} (h : Below w.heap.size w w1) (u v : Value) : Below w.heap.size w ((w1.setCell ⟨w.heap.size + 1, 0, none⟩ u).setCell ⟨w.heap.size + 1, 1, none⟩ v) := (h.setCell (p := ⟨_, 0, none⟩) (by simp only; omega) _).setCell (p := ⟨_, 1, none⟩) (by simp only; omega) _

set_option maxHeartbeats 1000000 in
theorem implAt_bad1 (a : Option Addr) (len cap : Nat) (f : Nat → Nat) (x y : Nat) (w : World) (h : FS w a len f) (g1 : polyG f len = false) :
    Calls Try.prog 17 #[.slice a len cap, pt x y] w fun e w' => e = .returned (.tuple #[pt 0 0, .bool false]) ∧ Below w.heap.size w w' := by
  have T := two_new w x y 0 0 25 25
  have hg := implPoly_any a len cap f _ (h.below T.b)
  go_enter Try.func17, Try.ntmps17
  go_wp2_with fail
  refine hg.mono ?_
  rintro e w' ⟨rfl, rfl⟩
  clear hg
  go_wp2
  go_returns
  refine ⟨rfl, ?_⟩
  repeat' (first | exact Below.refl _ _ | refine below_dr ?_ _ | refine Below.alloc ?_ (by simp <;> omega) _ | refine Below.setCell ?_ (by simp <;> omega) _)

set_option maxHeartbeats 1000000 in
theorem implAt_bad2 (a : Option Addr) (len cap : Nat) (f : Nat → Nat) (x y : Nat) (w : World) (h : FS w a len f) (hx : x < 18446744073709551616) (hy : y < 18446744073709551616) (g1 : polyG f len = true) (g2 : (goodB x && goodB y) = false) :
    Calls Try.prog 17 #[.slice a len cap, pt x y] w fun e w' => e = .returned (.tuple #[pt 0 0, .bool false]) ∧ Below w.heap.size w w' := by
  have T := two_new w x y 0 0 25 25
  have hg := implPoly_any a len cap f _ (h.below T.b)
  go_enter Try.func17, Try.ntmps17
  go_wp2_with fail
  refine hg.mono ?_
  rintro e w' ⟨rfl, rfl⟩
  clear hg
  go_wp2_with fail
  refine (implGoodPt_any x y _ hx hy).mono ?_
  rintro e w1 ⟨rfl, hb1⟩
  have T1 := T.next hb1
  clear T hb1
  have T := T1
  clear T1
  have p0 := T.a.c0
  have p1 := T.a.c1
  have r0 := T.r.c0
  have r1 := T.r.c1
  have f0 := T.r.f0
  have f1 := T.r.f1
  go_wp2
  (try simp only [Exit.inBlock, Exit.then])
  refine ret_pt rfl rfl (set_two r0 r1) rfl ?_
  exact ⟨rfl, below_set2 T.b _ _⟩

set_option maxHeartbeats 1000000 in
theorem implAt_good (a : Option Addr) (len cap : Nat) (f : Nat → Nat) (x y : Nat) (w : World) (h : FS w a len f) (hx : x < 18446744073709551616) (hy : y < 18446744073709551616) (g1 : polyG f len = true) (g2 : (goodB x && goodB y) = true) :
    Calls Try.prog 17 #[.slice a len cap, pt x y] w fun e w' => e = .returned (.tuple #[pt (tellR (py f len (some x) (some y) len).1 (py f len (some x) (some y) len).2) (tellI (py f len (some x) (some y) len).1 (py f len (some x) (some y) len).2), .bool (tellOk (py f len (some x) (some y) len).1 (py f len (some x) (some y) len).2)]) ∧ Below w.heap.size w w' := by
  have T := two_new w x y 0 0 25 25
  have hg := implPoly_any a len cap f _ (h.below T.b)
  go_enter Try.func17, Try.ntmps17
  go_wp2_with fail
  refine hg.mono ?_
  rintro e w' ⟨rfl, rfl⟩
  clear hg
  go_wp2_with fail
  refine (implGoodPt_any x y _ hx hy).mono ?_
  rintro e w1 ⟨rfl, hb1⟩
  have T1 := T.next hb1
  clear T hb1
  have T := T1
  clear T1
  have p0 := T.a.c0
  have p1 := T.a.c1
  have r0 := T.r.c0
  have r1 := T.r.c1
  have f0 := T.r.f0
  have f1 := T.r.f1
  go_wp2_with fail
  refine (complexOf_any x y _).mono ?_
  rintro e w2 ⟨rfl, hb2⟩
  have T2 := T.next hb2
  clear T hb2 p0 p1 r0 r1 f0 f1
  have T := T2
  clear T2
  have p0 := T.a.c0
  have p1 := T.a.c1
  have r0 := T.r.c0
  have r1 := T.r.c1
  have f0 := T.r.f0
  have f1 := T.r.f1
  go_wp2_with fail
  refine (polyComplex_any a len cap f x y _ (h.below T.b) (rep_of hx) (rep_of hy)).mono ?_
  rintro e w3 ⟨vr, vi, rfl, hrr, hri, n, hn⟩
  have hb3 := below_of hn
  clear hn
  have T3 := T.next hb3
  clear T hb3 p0 p1 r0 r1 f0 f1
  have T := T3
  clear T3
  have p0 := T.a.c0
  have p1 := T.a.c1
  have r0 := T.r.c0
  have r1 := T.r.c1
  have f0 := T.r.f0
  have f1 := T.r.f1
  go_wp2_with fail
  refine (tellPoint_any vr vi _ hrr.1 hri.1).mono ?_
  rintro e w4 ⟨rfl, hb4⟩
  have T4 := T.next hb4
  clear T hb4 p0 p1 r0 r1 f0 f1
  have T := T4
  clear T4
  have p0 := T.a.c0
  have p1 := T.a.c1
  have r0 := T.r.c0
  have r1 := T.r.c1
  have f0 := T.r.f0
  have f1 := T.r.f1
  rw [tell_rep hrr hri]
  clear hrr hri
  go_wp2
  (try simp only [Exit.inBlock, Exit.then])
  refine ret_pt rfl rfl (set_two r0 r1) rfl ?_
  exact ⟨rfl, below_set2 T.b _ _⟩

set_option maxHeartbeats 1000000 in
theorem specAt_bad1 (a : Option Addr) (len cap : Nat) (f : Nat → Nat) (x y : Nat) (w : World) (h : FS w a len f) (g1 : polyG f len = false) :
    Calls Try.prog 15 #[.slice a len cap, pt x y] w fun e w' => e = .returned (.tuple #[pt 0 0, .bool false]) ∧ Below w.heap.size w w' := by
  have T := two_new w x y 0 0 25 25
  have hg := specPoly_any a len cap f _ (h.below T.b)
  go_enter Try.func15, Try.ntmps15
  go_wp2_with fail
  refine hg.mono ?_
  rintro e w' ⟨rfl, rfl⟩
  clear hg
  go_wp2
  go_returns
  refine ⟨rfl, ?_⟩
  repeat' (first | exact Below.refl _ _ | refine below_dr ?_ _ | refine Below.alloc ?_ (by simp <;> omega) _ | refine Below.setCell ?_ (by simp <;> omega) _)

set_option maxHeartbeats 1000000 in
theorem specAt_bad2 (a : Option Addr) (len cap : Nat) (f : Nat → Nat) (x y : Nat) (w : World) (h : FS w a len f) (hx : x < 18446744073709551616) (hy : y < 18446744073709551616) (g1 : polyG f len = true) (g2 : (goodB x && goodB y) = false) :
    Calls Try.prog 15 #[.slice a len cap, pt x y] w fun e w' => e = .returned (.tuple #[pt 0 0, .bool false]) ∧ Below w.heap.size w w' := by
  have T := two_new w x y 0 0 25 25
  have hg := specPoly_any a len cap f _ (h.below T.b)
  go_enter Try.func15, Try.ntmps15
  go_wp2_with fail
  refine hg.mono ?_
  rintro e w' ⟨rfl, rfl⟩
  clear hg
  go_wp2_with fail
  refine (specGoodPt_any x y _ hx hy).mono ?_
  rintro e w1 ⟨rfl, hb1⟩
  have T1 := T.next hb1
  clear T hb1
  have T := T1
  clear T1
  have p0 := T.a.c0
  have p1 := T.a.c1
  have r0 := T.r.c0
  have r1 := T.r.c1
  have f0 := T.r.f0
  have f1 := T.r.f1
  go_wp2
  (try simp only [Exit.inBlock, Exit.then])
  refine ret_pt rfl rfl (set_two r0 r1) rfl ?_
  exact ⟨rfl, below_set2 T.b _ _⟩

set_option maxHeartbeats 1000000 in
theorem specAt_good (a : Option Addr) (len cap : Nat) (f : Nat → Nat) (x y : Nat) (w : World) (h : FS w a len f) (hx : x < 18446744073709551616) (hy : y < 18446744073709551616) (g1 : polyG f len = true) (g2 : (goodB x && goodB y) = true) :
    Calls Try.prog 15 #[.slice a len cap, pt x y] w fun e w' => e = .returned (.tuple #[pt (tellR (py f len (some x) (some y) len).1 (py f len (some x) (some y) len).2) (tellI (py f len (some x) (some y) len).1 (py f len (some x) (some y) len).2), .bool (tellOk (py f len (some x) (some y) len).1 (py f len (some x) (some y) len).2)]) ∧ Below w.heap.size w w' := by
  have T := two_new w x y 0 0 25 25
  have hg := specPoly_any a len cap f _ (h.below T.b)
  go_enter Try.func15, Try.ntmps15
  go_wp2_with fail
  refine hg.mono ?_
  rintro e w' ⟨rfl, rfl⟩
  clear hg
  go_wp2_with fail
  refine (specGoodPt_any x y _ hx hy).mono ?_
  rintro e w1 ⟨rfl, hb1⟩
  have T1 := T.next hb1
  clear T hb1
  have T := T1
  clear T1
  have p0 := T.a.c0
  have p1 := T.a.c1
  have r0 := T.r.c0
  have r1 := T.r.c1
  have f0 := T.r.f0
  have f1 := T.r.f1
  go_wp2_with fail
  refine (l3At_any a len cap f x y _ (h.below T.b) (rep_of hx) (rep_of hy)).mono ?_
  rintro e w3 ⟨vr, vi, rfl, hrr, hri, hb3⟩
  have T3 := T.next hb3
  clear T hb3 p0 p1 r0 r1 f0 f1
  have T := T3
  clear T3
  have p0 := T.a.c0
  have p1 := T.a.c1
  have r0 := T.r.c0
  have r1 := T.r.c1
  have f0 := T.r.f0
  have f1 := T.r.f1
  go_wp2_with fail
  refine (l3Told_any vr vi _ hrr.1 hri.1).mono ?_
  rintro e w4 ⟨rfl, hb4⟩
  have T4 := T.next hb4
  clear T hb4 p0 p1 r0 r1 f0 f1
  have T := T4
  clear T4
  have p0 := T.a.c0
  have p1 := T.a.c1
  have r0 := T.r.c0
  have r1 := T.r.c1
  have f0 := T.r.f0
  have f1 := T.r.f1
  rw [tell_rep hrr hri]
  clear hrr hri
  go_wp2
  (try simp only [Exit.inBlock, Exit.then])
  refine ret_pt rfl rfl (set_two r0 r1) rfl ?_
  exact ⟨rfl, below_set2 T.b _ _⟩

/-- the answer of PolyAt -/
def atG (f : Nat → Nat) (len x y : Nat) : Bool := polyG f len && (goodB x && goodB y)
def atX (f : Nat → Nat) (len x y : Nat) : Nat := if atG f len x y then tellR (py f len (some x) (some y) len).1 (py f len (some x) (some y) len).2 else 0
def atY (f : Nat → Nat) (len x y : Nat) : Nat := if atG f len x y then tellI (py f len (some x) (some y) len).1 (py f len (some x) (some y) len).2 else 0
def atT (f : Nat → Nat) (len x y : Nat) : Bool := if atG f len x y then tellOk (py f len (some x) (some y) len).1 (py f len (some x) (some y) len).2 else false
theorem py_lt (f : Nat → Nat) (len : Nat) (x y : Option Nat) (k : Nat) : (∀ r, (py f len x y k).1 = some r → r < 18446744073709551616) ∧ (∀ r, (py f len x y k).2 = some r → r < 18446744073709551616) := by
  cases k with
  | zero => exact ⟨fun r h => by cases h; decide, fun r h => by cases h; decide⟩
  | succ k => exact ⟨fun r h => ob_lt h, fun r h => ob_lt h⟩
theorem atX_lt (f : Nat → Nat) (len x y : Nat) : atX f len x y < 18446744073709551616 := by
  unfold atX tellR
  repeat' split
  · exact told_lt' _ (py_lt f len _ _ len).1
  all_goals decide
theorem atY_lt (f : Nat → Nat) (len x y : Nat) : atY f len x y < 18446744073709551616 := by
  unfold atY tellI
  repeat' split
  · exact told_lt' _ (py_lt f len _ _ len).2
  all_goals decide

theorem implAt_any (a : Option Addr) (len cap : Nat) (f : Nat → Nat) (x y : Nat) (w : World) (h : FS w a len f) (hx : x < 18446744073709551616) (hy : y < 18446744073709551616) :
    Calls Try.prog 17 #[.slice a len cap, pt x y] w fun e w' => e = .returned (.tuple #[pt (atX f len x y) (atY f len x y), .bool (atT f len x y)]) ∧ Below w.heap.size w w' := by
  unfold atX atY atT atG
  cases g1 : polyG f len with
  | false => simpa using implAt_bad1 a len cap f x y w h g1
  | true =>
    cases g2 : (goodB x && goodB y) with
    | false => simpa using implAt_bad2 a len cap f x y w h hx hy g1 g2
    | true => simpa using implAt_good a len cap f x y w h hx hy g1 g2

theorem specAt_any (a : Option Addr) (len cap : Nat) (f : Nat → Nat) (x y : Nat) (w : World) (h : FS w a len f) (hx : x < 18446744073709551616) (hy : y < 18446744073709551616) :
    Calls Try.prog 15 #[.slice a len cap, pt x y] w fun e w' => e = .returned (.tuple #[pt (atX f len x y) (atY f len x y), .bool (atT f len x y)]) ∧ Below w.heap.size w w' := by
  unfold atX atY atT atG
  cases g1 : polyG f len with
  | false => simpa using specAt_bad1 a len cap f x y w h g1
  | true =>
    cases g2 : (goodB x && goodB y) with
    | false => simpa using specAt_bad2 a len cap f x y w h hx hy g1 g2
    | true => simpa using specAt_good a len cap f x y w h hx hy g1 g2
end Go.Proofs.Ytgcnkecfdmafdaa
