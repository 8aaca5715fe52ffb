/- What is left of a booking that is given back, as the program says it. -/
import Derived.Test.YtdpblholoogikaaBkWt
import Derived.BigQuiet
namespace Go.Proofs.Ytdpblholoogikaa
open Go.RowKit
set_option maxHeartbeats 2000000 in
set_option maxRecDepth 20000 in
theorem rest1 (a f t u at_ : Int) (w : World) (h : t ≤ at_) :
    Calls Try.prog 28 #[bkv a f t u, .int .i64 at_] w fun e w' => e = .returned (.tuple #[bkv a f t u, .bool true]) ∧ Below w.heap.size w w' := by
  have z := bk_box w a f t u 25
  have z0 := bk_box (w.alloc (.cells #[.int .i64 a, .int .i64 f, .int .i64 t, .int .i64 u] 25)) 0 0 0 0 25
  rw [size_al] at z0
  have hx : Below w.heap.size w ((w.alloc (.cells #[.int .i64 a, .int .i64 f, .int .i64 t, .int .i64 u] 25)).alloc (.cells #[.int .i64 0, .int .i64 0, .int .i64 0, .int .i64 0] 25)) := ((Below.refl _ _).alloc (Nat.le_refl _) _).alloc (by simp) _
  have z1 := z.alloc (.cells #[.int .i64 0, .int .i64 0, .int .i64 0, .int .i64 0] 25)
  obtain ⟨x0, x1, x2, x3⟩ := bx_four4 z1
  have r0 := fun w => no_over_coming (bkv a f t u) w
  have r1 := fun w => no_over_begun (bkv a f t u) w
  go_enter Try.func28, Try.ntmps28
  go_wp2_with fail
  refine (at_over a f t u at_ _ (by omega)).mono ?_
  rintro e w1 ⟨rfl, hb⟩
  have zz := z0.on hb
  have hlt1 := (z1.on hb).lt
  obtain ⟨y0, y1, y2, y3⟩ := bx_four4 (z1.on hb)
  obtain ⟨v0, v1, v2, v3⟩ := bx_four4 zz
  have hB := stepA hx hb
  have hsz := hB.size
  have hlt := zz.lt
  clear x0 x1 x2 x3 z hx hb z1 z0
  have g0 := zz.fz 0
  have g1 := zz.fz 1
  have g2 := zz.fz 2
  have g3 := zz.fz 3
  go_wp2
  refine ret_bk rfl rfl (((bx_set4 zz (.int .i64 a) (.int .i64 f) (.int .i64 t) (.int .i64 u)).alloc (.cells #[.int .i64 0, .int .i64 0, .int .i64 0, .int .i64 0] 66)).alloc (.cells #[.int .i64 0, .int .i64 0, .int .i64 0, .int .i64 0] 68)) rfl ⟨rfl, ?_⟩
  repeat' (first | exact hB | refine below_dr ?_ _ | refine Below.alloc ?_ (by first | omega | (simp <;> omega)) _ | refine Below.setCell ?_ (by first | omega | (simp <;> omega)) _)
set_option maxHeartbeats 2000000 in
set_option maxRecDepth 20000 in
theorem rest3 (a f t u at_ : Int) (w : World) (h : at_ < t ∧ at_ ≤ f) :
    Calls Try.prog 28 #[bkv a f t u, .int .i64 at_] w fun e w' => e = .returned (.tuple #[bkv 0 0 0 0, .bool false]) ∧ Below w.heap.size w w' := by
  have z := bk_box w a f t u 25
  have z0 := bk_box (w.alloc (.cells #[.int .i64 a, .int .i64 f, .int .i64 t, .int .i64 u] 25)) 0 0 0 0 25
  rw [size_al] at z0
  have hx : Below w.heap.size w ((w.alloc (.cells #[.int .i64 a, .int .i64 f, .int .i64 t, .int .i64 u] 25)).alloc (.cells #[.int .i64 0, .int .i64 0, .int .i64 0, .int .i64 0] 25)) := ((Below.refl _ _).alloc (Nat.le_refl _) _).alloc (by simp) _
  have z1 := z.alloc (.cells #[.int .i64 0, .int .i64 0, .int .i64 0, .int .i64 0] 25)
  obtain ⟨x0, x1, x2, x3⟩ := bx_four4 z1
  have r0 := fun w => as_coming (bkv a f t u) w
  go_enter Try.func28, Try.ntmps28
  go_wp2_with fail
  refine (at_coming a f t u at_ _ (by omega)).mono ?_
  rintro e w1 ⟨rfl, hb⟩
  have zz := z0.on hb
  have hlt1 := (z1.on hb).lt
  obtain ⟨y0, y1, y2, y3⟩ := bx_four4 (z1.on hb)
  obtain ⟨v0, v1, v2, v3⟩ := bx_four4 zz
  have hB := stepA hx hb
  have hsz := hB.size
  have hlt := zz.lt
  clear x0 x1 x2 x3 z hx hb z1 z0
  have g0 := zz.fz 0
  have g1 := zz.fz 1
  have g2 := zz.fz 2
  have g3 := zz.fz 3
  go_wp2
  refine ret_bk rfl rfl ((bx_set4 zz (.int .i64 0) (.int .i64 0) (.int .i64 0) (.int .i64 0)).alloc (.cells #[.int .i64 a, .int .i64 f, .int .i64 t, .int .i64 u] 66)) rfl ⟨rfl, ?_⟩
  repeat' (first | exact hB | refine below_dr ?_ _ | refine Below.alloc ?_ (by first | omega | (simp <;> omega)) _ | refine Below.setCell ?_ (by first | omega | (simp <;> omega)) _)
set_option maxHeartbeats 2000000 in
set_option maxRecDepth 20000 in
theorem rest2 (a f t u at_ : Int) (w : World) (h : at_ < t ∧ f < at_) :
    Calls Try.prog 28 #[bkv a f t u, .int .i64 at_] w fun e w' => e = .returned (.tuple #[bkv a f at_ u, .bool true]) ∧ Below w.heap.size w w' := by
  have z := bk_box w a f t u 25
  have z0 := bk_box (w.alloc (.cells #[.int .i64 a, .int .i64 f, .int .i64 t, .int .i64 u] 25)) 0 0 0 0 25
  rw [size_al] at z0
  have hx : Below w.heap.size w ((w.alloc (.cells #[.int .i64 a, .int .i64 f, .int .i64 t, .int .i64 u] 25)).alloc (.cells #[.int .i64 0, .int .i64 0, .int .i64 0, .int .i64 0] 25)) := ((Below.refl _ _).alloc (Nat.le_refl _) _).alloc (by simp) _
  have z1 := z.alloc (.cells #[.int .i64 0, .int .i64 0, .int .i64 0, .int .i64 0] 25)
  obtain ⟨x0, x1, x2, x3⟩ := bx_four4 z1
  have r0 := fun w => no_begun_coming (bkv a f t u) w
  have r1 := fun w => as_begun (bkv a f t u) w
  go_enter Try.func28, Try.ntmps28
  go_wp2_with fail
  refine (at_begun a f t u at_ _ (by omega)).mono ?_
  rintro e w1 ⟨rfl, hb⟩
  have zz := z0.on hb
  have hlt1 := (z1.on hb).lt
  obtain ⟨y0, y1, y2, y3⟩ := bx_four4 (z1.on hb)
  obtain ⟨v0, v1, v2, v3⟩ := bx_four4 zz
  have hB := stepA hx hb
  have hsz := hB.size
  have hlt := zz.lt
  clear x0 x1 x2 x3 z hx hb z1 z0
  have g0 := zz.fz 0
  have g1 := zz.fz 1
  have g2 := zz.fz 2
  have g3 := zz.fz 3
  go_wp2
  refine ret_bk rfl rfl (((bx_set4 zz (.int .i64 a) (.int .i64 f) (.int .i64 at_) (.int .i64 u)).alloc (.cells #[.int .i64 0, .int .i64 0, .int .i64 0, .int .i64 0] 66)).alloc (.cells #[.int .i64 a, .int .i64 f, .int .i64 at_, .int .i64 u] 68)) rfl ⟨rfl, ?_⟩
  repeat' (first | exact hB | refine below_dr ?_ _ | refine Below.alloc ?_ (by first | omega | (simp <;> omega)) _ | refine Below.setCell ?_ (by first | omega | (simp <;> omega)) _)
end Go.Proofs.Ytdpblholoogikaa
