/- How long one waits for a booking, and what is left of one, as the program says it. -/
import Derived.Test.YtdpblholoogikaaBkAt
import Derived.BigQuiet
namespace Go.Proofs.Ytdpblholoogikaa
open Go.RowKit
/-- the tick up to which one waits -/
def wtV (f t at_ long : Int) : Int := if t ≤ at_ then at_ else if at_ ≤ f ∧ long ≤ f - at_ then at_ else t
set_option maxHeartbeats 2000000 in
set_option maxRecDepth 20000 in
theorem wait1 (a f t u at_ long : Int) (w : World) (_hf : 0 ≤ f ∧ f ≤ 10000) (_hat : 0 ≤ at_ ∧ at_ ≤ 10000) (h : t ≤ at_) :
    Calls Try.prog 27 #[bkv a f t u, .int .i64 at_, .int .i64 long] w fun e w' => e = .returned (.int .i64 (at_)) ∧ Below w.heap.size w w' := by
  have z := bk_box w a f t u 25
  have hx : Below w.heap.size w (w.alloc (.cells #[.int .i64 a, .int .i64 f, .int .i64 t, .int .i64 u] 25)) := (Below.refl _ _).alloc (Nat.le_refl _) _
  obtain ⟨x0, x1, x2, x3⟩ := bx_four4 z
  have r0 := fun w => as_over (bkv a f t u) w
  go_enter Try.func27, Try.ntmps27
  go_wp2_with fail
  refine (at_over a f t u at_ _ (by omega)).mono ?_
  rintro e w1 ⟨rfl, hb⟩
  have hlt := (z.on hb).lt
  obtain ⟨y0, y1, y2, y3⟩ := bx_four4 (z.on hb)
  have hB := stepA hx hb
  have hsz := hB.size
  clear x0 x1 x2 x3 z hx hb
  go_wp2
  go_ret
  refine ⟨rfl, ?_⟩
  repeat' (first | exact hB | refine below_dr ?_ _ | refine Below.alloc ?_ (by first | omega | (simp <;> omega)) _ | refine Below.setCell ?_ (by first | omega | (simp <;> omega)) _)
set_option maxHeartbeats 2000000 in
set_option maxRecDepth 20000 in
theorem wait2 (a f t u at_ long : Int) (w : World) (_hf : 0 ≤ f ∧ f ≤ 10000) (_hat : 0 ≤ at_ ∧ at_ ≤ 10000) (h : at_ < t ∧ f < at_) :
    Calls Try.prog 27 #[bkv a f t u, .int .i64 at_, .int .i64 long] w fun e w' => e = .returned (.int .i64 (t)) ∧ Below w.heap.size w w' := by
  have z := bk_box w a f t u 25
  have hx : Below w.heap.size w (w.alloc (.cells #[.int .i64 a, .int .i64 f, .int .i64 t, .int .i64 u] 25)) := (Below.refl _ _).alloc (Nat.le_refl _) _
  obtain ⟨x0, x1, x2, x3⟩ := bx_four4 z
  have r0 := fun w => no_begun_over (bkv a f t u) w
  have r1 := fun w => no_begun_coming (bkv a f t u) w
  go_enter Try.func27, Try.ntmps27
  go_wp2_with fail
  refine (at_begun a f t u at_ _ (by omega)).mono ?_
  rintro e w1 ⟨rfl, hb⟩
  have hlt := (z.on hb).lt
  obtain ⟨y0, y1, y2, y3⟩ := bx_four4 (z.on hb)
  have hB := stepA hx hb
  have hsz := hB.size
  clear x0 x1 x2 x3 z hx hb
  go_wp2
  go_ret
  refine ⟨rfl, ?_⟩
  repeat' (first | exact hB | refine below_dr ?_ _ | refine Below.alloc ?_ (by first | omega | (simp <;> omega)) _ | refine Below.setCell ?_ (by first | omega | (simp <;> omega)) _)
set_option maxHeartbeats 2000000 in
set_option maxRecDepth 20000 in
theorem wait3 (a f t u at_ long : Int) (w : World) (_hf : 0 ≤ f ∧ f ≤ 10000) (_hat : 0 ≤ at_ ∧ at_ ≤ 10000) (h : at_ < t ∧ at_ ≤ f ∧ long ≤ f - at_) :
    Calls Try.prog 27 #[bkv a f t u, .int .i64 at_, .int .i64 long] w fun e w' => e = .returned (.int .i64 (at_)) ∧ Below w.heap.size w w' := by
  have z := bk_box w a f t u 25
  have hx : Below w.heap.size w (w.alloc (.cells #[.int .i64 a, .int .i64 f, .int .i64 t, .int .i64 u] 25)) := (Below.refl _ _).alloc (Nat.le_refl _) _
  obtain ⟨x0, x1, x2, x3⟩ := bx_four4 z
  have r0 := fun w => no_coming_over (bkv a f t u) w
  have r1 := fun w => as_coming (bkv a f t u) w
  have l0 := h.2.2
  go_enter Try.func27, Try.ntmps27
  go_wp2_with fail
  refine (at_coming a f t u at_ _ (by omega)).mono ?_
  rintro e w1 ⟨rfl, hb⟩
  have hlt := (z.on hb).lt
  obtain ⟨y0, y1, y2, y3⟩ := bx_four4 (z.on hb)
  have hB := stepA hx hb
  have hsz := hB.size
  clear x0 x1 x2 x3 z hx hb
  go_wp2
  go_ret
  refine ⟨rfl, ?_⟩
  repeat' (first | exact hB | refine below_dr ?_ _ | refine Below.alloc ?_ (by first | omega | (simp <;> omega)) _ | refine Below.setCell ?_ (by first | omega | (simp <;> omega)) _)
set_option maxHeartbeats 2000000 in
set_option maxRecDepth 20000 in
theorem wait4 (a f t u at_ long : Int) (w : World) (_hf : 0 ≤ f ∧ f ≤ 10000) (_hat : 0 ≤ at_ ∧ at_ ≤ 10000) (h : at_ < t ∧ at_ ≤ f ∧ ¬ long ≤ f - at_) :
    Calls Try.prog 27 #[bkv a f t u, .int .i64 at_, .int .i64 long] w fun e w' => e = .returned (.int .i64 (t)) ∧ Below w.heap.size w w' := by
  have z := bk_box w a f t u 25
  have hx : Below w.heap.size w (w.alloc (.cells #[.int .i64 a, .int .i64 f, .int .i64 t, .int .i64 u] 25)) := (Below.refl _ _).alloc (Nat.le_refl _) _
  obtain ⟨x0, x1, x2, x3⟩ := bx_four4 z
  have r0 := fun w => no_coming_over (bkv a f t u) w
  have r1 := fun w => as_coming (bkv a f t u) w
  have l0 : f - at_ < long := by omega
  go_enter Try.func27, Try.ntmps27
  go_wp2_with fail
  refine (at_coming a f t u at_ _ (by omega)).mono ?_
  rintro e w1 ⟨rfl, hb⟩
  have hlt := (z.on hb).lt
  obtain ⟨y0, y1, y2, y3⟩ := bx_four4 (z.on hb)
  have hB := stepA hx hb
  have hsz := hB.size
  clear x0 x1 x2 x3 z hx hb
  go_wp2
  go_ret
  refine ⟨rfl, ?_⟩
  repeat' (first | exact hB | refine below_dr ?_ _ | refine Below.alloc ?_ (by first | omega | (simp <;> omega)) _ | refine Below.setCell ?_ (by first | omega | (simp <;> omega)) _)
theorem wait_any (a f t u at_ long : Int) (w : World) (hf : 0 ≤ f ∧ f ≤ 10000) (hat : 0 ≤ at_ ∧ at_ ≤ 10000) :
    Calls Try.prog 27 #[bkv a f t u, .int .i64 at_, .int .i64 long] w fun e w' => e = .returned (.int .i64 (wtV f t at_ long)) ∧ Below w.heap.size w w' := by
  unfold wtV
  by_cases h1 : t ≤ at_
  · rw [if_pos h1]; exact wait1 a f t u at_ long w hf hat h1
  rw [if_neg h1]
  by_cases h2 : at_ ≤ f ∧ long ≤ f - at_
  · rw [if_pos h2]; exact wait3 a f t u at_ long w hf hat ⟨by omega, h2⟩
  rw [if_neg h2]
  by_cases h3 : f < at_
  · exact wait2 a f t u at_ long w hf hat ⟨by omega, h3⟩
  · exact wait4 a f t u at_ long w hf hat ⟨by omega, by omega, by omega⟩
theorem ret_bk {fn : Func} {t t2 : Tmp} {R : Ending → World → Prop} {a : Act} {w : World} {b : Nat} {x y z u : Value} (h : fn.results = #[.cell t 25, .tmp t2]) (hp : a.tmps.getD t undef = .pointer (some ⟨b, 0, none⟩)) (c : Bx w b [x, y, z, u]) (hd : a.defers = [])
    (hR : R (.returned (.tuple #[.agg #[x, y, z, u], a.tmps.getD t2 undef])) w) : bodyPost Try.prog fn R .ret a w := by
  refine bodyPost_ret ?_ hd hR
  obtain ⟨c0, c1, c2, c3⟩ := bx_four4 c
  rw [results_cell_tmp h, hp]
  simp [asAddr, loadVar, go_sem, c0, c1, c2, c3]
theorem bx_set4 {w : World} {b : Nat} {x y z u : Value} (h : Bx w b [x, y, z, u]) (p q r s : Value) : Bx ((((w.setCell ⟨b, 0, none⟩ p).setCell ⟨b, 1, none⟩ q).setCell ⟨b, 2, none⟩ r).setCell ⟨b, 3, none⟩ s) b [p, q, r, s] :=
  (((h.set 0 (show 0 < 4 by omega) p).set 1 (show 1 < 4 by omega) q).set 2 (show 2 < 4 by omega) r).set 3 (show 3 < 4 by omega) s
theorem below_set4 {B b : Nat} {w w1 : World} (h : Below B w w1) (hb : B ≤ b) (p q r s : Value) : Below B w ((((w1.setCell ⟨b, 0, none⟩ p).setCell ⟨b, 1, none⟩ q).setCell ⟨b, 2, none⟩ r).setCell ⟨b, 3, none⟩ s) :=
  (((h.setCell (p := ⟨b, 0, none⟩) hb p).setCell (p := ⟨b, 1, none⟩) hb q).setCell (p := ⟨b, 2, none⟩) hb r).setCell (p := ⟨b, 3, none⟩) hb s
end Go.Proofs.Ytdpblholoogikaa
