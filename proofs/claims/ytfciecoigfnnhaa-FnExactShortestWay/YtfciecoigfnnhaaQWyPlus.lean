/- Tolls added, as the program does it. -/
import Derived.Test.YtfciecoigfnnhaaQWyTlC
import Derived.Deep.Cut
namespace Go.Proofs.Ytfciecoigfnnhaa
open Go.RowKit

theorem ret_toll {fn : Func} {t : Tmp} {R : Ending → World → Prop} {a : Act} {w : World} {b : Nat} {x y : Int} (h : fn.results = #[.cell t 88]) (hp : a.tmps.getD t undef = .pointer (some ⟨b, 0, none⟩)) (c : Bx w b [.int .i64 x, .int .i64 y]) (hd : a.defers = [])
    (hR : R (.returned (tl x y)) w) : bodyPost Try.prog fn R .ret a w := by
  refine bodyPost_ret ?_ hd hR
  have hp' : a.tmps[t]?.getD undef = .pointer (some ⟨b, 0, none⟩) := by simpa using hp
  simp [results, h, hp', asAddr, loadVar, go_sem, c.c0, c.c1]
theorem bSt {W w1 : World} {g : Nat} {u v : Value} (h : Below W.heap.size W w1) (hg : W.heap.size ≤ g) : Below W.heap.size W ((w1.setCell ⟨g, 0, none⟩ u).setCell ⟨g, 1, none⟩ v) := (h.setCell (p := ⟨g, 0, none⟩) hg _).setCell (p := ⟨g, 1, none⟩) hg _

set_option maxHeartbeats 1000000 in
theorem tplus_any (a b c d : Int) (w : World) (ha : 0 ≤ a ∧ a ≤ 1000000) (hb : 0 ≤ b ∧ b ≤ 1000000) (hc : 0 ≤ c ∧ c ≤ 1000000) (hd : 0 ≤ d ∧ d ≤ 1000000) :
    Calls Try.prog 52 #[tl a b, tl c d] w fun e w' => e = .returned (tl (a + c) (b + d)) ∧ Below w.heap.size w w' := by
  have hb0 : Below w.heap.size w (((w.alloc (.cells #[.int .i64 a, .int .i64 b] 88)).alloc (.cells #[.int .i64 c, .int .i64 d] 88)).alloc (.cells #[.int .i64 0, .int .i64 0] 88)) := (((Below.refl _ _).alloc (Nat.le_refl _) _).alloc (by simp) _).alloc (by simp <;> omega) _
  have bA := ((bx_new (w := w) [.int .i64 a, .int .i64 b] 88 rfl).alloc (.cells #[.int .i64 c, .int .i64 d] 88)).alloc (.cells #[.int .i64 0, .int .i64 0] 88)
  have bB := (bx_new (w := w.alloc (.cells #[.int .i64 a, .int .i64 b] 88)) (b := w.heap.size + 1) [.int .i64 c, .int .i64 d] 88 (by simp)).alloc (.cells #[.int .i64 0, .int .i64 0] 88)
  have bC := bx_new (w := (w.alloc (.cells #[.int .i64 a, .int .i64 b] 88)).alloc (.cells #[.int .i64 c, .int .i64 d] 88)) (b := w.heap.size + 1 + 1) [.int .i64 0, .int .i64 0] 88 (by simp)
  go_enter Try.func52, Try.ntmps52
  go_upto_region 1 with fail
  generalize ((w.alloc (.cells #[.int .i64 a, .int .i64 b] 88)).alloc (.cells #[.int .i64 c, .int .i64 d] 88)).alloc (.cells #[.int .i64 0, .int .i64 0] 88) = w1 at hb0 bA bB bC ⊢
  have x0 := bA.c0
  have x1 := bA.c1
  have y0 := bB.c0
  have y1 := bB.c1
  have s0 := bC.c0
  have s1 := bC.c1
  have f0 := bC.fz 0
  have f1 := bC.fz 1
  have LR := bC.lt
  have bE := ((bC.set 0 (by simp) (.int .i64 (a + c))).set 1 (by simp) (.int .i64 (b + d)))
  have hBE := bSt (g := w.heap.size + 1 + 1) (u := .int .i64 (a + c)) (v := .int .i64 (b + d)) hb0 (by omega)
  go_wp2
  refine ret_toll Try.results52 rfl bE rfl ?_
  exact ⟨rfl, hBE⟩
end Go.Proofs.Ytfciecoigfnnhaa
