/- A straight line from cell to cell, as the program holds it. -/
import Derived.Test.YtfciecoigfnnhaaClKd
import Derived.Test.YtfciecoigfnnhaaWyCrd
namespace Go.Proofs.Ytfciecoigfnnhaa
open Go.RowKit

/-- a leg as a value -/
abbrev lg (x y u v : Int) : Value := .agg #[.int .i64 x, .int .i64 y, .int .i64 u, .int .i64 v]
abbrev lgL (x y u v : Int) : List Value := [.int .i64 x, .int .i64 y, .int .i64 u, .int .i64 v]
theorem Bx.c3 {w : World} {b : Nat} {s t u v : Value} {l : List Value} (h : Bx w b (s :: t :: u :: v :: l)) : w.cell? ⟨b, 3, none⟩ = some v := h.c 3 (by simp)
theorem ret_leg {fn : Func} {t : Tmp} {R : Ending → World → Prop} {a : Act} {w : World} {b : Nat} {x y u v : Int} (h : fn.results = #[.cell t 123]) (hp : a.tmps.getD t undef = .pointer (some ⟨b, 0, none⟩)) (c : Bx w b (lgL x y u v)) (hd : a.defers = [])
    (hR : R (.returned (lg x y u v)) w) : bodyPost Try.prog fn R .ret a w := by
  refine bodyPost_ret ?_ hd hR
  have hp' : a.tmps[t]?.getD undef = .pointer (some ⟨b, 0, none⟩) := by simpa using hp
  simp [results, h, hp', asAddr, loadVar, go_sem, c.c0, c.c1, c.c2, c.c3]
theorem place_in (W H : Int) (n : Nat) (p : Int) (w : World) (hs : sizedB W n = true) (h0 : 0 ≤ p) (h1 : p < (n : Int)) :
    Calls Try.prog 103 #[sd W H, .int .i64 p] w fun e w' => e = .returned (.tuple #[.int .i64 (p % W), .int .i64 (p / W)]) ∧ Below w.heap.size w w' := by
  obtain ⟨k, rfl⟩ := Int.eq_ofNat_of_zero_le h0
  have := sized_le hs
  exact place_any W H k w (sizedB_t hs).1 (sizedB_t hs).2.1 (by omega)

set_option maxHeartbeats 1000000 in
theorem legFrom_any (W H : Int) (q : Option Addr) (n c : Nat) (a b : Int) (w : World) (hs : sizedB W n = true) (a0 : 0 ≤ a) (a1 : a < (n : Int)) (b0 : 0 ≤ b) (b1 : b < (n : Int)) :
    Calls Try.prog 86 #[gr W H q n c, .int .i64 a, .int .i64 b] w fun e w' => e = .returned (lg (a % W) (a / W) (b % W - a % W) (b / W - a / W)) ∧ Below w.heap.size w w' := by
  have hb0 : Below w.heap.size w ((w.alloc (.cells #[.int .i64 W, .int .i64 H, .slice q n c] 73)).alloc (.cells #[.int .i64 0, .int .i64 0, .int .i64 0, .int .i64 0] 123)) := ((Below.refl _ _).alloc (Nat.le_refl _) _).alloc (by simp) _
  have bG := (bx_new (w := w) [.int .i64 W, .int .i64 H, .slice q n c] 73 rfl).alloc (.cells #[.int .i64 0, .int .i64 0, .int .i64 0, .int .i64 0] 123)
  have bL := bx_new (w := w.alloc (.cells #[.int .i64 W, .int .i64 H, .slice q n c] 73)) (b := w.heap.size + 1) (lgL 0 0 0 0) 123 (by simp)
  have k1 := fun w => place_in W H n a w hs a0 a1
  have k2 := fun w => place_in W H n b w hs b0 b1
  obtain ⟨ax, ay⟩ := crd hs a0 a1
  obtain ⟨bx, by'⟩ := crd hs b0 b1
  generalize a % W = AX at *
  generalize a / W = AY at *
  generalize b % W = BX at *
  generalize b / W = BY at *
  clear hs a0 a1 b0 b1
  go_enter Try.func86, Try.ntmps86
  go_wp2_with fail
  refine (k1 _).mono ?_
  rintro e9 w1 ⟨rfl, hb1⟩
  have hB1 := stepA hb0 hb1
  have bG1 := bG.on hb1
  have bL1 := bL.on hb1
  have x0 := bG1.c0
  have x1 := bG1.c1
  clear hb0 bG bL hb1
  go_wp2_with fail
  refine (k2 _).mono ?_
  rintro e9 w2 ⟨rfl, hb2⟩
  have hB2 := stepA hB1 hb2
  have bL2 := bL1.on hb2
  have s0 := bL2.c0
  have s1 := bL2.c1
  have s2 := bL2.c2
  have s3 := bL2.c3
  have f0 := bL2.fz 0
  have f1 := bL2.fz 1
  have f2 := bL2.fz 2
  have f3 := bL2.fz 3
  have LR := bL2.lt
  have bE := ((((bL2.set 0 (by simp) (.int .i64 AX)).set 1 (by simp) (.int .i64 AY)).set 2 (by simp) (.int .i64 (BX - AX))).set 3 (by simp) (.int .i64 (BY - AY)))
  have hBE := ((((hB2.setCell (p := ⟨w.heap.size + 1, 0, none⟩) (by simp) (.int .i64 AX)).setCell (p := ⟨w.heap.size + 1, 1, none⟩) (by simp) (.int .i64 AY)).setCell (p := ⟨w.heap.size + 1, 2, none⟩) (by simp) (.int .i64 (BX - AX))).setCell (p := ⟨w.heap.size + 1, 3, none⟩) (by simp) (.int .i64 (BY - AY)))
  clear x0 x1 bG1 bL1 hb2
  go_wp2
  refine ret_leg Try.results86 rfl bE rfl ?_
  exact ⟨rfl, hBE⟩
end Go.Proofs.Ytfciecoigfnnhaa
