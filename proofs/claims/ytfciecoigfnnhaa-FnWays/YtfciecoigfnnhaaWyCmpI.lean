/- CmpCost, as the program says it. -/
import Derived.Test.YtfciecoigfnnhaaWyTlC
import Derived.Deep.Cut
namespace Go.Proofs.Ytfciecoigfnnhaa
open Go.RowKit


set_option maxHeartbeats 1000000 in
theorem iCmpCost (a b c d : Int) (w : World) :
    Calls Try.prog 14 #[.int .i64 a, .int .i64 b, .int .i64 c, .int .i64 d] w fun e w' => e = .returned (.tuple #[.int .i64 (cstV a b c d), .bool (cstB a b c d)]) ∧ Below w.heap.size w w' := by
  have hb0 : Below w.heap.size w ((w.alloc (.cells #[.int .i64 a, .int .i64 b] 88)).alloc (.cells #[.int .i64 c, .int .i64 d] 88)) := ((Below.refl _ _).alloc (Nat.le_refl _) _).alloc (by simp) _
  have bA := (bx_new (w := w) [.int .i64 a, .int .i64 b] 88 rfl).alloc (.cells #[.int .i64 c, .int .i64 d] 88)
  have bB := bx_new (w := w.alloc (.cells #[.int .i64 a, .int .i64 b] 88)) (b := w.heap.size + 1) [.int .i64 c, .int .i64 d] 88 (by simp)
  have k1 := tgood_any a b
  have k2 := tgood_any c d
  go_enter Try.func14, Try.ntmps14
  go_upto_region 2 with fail
  generalize (w.alloc (.cells #[.int .i64 a, .int .i64 b] 88)).alloc (.cells #[.int .i64 c, .int .i64 d] 88) = w0 at hb0 bA bB ⊢
  have x0 := bA.c0
  have x1 := bA.c1
  cases e0 : (stB a && stB b) with
  | false =>
    have e : cstB a b c d = false := by simp [cstB, e0]
    have e' : cstV a b c d = 0 := by simp [cstV, e]
    rw [e0] at k1
    go_wp2_with fail
    refine (k1 _).mono ?_
    rintro e9 w1 ⟨rfl, hb1⟩
    have hB1 := stepA hb0 hb1
    go_wp2
    go_ret2
    rw [e, e']
    exact ⟨rfl, hB1⟩
  | true =>
    rw [e0] at k1
    have g0 : stB a = true ∧ stB b = true := by simpa using e0
    cases e1 : (stB c && stB d) with
    | false =>
      have e : cstB a b c d = false := by unfold cstB; rw [Bool.and_assoc, e0, e1]; rfl
      have e' : cstV a b c d = 0 := by simp [cstV, e]
      rw [e1] at k2
      go_wp2_with fail
      refine (k1 _).mono ?_
      rintro e9 w1 ⟨rfl, hb1⟩
      have hB1 := stepA hb0 hb1
      have y0 := (bB.on hb1).c0
      have y1 := (bB.on hb1).c1
      clear x0 x1
      go_wp2_with fail
      refine (k2 _).mono ?_
      rintro e9 w2 ⟨rfl, hb2⟩
      have hB2 := stepA hB1 hb2
      go_wp2
      go_ret2
      rw [e, e']
      exact ⟨rfl, hB2⟩
    | true =>
      have g1 : stB c = true ∧ stB d = true := by simpa using e1
      have e : cstB a b c d = true := by unfold cstB; rw [Bool.and_assoc, e0, e1]; rfl
      have e' : cstV a b c d = cmpV (a - c) (b - d) := by simp [cstV, e]
      have k3 := fun w => tcmp_any a b c d w (stB_t g0.1) (stB_t g0.2) (stB_t g1.1) (stB_t g1.2)
      rw [e1] at k2
      generalize hv : cmpV (a - c) (b - d) = v at k3
      rw [hv] at e'
      go_wp2_with fail
      refine (k1 _).mono ?_
      rintro e9 w1 ⟨rfl, hb1⟩
      have hB1 := stepA hb0 hb1
      have y0 := (bB.on hb1).c0
      have y1 := (bB.on hb1).c1
      clear x0 x1
      go_wp2_with fail
      refine (k2 _).mono ?_
      rintro e9 w2 ⟨rfl, hb2⟩
      have hB2 := stepA hB1 hb2
      have z0 := ((bB.on hb1).on hb2).c0
      have z1 := ((bB.on hb1).on hb2).c1
      have x0 := ((bA.on hb1).on hb2).c0
      have x1 := ((bA.on hb1).on hb2).c1
      clear y0 y1
      go_wp2_with fail
      refine (k3 _).mono ?_
      rintro e9 w3 ⟨rfl, hb3⟩
      have hB3 := stepA hB2 hb3
      go_wp2
      go_ret2
      rw [e, e']
      exact ⟨rfl, hB3⟩
end Go.Proofs.Ytfciecoigfnnhaa
