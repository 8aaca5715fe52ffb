/- Good chores, both sides (tools/gen_pn.py). -/
import Derived.Test.YtnadedncjbibhaaPnM
import Derived.Test.YtnadedncjbibhaaPnCh
import Derived.Deep.Cut
import Derived.BigQuiet
namespace Go.Proofs.Ytnadedncjbibhaa
open Go.RowKit
set_option maxHeartbeats 2000000 in
theorem iGood1 (P N D : Int) (w : World) :
    Calls Try.prog 42 #[crv P N D] w fun e w' => e = .returned (.bool (gcB P N D)) ∧ Below w.heap.size w w' := by
  have hb0 : Below w.heap.size w (w.alloc (.cells #[.int .i64 P, .int .i64 N, .int .i64 D] 69)) := (Below.refl _ _).alloc (Nat.le_refl _) _
  have b3 := bx_new (w := w) [.int .i64 P, .int .i64 N, .int .i64 D] 69 rfl
  have z0 := b3.c0
  have z1 := b3.c1
  have z2 := b3.c2
  clear b3
  by_cases h0 : P < 1
  · have HV : Hid (gcB P N D = false) := decide_eq_false (by omega)
    go_enter Try.func42, Try.ntmps42
    go_wp2
    go_ret
    exact ⟨by rw [HV.out]; first | rfl | exact ret_bool (decide_eq_false (by omega)) | exact ret_bool (decide_eq_true (by omega)), hb0⟩
  by_cases h1 : 60 < P
  · have HV : Hid (gcB P N D = false) := decide_eq_false (by omega)
    go_enter Try.func42, Try.ntmps42
    go_wp2
    go_ret
    exact ⟨by rw [HV.out]; first | rfl | exact ret_bool (decide_eq_false (by omega)) | exact ret_bool (decide_eq_true (by omega)), hb0⟩
  by_cases h2 : N < 1
  · have HV : Hid (gcB P N D = false) := decide_eq_false (by omega)
    go_enter Try.func42, Try.ntmps42
    go_wp2
    go_ret
    exact ⟨by rw [HV.out]; first | rfl | exact ret_bool (decide_eq_false (by omega)) | exact ret_bool (decide_eq_true (by omega)), hb0⟩
  by_cases h3 : P < N
  · have HV : Hid (gcB P N D = false) := decide_eq_false (by omega)
    go_enter Try.func42, Try.ntmps42
    go_wp2
    go_ret
    exact ⟨by rw [HV.out]; first | rfl | exact ret_bool (decide_eq_false (by omega)) | exact ret_bool (decide_eq_true (by omega)), hb0⟩
  by_cases h4 : D < N
  · have HV : Hid (gcB P N D = false) := decide_eq_false (by omega)
    go_enter Try.func42, Try.ntmps42
    go_wp2
    go_ret
    exact ⟨by rw [HV.out]; first | rfl | exact ret_bool (decide_eq_false (by omega)) | exact ret_bool (decide_eq_true (by omega)), hb0⟩
  by_cases h5 : P < D
  · have HV : Hid (gcB P N D = false) := decide_eq_false (by omega)
    go_enter Try.func42, Try.ntmps42
    go_wp2
    go_ret
    exact ⟨by rw [HV.out]; first | rfl | exact ret_bool (decide_eq_false (by omega)) | exact ret_bool (decide_eq_true (by omega)), hb0⟩
  have HV : Hid (gcB P N D = true) := decide_eq_true (by omega)
  go_enter Try.func42, Try.ntmps42
  go_wp2
  go_ret
  exact ⟨by rw [HV.out]; first | rfl | exact ret_bool (decide_eq_true (by omega)) | exact ret_bool (decide_eq_true (by omega)), hb0⟩
set_option maxRecDepth 20000 in
set_option maxHeartbeats 4000000 in
theorem sGoodC (a : Option Addr) (n c : Nat) (F : Nat → Int) (w : World) (h : IL w a (n * 3) F) :
    Calls Try.prog 15 #[.slice a n c] w fun e w' => e = .returned (.bool (gcV n F)) ∧ Below w.heap.size w w' := by
  by_cases h0 : n < 1
  · have j0 : (n : Int) < 1 := by omega
    have HV : Hid (gcV n F = false) := by unfold gcV; rw [decide_eq_false (by omega)]; rfl
    go_enter Try.func15, Try.ntmps15
    go_wp2
    go_ret
    exact ⟨by rw [HV.out]; try rfl, Below.refl _ _⟩
  have j0 : ¬ (n : Int) < 1 := by omega
  by_cases h1 : 6 < n
  · have j1 : (6 : Int) < (n : Int) := by omega
    have HV : Hid (gcV n F = false) := by unfold gcV; rw [decide_eq_false (by omega)]; rfl
    go_enter Try.func15, Try.ntmps15
    go_wp2
    go_ret
    exact ⟨by rw [HV.out]; try rfl, Below.refl _ _⟩
  have j1 : ¬ (6 : Int) < (n : Int) := by omega
  have HV : Hid (gcV n F = gcK F n) := by unfold gcV; rw [decide_eq_true (by omega)]; rfl
  go_enter Try.func15, Try.ntmps15
  go_wp2
  go_loopw [15] (fun i wr => ∃ k : Nat, k ≤ n ∧ i = .int .i64 (k : Int) ∧ Hid (gcK F k = true) ∧ Below w.heap.size w wr) (fun i _ => n - (intOf i).toNat)
  case atStart => exact ⟨0, Nat.zero_le _, rfl, (rfl : gcK F 0 = true), Below.refl _ _⟩
  case round =>
    obtain ⟨k, hk, rfl, HE, hB⟩ := hrel
    by_cases hlt : k < n
    · obtain ⟨gb, go_, rfl, gl_, x0, x1, x2⟩ := il_three (h.below hB) hlt
      have i0 : (0 : Int) ≤ (k : Int) := by omega
      have i1 : (k : Int) < (n : Int) := by omega
      have HY : Hid (gcB (F (k * 3)) (F (k * 3 + 1)) (F (k * 3 + 2)) = true → gcK F (k + 1) = true) := fun h => by rw [gcK, HE.out, h]; rfl
      have HN : Hid (gcB (F (k * 3)) (F (k * 3 + 1)) (F (k * 3 + 2)) = false → gcV n F = false) := fun h => by rw [HV.out]; exact gcK_no hlt h
      clear HE HV
      generalize F (k * 3) = P at *
      generalize F (k * 3 + 1) = N at *
      generalize F (k * 3 + 2) = D at *
      have hbt : Below wr.heap.size wr (wr.alloc (.cells #[.int .i64 P, .int .i64 N, .int .i64 D] 69)) := (Below.refl _ _).alloc (Nat.le_refl _) _
      have b3 := bx_new (w := wr) [.int .i64 P, .int .i64 N, .int .i64 D] 69 rfl
      have z0 := b3.c0
      have z1 := b3.c1
      have z2 := b3.c2
      have zl := b3.lt
      have hB3 := stepA hB hbt
      clear b3
      by_cases h0 : P < 1
      · have HR : Hid (gcV n F = false) := HN.out (decide_eq_false (by omega))
        clear HY HN
        go_wp2
        go_ret
        exact ⟨by rw [HR.out]; try rfl, hB3⟩
      by_cases h1 : 60 < P
      · have HR : Hid (gcV n F = false) := HN.out (decide_eq_false (by omega))
        clear HY HN
        go_wp2
        go_ret
        exact ⟨by rw [HR.out]; try rfl, hB3⟩
      by_cases h2 : N < 1
      · have HR : Hid (gcV n F = false) := HN.out (decide_eq_false (by omega))
        clear HY HN
        go_wp2
        go_ret
        exact ⟨by rw [HR.out]; try rfl, hB3⟩
      by_cases h3 : P < N
      · have HR : Hid (gcV n F = false) := HN.out (decide_eq_false (by omega))
        clear HY HN
        go_wp2
        go_ret
        exact ⟨by rw [HR.out]; try rfl, hB3⟩
      by_cases h4 : D < N
      · have HR : Hid (gcV n F = false) := HN.out (decide_eq_false (by omega))
        clear HY HN
        go_wp2
        go_ret
        exact ⟨by rw [HR.out]; try rfl, hB3⟩
      by_cases h5 : P < D
      · have HR : Hid (gcV n F = false) := HN.out (decide_eq_false (by omega))
        clear HY HN
        go_wp2
        go_ret
        exact ⟨by rw [HR.out]; try rfl, hB3⟩
      have HR : Hid (gcK F (k + 1) = true) := HY.out (decide_eq_true (by omega))
      clear HY HN
      go_wp2
      go_roundw
      case rel => exact ⟨k + 1, by omega, by go_num, HR, hB3⟩
      case measure => simp [intOf]; omega
    · have e : k = n := by omega
      subst e
      have HR : Hid (gcV k F = true) := by rw [HV.out]; exact HE.out
      clear HV HE
      have i1 : ¬ (k : Int) < (k : Int) := by omega
      go_wp2
      go_ret
      exact ⟨by rw [HR.out]; try rfl, hB⟩
set_option maxRecDepth 20000 in
set_option maxHeartbeats 4000000 in
theorem iGoodC (a : Option Addr) (n c : Nat) (F : Nat → Int) (w : World) (h : IL w a (n * 3) F) :
    Calls Try.prog 17 #[.slice a n c] w fun e w' => e = .returned (.bool (gcV n F)) ∧ Below w.heap.size w w' := by
  by_cases h0 : n < 1
  · have j0 : (n : Int) < 1 := by omega
    have HV : Hid (gcV n F = false) := by unfold gcV; rw [decide_eq_false (by omega)]; rfl
    go_enter Try.func17, Try.ntmps17
    go_wp2
    go_ret
    exact ⟨by rw [HV.out]; try rfl, Below.refl _ _⟩
  have j0 : ¬ (n : Int) < 1 := by omega
  by_cases h1 : 6 < n
  · have j1 : (6 : Int) < (n : Int) := by omega
    have HV : Hid (gcV n F = false) := by unfold gcV; rw [decide_eq_false (by omega)]; rfl
    go_enter Try.func17, Try.ntmps17
    go_wp2
    go_ret
    exact ⟨by rw [HV.out]; try rfl, Below.refl _ _⟩
  have j1 : ¬ (6 : Int) < (n : Int) := by omega
  have HV : Hid (gcV n F = gcK F n) := by unfold gcV; rw [decide_eq_true (by omega)]; rfl
  go_enter Try.func17, Try.ntmps17
  go_wp2
  go_loopw [15] (fun i wr => ∃ k : Nat, k ≤ n ∧ i = .int .i64 (k : Int) ∧ Hid (gcK F k = true) ∧ Below w.heap.size w wr) (fun i _ => n - (intOf i).toNat)
  case atStart => exact ⟨0, Nat.zero_le _, rfl, (rfl : gcK F 0 = true), Below.refl _ _⟩
  case round =>
    obtain ⟨k, hk, rfl, HE, hB⟩ := hrel
    by_cases hlt : k < n
    · obtain ⟨gb, go_, rfl, gl_, x0, x1, x2⟩ := il_three (h.below hB) hlt
      have i0 : (0 : Int) ≤ (k : Int) := by omega
      have i1 : (k : Int) < (n : Int) := by omega
      have HY : Hid (gcB (F (k * 3)) (F (k * 3 + 1)) (F (k * 3 + 2)) = true → gcK F (k + 1) = true) := fun h => by rw [gcK, HE.out, h]; rfl
      have HN : Hid (gcB (F (k * 3)) (F (k * 3 + 1)) (F (k * 3 + 2)) = false → gcV n F = false) := fun h => by rw [HV.out]; exact gcK_no hlt h
      clear HE HV
      generalize F (k * 3) = P at *
      generalize F (k * 3 + 1) = N at *
      generalize F (k * 3 + 2) = D at *
      have hbt : Below wr.heap.size wr (wr.alloc (.cells #[.int .i64 P, .int .i64 N, .int .i64 D] 69)) := (Below.refl _ _).alloc (Nat.le_refl _) _
      have b3 := bx_new (w := wr) [.int .i64 P, .int .i64 N, .int .i64 D] 69 rfl
      have z0 := b3.c0
      have z1 := b3.c1
      have z2 := b3.c2
      have zl := b3.lt
      have hB3 := stepA hB hbt
      clear b3
      have kG := fun w2 => iGood1 P N D w2
      cases hg : gcB P N D with
      | true =>
        rw [hg] at kG
        have HR : Hid (gcK F (k + 1) = true) := HY.out hg
        clear HY HN
        go_wp2_with fail
        refine (kG _).mono ?_
        rintro e w4 ⟨rfl, hb4⟩
        have hB4 := stepA hB3 hb4
        clear kG hb4 hB3 hbt
        go_wp2
        go_roundw
        case rel => exact ⟨k + 1, by omega, by go_num, HR, hB4⟩
        case measure => simp [intOf]; omega
      | false =>
        rw [hg] at kG
        have HR : Hid (gcV n F = false) := HN.out hg
        clear HY HN
        go_wp2_with fail
        refine (kG _).mono ?_
        rintro e w4 ⟨rfl, hb4⟩
        have hB4 := stepA hB3 hb4
        clear kG hb4 hB3 hbt
        go_wp2
        go_ret
        exact ⟨by rw [HR.out]; try rfl, hB4⟩
    · have e : k = n := by omega
      subst e
      have HR : Hid (gcV k F = true) := by rw [HV.out]; exact HE.out
      clear HV HE
      have i1 : ¬ (k : Int) < (k : Int) := by omega
      go_wp2
      go_ret
      exact ⟨by rw [HR.out]; try rfl, hB⟩
end Go.Proofs.Ytnadedncjbibhaa
