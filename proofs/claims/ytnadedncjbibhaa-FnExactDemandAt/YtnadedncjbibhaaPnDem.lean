/- What is asked for up to a time, both sides (tools/gen_pn.py). -/
import Derived.Test.YtnadedncjbibhaaPnGood
import Derived.BigRegion
namespace Go.Proofs.Ytnadedncjbibhaa
open Go.RowKit
set_option maxRecDepth 20000 in
set_option maxHeartbeats 4000000 in
theorem sDem (a : Option Addr) (n c : Nat) (F : Nat → Int) (t : Int) (w : World) (g : Gc n F) (ht0 : 0 ≤ t) (ht : t ≤ 2000000) (h : IL w a (n * 3) F) :
    Calls Try.prog 44 #[.slice a n c, .int .i64 t] w fun e w' => e = .returned (.int .i64 (dmK F t n)) ∧ Below w.heap.size w w' := by
  have HG : Hid (Gc n F) := g
  have hn6 := g.six
  clear g
  go_enter Try.func44, Try.ntmps44
  go_wp2
  go_loopw [5, 10] (fun v i wr => ∃ k : Nat, k ≤ n ∧ i = .int .i64 (k : Int) ∧ v = .int .i64 (dmK F t k) ∧ Below w.heap.size w wr) (fun _ i _ => n - (intOf i).toNat)
  case atStart => exact ⟨0, Nat.zero_le _, rfl, rfl, Below.refl _ _⟩
  case round =>
    obtain ⟨k, hk, rfl, rfl, hB⟩ := hrel
    by_cases hlt : k < n
    · obtain ⟨gb, go_, rfl, gl_, x0, x1, x2⟩ := il_three (h.below hB) hlt
      have i0 : (0 : Int) ≤ (k : Int) := by omega
      have i1 : (k : Int) < (n : Int) := by omega
      have p1 := HG.out.p1 k hlt
      have p2 := HG.out.p2 k hlt
      have n1 := HG.out.n1 k hlt
      have n2 := HG.out.n2 k hlt
      have d1 := HG.out.d1 k hlt
      have d2 := HG.out.d2 k hlt
      have bd := dmK_bd HG.out ht k hk
      have HS : Hid (dmK F t (k + 1) = dmK F t k + dm1 t (F (k * 3)) (F (k * 3 + 1)) (F (k * 3 + 2))) := rfl
      have HM := dm1_bd (t := t) (p := F (k * 3)) (n := F (k * 3 + 1)) (d := F (k * 3 + 2)) ht p1 n1 (by omega) (by omega)
      clear HG
      generalize hr : dmK F t (k + 1) = R at *
      have HR : Hid (dmK F t (k + 1) = R) := hr
      clear hr
      generalize hv : dmK F t k = V at *
      clear hv
      generalize F (k * 3) = P at *
      generalize F (k * 3 + 1) = N at *
      generalize F (k * 3 + 2) = D at *
      have hbt : Below wr.heap.size wr (wr.alloc (.cells #[.int .i64 P, .int .i64 N, .int .i64 D] 69)) := (Below.refl _ _).alloc (Nat.le_refl _) _
      have b3 := bx_new (w := wr) [.int .i64 P, .int .i64 N, .int .i64 D] 69 rfl
      have z0 := b3.c0
      have z1 := b3.c1
      have z2 := b3.c2
      have zl := b3.lt
      have hB3 := stepA hB hbt
      clear b3
      have kk : (k : Int) ≤ 6 := by omega
      by_cases hd : D ≤ t
      · have HD : Hid (R = V + N * ((t - D) / P + 1)) := by have q := HS.out; unfold dm1 at q; rw [if_pos hd] at q; exact q
        unfold dm1 at HM
        rw [if_pos hd] at HM
        have q := quo_bd (t := t - D) (p := P) (by omega) p1
        clear HS
        have hq0 : (0 : Int) ≤ t - D := by omega
        have hq1 : ¬ P = 0 := by omega
        have hq2 : IntKind.i64.wrap (t - D) = t - D := IntWalk.i64_in _ ⟨by omega, by omega⟩
        go_wp2_with fail
        go_region
        go_wp2
        go_roundw
        case rel => exact ⟨k + 1, by omega, by go_num, by rw [HR.out, HD.out], hB3.drew⟩
        case measure => simp [intOf]; omega
      · have HD : Hid (R = V) := by have q := HS.out; unfold dm1 at q; rw [if_neg hd, Int.add_zero] at q; exact q
        clear HS HM
        go_wp2
        go_roundw
        case rel => exact ⟨k + 1, by omega, by go_num, by rw [HR.out, HD.out], hB3⟩
        case measure => simp [intOf]; omega
    · have e : k = n := by omega
      subst e
      have i1 : ¬ (k : Int) < (k : Int) := by omega
      go_wp2
      go_ret
      exact ⟨rfl, hB⟩
set_option maxRecDepth 20000 in
set_option maxHeartbeats 4000000 in
theorem iDem (a : Option Addr) (n c : Nat) (F : Nat → Int) (t : Int) (w : World) (g : Gc n F) (ht0 : 0 ≤ t) (ht : t ≤ 2000000) (h : IL w a (n * 3) F) :
    Calls Try.prog 45 #[.slice a n c, .int .i64 t] w fun e w' => e = .returned (.int .i64 (dmK F t n)) ∧ Below w.heap.size w w' := by
  have HG : Hid (Gc n F) := g
  have hn6 := g.six
  clear g
  go_enter Try.func45, Try.ntmps45
  go_wp2
  go_loopw [5, 10] (fun v i wr => ∃ k : Nat, k ≤ n ∧ i = .int .i64 (k : Int) ∧ v = .int .i64 (dmK F t k) ∧ Below w.heap.size w wr) (fun _ i _ => n - (intOf i).toNat)
  case atStart => exact ⟨0, Nat.zero_le _, rfl, rfl, Below.refl _ _⟩
  case round =>
    obtain ⟨k, hk, rfl, rfl, hB⟩ := hrel
    by_cases hlt : k < n
    · obtain ⟨gb, go_, rfl, gl_, x0, x1, x2⟩ := il_three (h.below hB) hlt
      have i0 : (0 : Int) ≤ (k : Int) := by omega
      have i1 : (k : Int) < (n : Int) := by omega
      have p1 := HG.out.p1 k hlt
      have p2 := HG.out.p2 k hlt
      have n1 := HG.out.n1 k hlt
      have n2 := HG.out.n2 k hlt
      have d1 := HG.out.d1 k hlt
      have d2 := HG.out.d2 k hlt
      have bd := dmK_bd HG.out ht k hk
      have HS : Hid (dmK F t (k + 1) = dmK F t k + dm1 t (F (k * 3)) (F (k * 3 + 1)) (F (k * 3 + 2))) := rfl
      have HM := dm1_bd (t := t) (p := F (k * 3)) (n := F (k * 3 + 1)) (d := F (k * 3 + 2)) ht p1 n1 (by omega) (by omega)
      clear HG
      generalize hr : dmK F t (k + 1) = R at *
      have HR : Hid (dmK F t (k + 1) = R) := hr
      clear hr
      generalize hv : dmK F t k = V at *
      clear hv
      generalize F (k * 3) = P at *
      generalize F (k * 3 + 1) = N at *
      generalize F (k * 3 + 2) = D at *
      have hbt : Below wr.heap.size wr (wr.alloc (.cells #[.int .i64 P, .int .i64 N, .int .i64 D] 69)) := (Below.refl _ _).alloc (Nat.le_refl _) _
      have b3 := bx_new (w := wr) [.int .i64 P, .int .i64 N, .int .i64 D] 69 rfl
      have z0 := b3.c0
      have z1 := b3.c1
      have z2 := b3.c2
      have zl := b3.lt
      have hB3 := stepA hB hbt
      clear b3
      have kk : (k : Int) ≤ 6 := by omega
      by_cases hd : D ≤ t
      · have HD : Hid (R = V + N * ((t - D) / P + 1)) := by have q := HS.out; unfold dm1 at q; rw [if_pos hd] at q; exact q
        unfold dm1 at HM
        rw [if_pos hd] at HM
        have q := quo_bd (t := t - D) (p := P) (by omega) p1
        clear HS
        have hq0 : (0 : Int) ≤ t - D := by omega
        have hq1 : ¬ P = 0 := by omega
        have hq2 : IntKind.i64.wrap (t - D) = t - D := IntWalk.i64_in _ ⟨by omega, by omega⟩
        go_wp2_with fail
        go_region
        go_wp2
        go_roundw
        case rel => exact ⟨k + 1, by omega, by go_num, by rw [HR.out, HD.out], hB3.drew⟩
        case measure => simp [intOf]; omega
      · have HD : Hid (R = V) := by have q := HS.out; unfold dm1 at q; rw [if_neg hd, Int.add_zero] at q; exact q
        clear HS HM
        go_wp2
        go_roundw
        case rel => exact ⟨k + 1, by omega, by go_num, by rw [HR.out, HD.out], hB3⟩
        case measure => simp [intOf]; omega
    · have e : k = n := by omega
      subst e
      have i1 : ¬ (k : Int) < (k : Int) := by omega
      go_wp2
      go_ret
      exact ⟨rfl, hB⟩
/-- what DemandAt tells -/
def dmV (n : Nat) (F : Nat → Int) (t : Int) : Bool := gcV n F && decide (0 ≤ t ∧ t ≤ 1000000)
def dmR (n : Nat) (F : Nat → Int) (t : Int) : Int := if dmV n F t then dmK F t n else 0
theorem dmR_no {n : Nat} {F : Nat → Int} {t : Int} (h : dmV n F t = false) : dmR n F t = 0 := by unfold dmR; rw [h]; rfl
theorem dmR_yes {n : Nat} {F : Nat → Int} {t : Int} (h : dmV n F t = true) : dmR n F t = dmK F t n := by unfold dmR; rw [h]; rfl
set_option maxHeartbeats 2000000 in
theorem sDemandAt (a : Option Addr) (n c : Nat) (F : Nat → Int) (t : Int) (w : World) (h : IL w a (n * 3) F) :
    Calls Try.prog 24 #[.slice a n c, .int .i64 t] w fun e w' => e = .returned (.tuple #[.int .i64 (dmR n F t), .bool (dmV n F t)]) ∧ Below w.heap.size w w' := by
  cases hv : gcV n F with
  | false =>
    have HV : Hid (gcV n F = false) := hv
    have HD : Hid (dmV n F t = false) := by unfold dmV; rw [hv]; rfl
    clear hv
    go_enter Try.func24, Try.ntmps24
    go_wp2_with fail
    refine (sGoodC a n c F w h).mono ?_
    rintro e w1 ⟨rfl, hb1⟩
    rw [HV.out]
    go_wp2
    go_ret2
    exact ⟨by rw [dmR_no HD.out, HD.out]; rfl, hb1⟩
  | true =>
    have HV : Hid (gcV n F = true) := hv
    have HG : Hid (Gc n F) := gcV_gc hv
    by_cases h0 : t < 0
    · have HD : Hid (dmV n F t = false) := by unfold dmV; rw [hv, decide_eq_false (by omega)]; rfl
      clear hv
      go_enter Try.func24, Try.ntmps24
      go_wp2_with fail
      refine (sGoodC a n c F w h).mono ?_
      rintro e w1 ⟨rfl, hb1⟩
      rw [HV.out]
      go_wp2
      go_ret2
      exact ⟨by rw [dmR_no HD.out, HD.out]; rfl, hb1⟩
    by_cases h1 : 1000000 < t
    · have HD : Hid (dmV n F t = false) := by unfold dmV; rw [hv, decide_eq_false (by omega)]; rfl
      clear hv
      go_enter Try.func24, Try.ntmps24
      go_wp2_with fail
      refine (sGoodC a n c F w h).mono ?_
      rintro e w1 ⟨rfl, hb1⟩
      rw [HV.out]
      go_wp2
      go_ret2
      exact ⟨by rw [dmR_no HD.out, HD.out]; rfl, hb1⟩
    have HD : Hid (dmV n F t = true) := by unfold dmV; rw [hv, decide_eq_true (by omega)]; rfl
    clear hv
    go_enter Try.func24, Try.ntmps24
    go_wp2_with fail
    refine (sGoodC a n c F w h).mono ?_
    rintro e w1 ⟨rfl, hb1⟩
    rw [HV.out]
    go_wp2_with fail
    refine (sDem a n c F t w1 HG.out (by omega) (by omega) (h.below hb1)).mono ?_
    rintro e w2 ⟨rfl, hb2⟩
    go_wp2
    go_ret2
    exact ⟨by rw [dmR_yes HD.out, HD.out]; rfl, stepA hb1 hb2⟩
set_option maxHeartbeats 2000000 in
theorem iDemandAt (a : Option Addr) (n c : Nat) (F : Nat → Int) (t : Int) (w : World) (h : IL w a (n * 3) F) :
    Calls Try.prog 25 #[.slice a n c, .int .i64 t] w fun e w' => e = .returned (.tuple #[.int .i64 (dmR n F t), .bool (dmV n F t)]) ∧ Below w.heap.size w w' := by
  cases hv : gcV n F with
  | false =>
    have HV : Hid (gcV n F = false) := hv
    have HD : Hid (dmV n F t = false) := by unfold dmV; rw [hv]; rfl
    clear hv
    go_enter Try.func25, Try.ntmps25
    go_wp2_with fail
    refine (iGoodC a n c F w h).mono ?_
    rintro e w1 ⟨rfl, hb1⟩
    rw [HV.out]
    go_wp2
    go_ret2
    exact ⟨by rw [dmR_no HD.out, HD.out]; rfl, hb1⟩
  | true =>
    have HV : Hid (gcV n F = true) := hv
    have HG : Hid (Gc n F) := gcV_gc hv
    by_cases h0 : t < 0
    · have HD : Hid (dmV n F t = false) := by unfold dmV; rw [hv, decide_eq_false (by omega)]; rfl
      clear hv
      go_enter Try.func25, Try.ntmps25
      go_wp2_with fail
      refine (iGoodC a n c F w h).mono ?_
      rintro e w1 ⟨rfl, hb1⟩
      rw [HV.out]
      go_wp2
      go_ret2
      exact ⟨by rw [dmR_no HD.out, HD.out]; rfl, hb1⟩
    by_cases h1 : 1000000 < t
    · have HD : Hid (dmV n F t = false) := by unfold dmV; rw [hv, decide_eq_false (by omega)]; rfl
      clear hv
      go_enter Try.func25, Try.ntmps25
      go_wp2_with fail
      refine (iGoodC a n c F w h).mono ?_
      rintro e w1 ⟨rfl, hb1⟩
      rw [HV.out]
      go_wp2
      go_ret2
      exact ⟨by rw [dmR_no HD.out, HD.out]; rfl, hb1⟩
    have HD : Hid (dmV n F t = true) := by unfold dmV; rw [hv, decide_eq_true (by omega)]; rfl
    clear hv
    go_enter Try.func25, Try.ntmps25
    go_wp2_with fail
    refine (iGoodC a n c F w h).mono ?_
    rintro e w1 ⟨rfl, hb1⟩
    rw [HV.out]
    go_wp2_with fail
    refine (iDem a n c F t w1 HG.out (by omega) (by omega) (h.below hb1)).mono ?_
    rintro e w2 ⟨rfl, hb2⟩
    go_wp2
    go_ret2
    exact ⟨by rw [dmR_yes HD.out, HD.out]; rfl, stepA hb1 hb2⟩
end Go.Proofs.Ytnadedncjbibhaa
