/- The contracts of both DivPoints functions. -/
import Derived.Test.YtgcnkecfdmafdaaPtDivC
namespace Go.Proofs.Ytgcnkecfdmafdaa
open Go.RowKit

set_option maxHeartbeats 1000000 in
theorem implDiv_bad1 (a b c d : Nat) (w : World) (ha : a < 18446744073709551616) (hb : b < 18446744073709551616) (g1 : (goodB a && goodB b) = false) :
    Calls Try.prog 14 #[pt a b, pt c d] w fun e w' => e = .returned (.tuple #[pt 0 0, .bool false]) ∧ Below w.heap.size w w' := by
  go_enter Try.func14, Try.ntmps14
  go_wp2_with fail
  refine (implGoodPt_any a b _ ha hb).mono ?_
  rintro e w1 ⟨rfl, hb1⟩
  obtain ⟨p0, p1, q0, q1, r0, r1, f0, f1, hs, hB⟩ := (boxes3 hb1).c
  clear hb1
  go_wp2
  (try simp only [Exit.inBlock, Exit.then])
  refine ret_pt rfl rfl (set_two r0 r1) rfl ?_
  exact ⟨rfl, below_set3 hB _ _⟩

set_option maxHeartbeats 1000000 in
theorem implDiv_bad2 (a b c d : Nat) (w : World) (ha : a < 18446744073709551616) (hb : b < 18446744073709551616) (hc : c < 18446744073709551616) (hd : d < 18446744073709551616) (g1 : (goodB a && goodB b) = true) (g2 : (goodB c && goodB d) = false) :
    Calls Try.prog 14 #[pt a b, pt c d] w fun e w' => e = .returned (.tuple #[pt 0 0, .bool false]) ∧ Below w.heap.size w w' := by
  go_enter Try.func14, Try.ntmps14
  go_wp2_with fail
  refine (implGoodPt_any a b _ ha hb).mono ?_
  rintro e w1 ⟨rfl, hb1⟩
  obtain ⟨p0, p1, q0, q1, r0, r1, f0, f1, hs, hB⟩ := (boxes3 hb1).c
  clear hb1
  go_wp2_with fail
  refine (implGoodPt_any c d _ hc hd).mono ?_
  rintro e w2 ⟨rfl, hb2⟩
  have T2 := keep3 p0 p1 q0 q1 r0 r1 f0 f1 hs hB hb2
  clear hb2 p0 p1 q0 q1 r0 r1 f0 f1 hs hB
  obtain ⟨p0, p1, q0, q1, r0, r1, f0, f1, hs, hB⟩ := T2
  go_wp2
  (try simp only [Exit.inBlock, Exit.then])
  refine ret_pt rfl rfl (set_two r0 r1) rfl ?_
  exact ⟨rfl, below_set3 hB _ _⟩

set_option maxHeartbeats 1000000 in
theorem specDiv_bad1 (a b c d : Nat) (w : World) (ha : a < 18446744073709551616) (hb : b < 18446744073709551616) (g1 : (goodB a && goodB b) = false) :
    Calls Try.prog 13 #[pt a b, pt c d] w fun e w' => e = .returned (.tuple #[pt 0 0, .bool false]) ∧ Below w.heap.size w w' := by
  go_enter Try.func13, Try.ntmps13
  go_wp2_with fail
  refine (specGoodPt_any a b _ ha hb).mono ?_
  rintro e w1 ⟨rfl, hb1⟩
  obtain ⟨p0, p1, q0, q1, r0, r1, f0, f1, hs, hB⟩ := (boxes3 hb1).c
  clear hb1
  go_wp2
  (try simp only [Exit.inBlock, Exit.then])
  refine ret_pt rfl rfl (set_two r0 r1) rfl ?_
  exact ⟨rfl, below_set3 hB _ _⟩

set_option maxHeartbeats 1000000 in
theorem specDiv_bad2 (a b c d : Nat) (w : World) (ha : a < 18446744073709551616) (hb : b < 18446744073709551616) (hc : c < 18446744073709551616) (hd : d < 18446744073709551616) (g1 : (goodB a && goodB b) = true) (g2 : (goodB c && goodB d) = false) :
    Calls Try.prog 13 #[pt a b, pt c d] w fun e w' => e = .returned (.tuple #[pt 0 0, .bool false]) ∧ Below w.heap.size w w' := by
  go_enter Try.func13, Try.ntmps13
  go_wp2_with fail
  refine (specGoodPt_any a b _ ha hb).mono ?_
  rintro e w1 ⟨rfl, hb1⟩
  obtain ⟨p0, p1, q0, q1, r0, r1, f0, f1, hs, hB⟩ := (boxes3 hb1).c
  clear hb1
  go_wp2_with fail
  refine (specGoodPt_any c d _ hc hd).mono ?_
  rintro e w2 ⟨rfl, hb2⟩
  have T2 := keep3 p0 p1 q0 q1 r0 r1 f0 f1 hs hB hb2
  clear hb2 p0 p1 q0 q1 r0 r1 f0 f1 hs hB
  obtain ⟨p0, p1, q0, q1, r0, r1, f0, f1, hs, hB⟩ := T2
  go_wp2
  (try simp only [Exit.inBlock, Exit.then])
  refine ret_pt rfl rfl (set_two r0 r1) rfl ?_
  exact ⟨rfl, below_set3 hB _ _⟩

set_option maxHeartbeats 2000000 in
theorem implDiv_no (a b c d : Nat) (w : World) (ha : a < 18446744073709551616) (hb : b < 18446744073709551616) (hc : c < 18446744073709551616) (hd : d < 18446744073709551616) (g1 : (goodB a && goodB b) = true) (g2 : (goodB c && goodB d) = true) (hno : noDo (dD (some c) (some d)) = true) :
    Calls Try.prog 14 #[pt a b, pt c d] w fun e w' => e = .returned (.tuple #[pt 0 0, .bool false]) ∧ Below w.heap.size w w' := by
  go_enter Try.func14, Try.ntmps14
  go_wp2_with fail
  refine (implGoodPt_any a b _ ha hb).mono ?_
  rintro e w1 ⟨rfl, hb1⟩
  obtain ⟨p0, p1, q0, q1, r0, r1, f0, f1, hs, hB⟩ := (boxes3 hb1).c
  clear hb1
  go_wp2_with fail
  refine (implGoodPt_any c d _ hc hd).mono ?_
  rintro e w2 ⟨rfl, hb2⟩
  have T2 := keep3 p0 p1 q0 q1 r0 r1 f0 f1 hs hB hb2
  clear hb2 p0 p1 q0 q1 r0 r1 f0 f1 hs hB
  obtain ⟨p0, p1, q0, q1, r0, r1, f0, f1, hs, hB⟩ := T2
  go_wp2_with fail
  have hw2 := Below.refl w2.heap.size w2
  go_region_held3 (fun w' => w'.cell? ⟨w.heap.size, 0, none⟩ = some (.float .f64 a) ∧ w'.cell? ⟨w.heap.size, 1, none⟩ = some (.float .f64 b) ∧ w'.cell? ⟨w.heap.size + 1, 0, none⟩ = some (.float .f64 c) ∧ w'.cell? ⟨w.heap.size + 1, 1, none⟩ = some (.float .f64 d) ∧ w.heap.size + 1 + 1 < w'.heap.size ∧ Below w.heap.size w w')
    (first | (exact keep2 p0 p1 q0 q1 hs hB (upto hs hw2.drew)) | (exact keep2 p0 p1 q0 q1 hs hB (upto hs hw3)) | (exact keep2 p0 p1 q0 q1 hs hB (upto hs hw4)) | (exact keep2 p0 p1 q0 q1 hs hB (upto hs hw5)) | (fail))
    (first | (go_at_call_of 37 a; refine (complexOf_any a b _).mono ?_; rintro e w3 ⟨rfl, hbn⟩; have hw3 := hw2.drew.trans hbn; clear hbn)
           | (go_at_call 37; refine (complexOf_any c d _).mono ?_; rintro e w4 ⟨rfl, hbn⟩; have hw4 := hw3.trans (hbn.mono hw3.size); clear hbn)
           | (go_at_call 41; refine (divComplex_no a b c d _ (rep_of hc) (rep_of hd) hno).mono ?_; rintro e w5 ⟨rfl, n, hn⟩; have hbn := below_of hn; clear hn; have hw5 := hw4.trans (hbn.mono hw4.size); clear hbn))
  have T5 := keep3 p0 p1 q0 q1 r0 r1 f0 f1 hs hB hw5
  clear hw2 hw3 hw4 hw5 p0 p1 q0 q1 r0 r1 f0 f1 hs hB
  obtain ⟨p0, p1, q0, q1, r0, r1, f0, f1, hs, hB⟩ := T5
  go_wp2
  (try simp only [Exit.inBlock, Exit.then])
  refine ret_pt rfl rfl (set_two r0 r1) rfl ?_
  exact ⟨rfl, below_set3 hB _ _⟩

set_option maxHeartbeats 2000000 in
theorem implDiv_yes (a b c d : Nat) (w : World) (ha : a < 18446744073709551616) (hb : b < 18446744073709551616) (hc : c < 18446744073709551616) (hd : d < 18446744073709551616) (g1 : (goodB a && goodB b) = true) (g2 : (goodB c && goodB d) = true) (hno : noDo (dD (some c) (some d)) = false) :
    Calls Try.prog 14 #[pt a b, pt c d] w fun e w' => e = .returned (.tuple #[pt (tellR (dR (some a) (some b) (some c) (some d)) (dI (some a) (some b) (some c) (some d))) (tellI (dR (some a) (some b) (some c) (some d)) (dI (some a) (some b) (some c) (some d))), .bool (tellOk (dR (some a) (some b) (some c) (some d)) (dI (some a) (some b) (some c) (some d)))]) ∧ Below w.heap.size w w' := by
  go_enter Try.func14, Try.ntmps14
  go_wp2_with fail
  refine (implGoodPt_any a b _ ha hb).mono ?_
  rintro e w1 ⟨rfl, hb1⟩
  obtain ⟨p0, p1, q0, q1, r0, r1, f0, f1, hs, hB⟩ := (boxes3 hb1).c
  clear hb1
  go_wp2_with fail
  refine (implGoodPt_any c d _ hc hd).mono ?_
  rintro e w2 ⟨rfl, hb2⟩
  have T2 := keep3 p0 p1 q0 q1 r0 r1 f0 f1 hs hB hb2
  clear hb2 p0 p1 q0 q1 r0 r1 f0 f1 hs hB
  obtain ⟨p0, p1, q0, q1, r0, r1, f0, f1, hs, hB⟩ := T2
  go_wp2_with fail
  have hw2 := Below.refl w2.heap.size w2
  go_region_held3 (fun w' => w'.cell? ⟨w.heap.size, 0, none⟩ = some (.float .f64 a) ∧ w'.cell? ⟨w.heap.size, 1, none⟩ = some (.float .f64 b) ∧ w'.cell? ⟨w.heap.size + 1, 0, none⟩ = some (.float .f64 c) ∧ w'.cell? ⟨w.heap.size + 1, 1, none⟩ = some (.float .f64 d) ∧ w.heap.size + 1 + 1 < w'.heap.size ∧ Below w.heap.size w w')
    (first | (exact keep2 p0 p1 q0 q1 hs hB (upto hs hw2.drew)) | (exact keep2 p0 p1 q0 q1 hs hB (upto hs hw3)) | (exact keep2 p0 p1 q0 q1 hs hB (upto hs hw4)) | (exact keep2 p0 p1 q0 q1 hs hB (upto hs hw5)) | (fail))
    (first | (go_at_call_of 37 a; refine (complexOf_any a b _).mono ?_; rintro e w3 ⟨rfl, hbn⟩; have hw3 := hw2.drew.trans hbn; clear hbn)
           | (go_at_call 37; refine (complexOf_any c d _).mono ?_; rintro e w4 ⟨rfl, hbn⟩; have hw4 := hw3.trans (hbn.mono hw3.size); clear hbn)
           | (go_at_call 41; refine (divComplex_yes a b c d _ (rep_of ha) (rep_of hb) (rep_of hc) (rep_of hd) hno).mono ?_; rintro e w5 ⟨vr, vi, rfl, hrr, hri, n, hn⟩; have hbn := below_of hn; clear hn; have hw5 := hw4.trans (hbn.mono hw4.size); clear hbn))
  have T5 := keep3 p0 p1 q0 q1 r0 r1 f0 f1 hs hB hw5
  clear hw2 hw3 hw4 hw5 p0 p1 q0 q1 r0 r1 f0 f1 hs hB
  obtain ⟨p0, p1, q0, q1, r0, r1, f0, f1, hs, hB⟩ := T5
  go_wp2_with fail
  refine (tellPoint_any vr vi _ hrr.1 hri.1).mono ?_
  rintro e w6 ⟨rfl, hb6⟩
  have T6 := keep3 p0 p1 q0 q1 r0 r1 f0 f1 hs hB hb6
  clear hb6 p0 p1 q0 q1 r0 r1 f0 f1 hs hB
  obtain ⟨p0, p1, q0, q1, r0, r1, f0, f1, hs, hB⟩ := T6
  rw [tell_rep hrr hri]
  clear hrr hri
  go_wp2
  (try simp only [Exit.inBlock, Exit.then])
  refine ret_pt rfl rfl (set_two r0 r1) rfl ?_
  exact ⟨rfl, below_set3 hB _ _⟩

set_option maxHeartbeats 2000000 in
theorem specDiv_no (a b c d : Nat) (w : World) (ha : a < 18446744073709551616) (hb : b < 18446744073709551616) (hc : c < 18446744073709551616) (hd : d < 18446744073709551616) (g1 : (goodB a && goodB b) = true) (g2 : (goodB c && goodB d) = true) (hno : noDo (dD (some c) (some d)) = true) :
    Calls Try.prog 13 #[pt a b, pt c d] w fun e w' => e = .returned (.tuple #[pt 0 0, .bool false]) ∧ Below w.heap.size w w' := by
  have hmul := fun v y w => run_fl (P := Try.prog) .mul (by simp) 22 v y w
  have hadd := fun v y w => run_fl (P := Try.prog) .add (by simp) 22 v y w
  have hsub := fun v y w => run_fl (P := Try.prog) .sub (by simp) 22 v y w
  have hquo := fun v y w => run_fl (P := Try.prog) .quo (by simp) 22 v y w
  go_enter Try.func13, Try.ntmps13
  go_wp2_with fail
  refine (specGoodPt_any a b _ ha hb).mono ?_
  rintro e w1 ⟨rfl, hb1⟩
  obtain ⟨p0, p1, q0, q1, r0, r1, f0, f1, hs, hB⟩ := (boxes3 hb1).c
  clear hb1
  go_wp2_with fail
  refine (specGoodPt_any c d _ hc hd).mono ?_
  rintro e w2 ⟨rfl, hb2⟩
  have T2 := keep3 p0 p1 q0 q1 r0 r1 f0 f1 hs hB hb2
  clear hb2 p0 p1 q0 q1 r0 r1 f0 f1 hs hB
  obtain ⟨p0, p1, q0, q1, r0, r1, f0, f1, hs, hB⟩ := T2
  go_upto_region 3 with fail
  go_cut [6] from 16 to 26 (fun s6 wx => ∃ v n, s6 = .float .f64 v ∧ Rep (dD (some c) (some d)) v ∧ wx = w2.drewN n)
  case first =>
    go_wp2_with fail
    go_meet
    case rel => exact ⟨_, _, rfl, rep_ob (rep_ob (rep_of hc) (rep_of hc) _) (rep_ob (rep_of hd) (rep_of hd) _) _, rfl⟩
  case rest =>
    obtain ⟨v, n, rfl, hrv, hwc⟩ := hcut
    rw [← noD_rep hrv] at hno
    have hv := hrv.1
    have T3 := keep3 p0 p1 q0 q1 r0 r1 f0 f1 hs hB (below_of hwc)
    clear hwc p0 p1 q0 q1 r0 r1 f0 f1 hs hB hmul hadd hsub hquo hrv
    obtain ⟨p0, p1, q0, q1, r0, r1, f0, f1, hs, hB⟩ := T3
    rcases noD_true hno with h1 | ⟨h1, h2⟩ | ⟨h1, h2, h3⟩
    all_goals
      clear hno
      go_wp2_with (go_at_call 39; refine (l2Finite_any v _ hv).mono ?_; rintro e w' ⟨rfl, hw'⟩; have hs' := hw'.symm; clear hw'; subst hs')
      (try simp only [Exit.inBlock, Exit.then])
      refine ret_pt rfl rfl (set_two r0 r1) rfl ?_
      exact ⟨rfl, below_set3 hB _ _⟩

set_option maxHeartbeats 2000000 in
theorem specDiv_yes (a b c d : Nat) (w : World) (ha : a < 18446744073709551616) (hb : b < 18446744073709551616) (hc : c < 18446744073709551616) (hd : d < 18446744073709551616) (g1 : (goodB a && goodB b) = true) (g2 : (goodB c && goodB d) = true) (hno : noDo (dD (some c) (some d)) = false) :
    Calls Try.prog 13 #[pt a b, pt c d] w fun e w' => e = .returned (.tuple #[pt (tellR (dR (some a) (some b) (some c) (some d)) (dI (some a) (some b) (some c) (some d))) (tellI (dR (some a) (some b) (some c) (some d)) (dI (some a) (some b) (some c) (some d))), .bool (tellOk (dR (some a) (some b) (some c) (some d)) (dI (some a) (some b) (some c) (some d)))]) ∧ Below w.heap.size w w' := by
  have hmul := fun v y w => run_fl (P := Try.prog) .mul (by simp) 22 v y w
  have hadd := fun v y w => run_fl (P := Try.prog) .add (by simp) 22 v y w
  have hsub := fun v y w => run_fl (P := Try.prog) .sub (by simp) 22 v y w
  have hquo := fun v y w => run_fl (P := Try.prog) .quo (by simp) 22 v y w
  go_enter Try.func13, Try.ntmps13
  go_wp2_with fail
  refine (specGoodPt_any a b _ ha hb).mono ?_
  rintro e w1 ⟨rfl, hb1⟩
  obtain ⟨p0, p1, q0, q1, r0, r1, f0, f1, hs, hB⟩ := (boxes3 hb1).c
  clear hb1
  go_wp2_with fail
  refine (specGoodPt_any c d _ hc hd).mono ?_
  rintro e w2 ⟨rfl, hb2⟩
  have T2 := keep3 p0 p1 q0 q1 r0 r1 f0 f1 hs hB hb2
  clear hb2 p0 p1 q0 q1 r0 r1 f0 f1 hs hB
  obtain ⟨p0, p1, q0, q1, r0, r1, f0, f1, hs, hB⟩ := T2
  go_upto_region 3 with fail
  go_cut [6] from 16 to 26 (fun s6 wx => ∃ v n, s6 = .float .f64 v ∧ Rep (dD (some c) (some d)) v ∧ wx = w2.drewN n)
  case first =>
    go_wp2_with fail
    go_meet
    case rel => exact ⟨_, _, rfl, rep_ob (rep_ob (rep_of hc) (rep_of hc) _) (rep_ob (rep_of hd) (rep_of hd) _) _, rfl⟩
  case rest =>
    obtain ⟨v, n, rfl, hrv, hwc⟩ := hcut
    rw [← noD_rep hrv] at hno
    have hv := hrv.1
    have T3 := keep3 p0 p1 q0 q1 r0 r1 f0 f1 hs hB (below_of hwc)
    clear hwc p0 p1 q0 q1 r0 r1 f0 f1 hs hB hmul hadd hsub hquo hrv
    obtain ⟨p0, p1, q0, q1, r0, r1, f0, f1, hs, hB⟩ := T3
    obtain ⟨h1, h2, h3⟩ := noD_false hno
    clear hno
    go_wp2_with (go_at_call 39; refine (l2Finite_any v _ hv).mono ?_; rintro e w' ⟨rfl, hw'⟩; have hs' := hw'.symm; clear hw'; subst hs')
    refine (l3Div_any a b c d _ (rep_of ha) (rep_of hb) (rep_of hc) (rep_of hd)).mono ?_
    rintro e w3 ⟨vr, vi, rfl, hrr, hri, hb3⟩
    have T4 := keep3 p0 p1 q0 q1 r0 r1 f0 f1 hs hB hb3
    clear hb3 p0 p1 q0 q1 r0 r1 f0 f1 hs hB
    obtain ⟨p0, p1, q0, q1, r0, r1, f0, f1, hs, hB⟩ := T4
    go_wp2_with fail
    refine (l3Told_any vr vi _ hrr.1 hri.1).mono ?_
    rintro e w4 ⟨rfl, hb4⟩
    have T5 := keep3 p0 p1 q0 q1 r0 r1 f0 f1 hs hB hb4
    clear hb4 p0 p1 q0 q1 r0 r1 f0 f1 hs hB
    obtain ⟨p0, p1, q0, q1, r0, r1, f0, f1, hs, hB⟩ := T5
    rw [tell_rep hrr hri]
    clear hrr hri
    go_wp2
    (try simp only [Exit.inBlock, Exit.then])
    refine ret_pt rfl rfl (set_two r0 r1) rfl ?_
    exact ⟨rfl, below_set3 hB _ _⟩

/-- the answer of DivPoints -/
def divG (a b c d : Nat) : Bool := ((goodB a && goodB b) && (goodB c && goodB d)) && !noDo (dD (some c) (some d))
def divX (a b c d : Nat) : Nat := if divG a b c d then tellR (dR (some a) (some b) (some c) (some d)) (dI (some a) (some b) (some c) (some d)) else 0
def divY (a b c d : Nat) : Nat := if divG a b c d then tellI (dR (some a) (some b) (some c) (some d)) (dI (some a) (some b) (some c) (some d)) else 0
def divT (a b c d : Nat) : Bool := if divG a b c d then tellOk (dR (some a) (some b) (some c) (some d)) (dI (some a) (some b) (some c) (some d)) else false
theorem divX_lt (a b c d : Nat) : divX a b c d < 18446744073709551616 := by
  unfold divX tellR
  repeat' split
  · exact told_lt' _ fun r h => ob_lt h
  all_goals decide
theorem divY_lt (a b c d : Nat) : divY a b c d < 18446744073709551616 := by
  unfold divY tellI
  repeat' split
  · exact told_lt' _ fun r h => ob_lt h
  all_goals decide

theorem implDiv_any (a b c d : Nat) (w : World) (ha : a < 18446744073709551616) (hb : b < 18446744073709551616) (hc : c < 18446744073709551616) (hd : d < 18446744073709551616) :
    Calls Try.prog 14 #[pt a b, pt c d] w fun e w' => e = .returned (.tuple #[pt (divX a b c d) (divY a b c d), .bool (divT a b c d)]) ∧ Below w.heap.size w w' := by
  unfold divX divY divT divG
  cases g1 : (goodB a && goodB b) with
  | false => simpa using implDiv_bad1 a b c d w ha hb g1
  | true =>
    cases g2 : (goodB c && goodB d) with
    | false => simpa using implDiv_bad2 a b c d w ha hb hc hd g1 g2
    | true =>
      cases hno : noDo (dD (some c) (some d)) with
      | true => simpa using implDiv_no a b c d w ha hb hc hd g1 g2 hno
      | false => simpa using implDiv_yes a b c d w ha hb hc hd g1 g2 hno

theorem specDiv_any (a b c d : Nat) (w : World) (ha : a < 18446744073709551616) (hb : b < 18446744073709551616) (hc : c < 18446744073709551616) (hd : d < 18446744073709551616) :
    Calls Try.prog 13 #[pt a b, pt c d] w fun e w' => e = .returned (.tuple #[pt (divX a b c d) (divY a b c d), .bool (divT a b c d)]) ∧ Below w.heap.size w w' := by
  unfold divX divY divT divG
  cases g1 : (goodB a && goodB b) with
  | false => simpa using specDiv_bad1 a b c d w ha hb g1
  | true =>
    cases g2 : (goodB c && goodB d) with
    | false => simpa using specDiv_bad2 a b c d w ha hb hc hd g1 g2
    | true =>
      cases hno : noDo (dD (some c) (some d)) with
      | true => simpa using specDiv_no a b c d w ha hb hc hd g1 g2 hno
      | false => simpa using specDiv_yes a b c d w ha hb hc hd g1 g2 hno
end Go.Proofs.Ytgcnkecfdmafdaa
