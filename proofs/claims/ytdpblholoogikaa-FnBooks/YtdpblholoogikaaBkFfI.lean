/- FirstFree, as the program takes it. -/
import Derived.Test.YtdpblholoogikaaBkGoodI
import Derived.Test.YtdpblholoogikaaBkWt
import Derived.Test.YtdpblholoogikaaBkFfM
import Derived.BigQuiet
import Derived.Deep.Cut
namespace Go.Proofs.Ytdpblholoogikaa
open Go.RowKit
set_option maxHeartbeats 4000000 in
set_option maxRecDepth 20000 in
theorem iFree_no (a : Option Addr) (n c : Nat) (F : Nat → Int) (lane from_ long : Int) (w : World) (hn : n ≤ 1048576) (h : IL w a (n * 4) F) (h2 : ffO n F lane from_ long = false) :
    Calls Try.prog 9 #[.slice a n c, .int .i64 lane, .int .i64 from_, .int .i64 long] w fun e w' => e = .returned (.tuple #[.int .i64 0, .bool false]) ∧ Below w.heap.size w w' := by
  have kB := iBooks a n c F w hn h
  rcases ffO_f h2 with e | ⟨e, h3⟩
  · rw [e] at kB
    clear h2
    go_enter Try.func9, Try.ntmps9
    go_wp2_with (first | (go_at_call 7; refine kB.mono ?_; rintro e w' ⟨rfl, hb⟩; clear kB) | fail)
    go_ret2
    exact ⟨rfl, hb⟩
  rw [e] at kB
  clear e h2
  by_cases q0 : 0 ≤ lane ∧ lane ≤ 9
  rotate_left
  · clear h3
    have dl := decide_eq_false (p := 0 ≤ lane ∧ lane ≤ 9) q0
    go_enter Try.func9, Try.ntmps9
    go_wp2_with (first | (go_at_call 7; refine kB.mono ?_; rintro e w' ⟨rfl, hb⟩; clear kB) | (go_at_call 25; refine (lane_any _ _).mono ?_; rintro e w' ⟨rfl, hw'⟩; have hs' := hw'.symm; clear hw'; subst hs'; rw [dl]) | (go_at_call 26; refine (tick_any _ _).mono ?_; rintro e w' ⟨rfl, hw'⟩; have hs' := hw'.symm; clear hw'; subst hs'; skip) | fail)
    go_ret2
    exact ⟨rfl, hb⟩
  by_cases q1 : 0 ≤ from_ ∧ from_ ≤ 10000
  rotate_left
  · clear h3
    have dl := decide_eq_true (p := 0 ≤ lane ∧ lane ≤ 9) q0
    have dt := decide_eq_false (p := 0 ≤ from_ ∧ from_ ≤ 10000) q1
    go_enter Try.func9, Try.ntmps9
    go_wp2_with (first | (go_at_call 7; refine kB.mono ?_; rintro e w' ⟨rfl, hb⟩; clear kB) | (go_at_call 25; refine (lane_any _ _).mono ?_; rintro e w' ⟨rfl, hw'⟩; have hs' := hw'.symm; clear hw'; subst hs'; rw [dl]) | (go_at_call 26; refine (tick_any _ _).mono ?_; rintro e w' ⟨rfl, hw'⟩; have hs' := hw'.symm; clear hw'; subst hs'; rw [dt]) | fail)
    go_ret2
    exact ⟨rfl, hb⟩
  by_cases q2 : 1 ≤ long
  rotate_left
  · clear h3
    have dl := decide_eq_true (p := 0 ≤ lane ∧ lane ≤ 9) q0
    have dt := decide_eq_true (p := 0 ≤ from_ ∧ from_ ≤ 10000) q1
    go_enter Try.func9, Try.ntmps9
    go_wp2_with (first | (go_at_call 7; refine kB.mono ?_; rintro e w' ⟨rfl, hb⟩; clear kB) | (go_at_call 25; refine (lane_any _ _).mono ?_; rintro e w' ⟨rfl, hw'⟩; have hs' := hw'.symm; clear hw'; subst hs'; rw [dl]) | (go_at_call 26; refine (tick_any _ _).mono ?_; rintro e w' ⟨rfl, hw'⟩; have hs' := hw'.symm; clear hw'; subst hs'; rw [dt]) | fail)
    go_ret2
    exact ⟨rfl, hb⟩
  by_cases q3 : long ≤ 10000
  rotate_left
  · clear h3
    have dl := decide_eq_true (p := 0 ≤ lane ∧ lane ≤ 9) q0
    have dt := decide_eq_true (p := 0 ≤ from_ ∧ from_ ≤ 10000) q1
    go_enter Try.func9, Try.ntmps9
    go_wp2_with (first | (go_at_call 7; refine kB.mono ?_; rintro e w' ⟨rfl, hb⟩; clear kB) | (go_at_call 25; refine (lane_any _ _).mono ?_; rintro e w' ⟨rfl, hw'⟩; have hs' := hw'.symm; clear hw'; subst hs'; rw [dl]) | (go_at_call 26; refine (tick_any _ _).mono ?_; rintro e w' ⟨rfl, hw'⟩; have hs' := hw'.symm; clear hw'; subst hs'; rw [dt]) | fail)
    go_ret2
    exact ⟨rfl, hb⟩
  exact absurd ⟨q0, q1, q2, q3⟩ h3
set_option maxHeartbeats 4000000 in
set_option maxRecDepth 20000 in
theorem iFree_in (a : Option Addr) (n c : Nat) (F : Nat → Int) (lane from_ long : Int) (w : World) (hn : n ≤ 1048576) (h : IL w a (n * 4) F) (h2 : ffO n F lane from_ long = true) :
    Calls Try.prog 9 #[.slice a n c, .int .i64 lane, .int .i64 from_, .int .i64 long] w fun e w' => e = .returned (.tuple #[.int .i64 (ffV n F lane from_ long), .bool (ffQ n F lane from_ long)]) ∧ Below w.heap.size w w' := by
  have kB := iBooks a n c F w hn h
  obtain ⟨e, ⟨q0, q1⟩, ⟨q2, q3⟩, q4, q5⟩ := ffO_t h2
  have hbs := (bsB_t e).2
  rw [e] at kB
  have dl := decide_eq_true (p := 0 ≤ lane ∧ lane ≤ 9) ⟨q0, q1⟩
  have dt := decide_eq_true (p := 0 ≤ from_ ∧ from_ ≤ 10000) ⟨q2, q3⟩
  have HV : Hid (ffQ n F lane from_ long = decide (ffK F lane from_ long n + long ≤ 10000)) := by show ffQ n F lane from_ long = _; unfold ffQ; rw [h2]; rfl
  clear e h2
  go_enter Try.func9, Try.ntmps9
  go_wp2_with (first | (go_at_call 7; refine kB.mono ?_; rintro e w1 ⟨rfl, hb⟩; clear kB) | (go_at_call 25; refine (lane_any _ _).mono ?_; rintro e w' ⟨rfl, hw'⟩; have hs' := hw'.symm; clear hw'; subst hs'; rw [dl]) | (go_at_call 26; refine (tick_any _ _).mono ?_; rintro e w' ⟨rfl, hw'⟩; have hs' := hw'.symm; clear hw'; subst hs'; rw [dt]) | fail)
  go_loopw [10, 37] (fun x i wr => ∃ k : Nat, k ≤ n ∧ i = .int .i64 (k : Int) ∧ x = .int .i64 (ffK F lane from_ long k) ∧ Below w.heap.size w wr) (fun _ i _ => n - (intOf i).toNat)
  case atStart => exact ⟨0, Nat.zero_le _, rfl, rfl, hb⟩
  case round =>
    obtain ⟨k, hk, rfl, rfl, hB⟩ := hrel
    clear hb
    obtain ⟨v0, v1⟩ := ffK_in (lane := lane) (long := long) hbs ⟨q2, q3⟩ k hk
    by_cases hlt : k < n
    · obtain ⟨gb, go_, rfl, gl_, x0, x1, x2, x3⟩ := il_four4 (h.below hB) hlt
      have i0 : (0 : Int) ≤ (k : Int) := by omega
      have i1 : (k : Int) < (n : Int) := by omega
      have HS : Hid (ffK F lane from_ long (k + 1) = ffS lane long (F (k * 4)) (F (k * 4 + 1)) (F (k * 4 + 2)) (ffK F lane from_ long k)) := rfl
      have hZ := bk_box wr (F (k * 4)) (F (k * 4 + 1)) (F (k * 4 + 2)) (F (k * 4 + 3)) 25
      have hBz : Below wr.heap.size wr (wr.alloc (.cells #[.int .i64 (F (k * 4)), .int .i64 (F (k * 4 + 1)), .int .i64 (F (k * 4 + 2)), .int .i64 (F (k * 4 + 3))] 25)) := (Below.refl _ _).alloc (Nat.le_refl _) _
      obtain ⟨_, _, b2, b3, b4⟩ := bkB_t (bsK_t hbs k hlt).1
      generalize F (k * 4) = A at x0 hZ hBz HS
      generalize F (k * 4 + 1) = B at x1 hZ hBz HS b2 b3
      generalize F (k * 4 + 2) = C at x2 hZ hBz HS b3 b4
      generalize F (k * 4 + 3) = D at x3 hZ hBz
      generalize ffK F lane from_ long k = X at HS v0 v1 ⊢
      obtain ⟨y0, y1, y2, y3⟩ := bx_four4 hZ
      clear h hbs
      by_cases g0 : A = lane
      · have g1 : (A == lane) = true := by simpa using g0
        have kW := fun w => wait_any A B C D X long w ⟨b2, by omega⟩ ⟨v0, v1⟩
        have HW : Hid (wtV B C X long = ffK F lane from_ long (k + 1)) := by show wtV B C X long = _; rw [HS.out]; unfold wtV ffS; repeat' split <;> omega
        rw [HW.out] at kW
        clear HW HS g0 q0 q1
        go_wp2_with (first | (go_at_call 27; refine (kW _).mono ?_; rintro e w5 ⟨rfl, hb5⟩; clear kW) | fail)
        exact ⟨⟨k + 1, by omega, by go_num, rfl, stepA hB (stepA hBz hb5)⟩, by simp [intOf]; omega⟩
      · have g1 : (A == lane) = false := by simpa using g0
        have HY : Hid (X = ffK F lane from_ long (k + 1)) := by show X = _; rw [HS.out]; unfold ffS; rw [if_neg (fun h => g0 h.1)]
        clear HS g0 q0 q1
        go_wp2
        exact ⟨⟨k + 1, by omega, by go_num, by rw [← HY.out], stepA hB hBz⟩, by simp [intOf]; omega⟩
    · have hke : k = n := by omega
      subst hke
      clear h hbs
      by_cases g : ffK F lane from_ long k + long ≤ 10000
      · have HQ : Hid (ffQ k F lane from_ long = true) := HV.out.trans (decide_eq_true g)
        have HX : Hid (ffV k F lane from_ long = ffK F lane from_ long k) := if_pos HQ.out
        clear HV
        generalize ffK F lane from_ long k = X at *
        go_wp2
        go_ret2
        exact ⟨by rw [HQ.out, HX.out]; try rfl, hB⟩
      · have HQ : Hid (ffQ k F lane from_ long = false) := HV.out.trans (decide_eq_false g)
        have HX : Hid (ffV k F lane from_ long = 0) := if_neg (by rw [HQ.out]; decide)
        clear HV
        generalize ffK F lane from_ long k = X at *
        go_wp2
        go_ret2
        exact ⟨by rw [HQ.out, HX.out]; try rfl, hB⟩
end Go.Proofs.Ytdpblholoogikaa
