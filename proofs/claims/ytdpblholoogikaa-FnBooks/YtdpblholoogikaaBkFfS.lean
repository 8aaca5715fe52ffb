/- FirstFree, as the model takes it. -/
import Derived.Test.YtdpblholoogikaaBkGoodS
import Derived.Test.YtdpblholoogikaaBkFfM
import Derived.BigQuiet
import Derived.Deep.Cut
namespace Go.Proofs.Ytdpblholoogikaa
open Go.RowKit
set_option maxHeartbeats 4000000 in
set_option maxRecDepth 20000 in
theorem sFree_no (a : Option Addr) (n c : Nat) (F : Nat → Int) (lane from_ long : Int) (w : World) (hn : n ≤ 1048576) (h : IL w a (n * 4) F) (h2 : ffO n F lane from_ long = false) :
    Calls Try.prog 10 #[.slice a n c, .int .i64 lane, .int .i64 from_, .int .i64 long] w fun e w' => e = .returned (.tuple #[.int .i64 0, .bool false]) ∧ Below w.heap.size w w' := by
  have kB := sBooks a n c F w hn h
  rcases ffO_f h2 with e | ⟨e, h3⟩
  · rw [e] at kB
    clear h2
    go_enter Try.func10, Try.ntmps10
    go_wp2_with (first | (go_at_call 12; refine kB.mono ?_; rintro e w' ⟨rfl, hb⟩; clear kB) | fail)
    go_ret2
    exact ⟨rfl, hb⟩
  rw [e] at kB
  clear e h2
  by_cases q0 : 0 ≤ lane
  rotate_left
  · clear h3
    go_enter Try.func10, Try.ntmps10
    go_wp2_with (first | (go_at_call 12; refine kB.mono ?_; rintro e w' ⟨rfl, hb⟩; clear kB) | fail)
    go_ret2
    exact ⟨rfl, hb⟩
  by_cases q1 : lane ≤ 9
  rotate_left
  · clear h3
    go_enter Try.func10, Try.ntmps10
    go_wp2_with (first | (go_at_call 12; refine kB.mono ?_; rintro e w' ⟨rfl, hb⟩; clear kB) | fail)
    go_ret2
    exact ⟨rfl, hb⟩
  by_cases q2 : 0 ≤ from_
  rotate_left
  · clear h3
    go_enter Try.func10, Try.ntmps10
    go_wp2_with (first | (go_at_call 12; refine kB.mono ?_; rintro e w' ⟨rfl, hb⟩; clear kB) | fail)
    go_ret2
    exact ⟨rfl, hb⟩
  by_cases q3 : from_ ≤ 10000
  rotate_left
  · clear h3
    go_enter Try.func10, Try.ntmps10
    go_wp2_with (first | (go_at_call 12; refine kB.mono ?_; rintro e w' ⟨rfl, hb⟩; clear kB) | fail)
    go_ret2
    exact ⟨rfl, hb⟩
  by_cases q4 : 1 ≤ long
  rotate_left
  · clear h3
    go_enter Try.func10, Try.ntmps10
    go_wp2_with (first | (go_at_call 12; refine kB.mono ?_; rintro e w' ⟨rfl, hb⟩; clear kB) | fail)
    go_ret2
    exact ⟨rfl, hb⟩
  by_cases q5 : long ≤ 10000
  rotate_left
  · clear h3
    go_enter Try.func10, Try.ntmps10
    go_wp2_with (first | (go_at_call 12; refine kB.mono ?_; rintro e w' ⟨rfl, hb⟩; clear kB) | fail)
    go_ret2
    exact ⟨rfl, hb⟩
  exact absurd ⟨⟨q0, q1⟩, ⟨q2, q3⟩, q4, q5⟩ h3
set_option maxHeartbeats 4000000 in
set_option maxRecDepth 20000 in
theorem sFree_in (a : Option Addr) (n c : Nat) (F : Nat → Int) (lane from_ long : Int) (w : World) (hn : n ≤ 1048576) (h : IL w a (n * 4) F) (h2 : ffO n F lane from_ long = true) :
    Calls Try.prog 10 #[.slice a n c, .int .i64 lane, .int .i64 from_, .int .i64 long] w fun e w' => e = .returned (.tuple #[.int .i64 (ffV n F lane from_ long), .bool (ffQ n F lane from_ long)]) ∧ Below w.heap.size w w' := by
  have kB := sBooks a n c F w hn h
  obtain ⟨e, ⟨q0, q1⟩, ⟨q2, q3⟩, q4, q5⟩ := ffO_t h2
  have hbs := (bsB_t e).2
  rw [e] at kB
  have HV : Hid (ffQ n F lane from_ long = decide (ffK F lane from_ long n + long ≤ 10000)) := by show ffQ n F lane from_ long = _; unfold ffQ; rw [h2]; rfl
  clear e h2
  go_enter Try.func10, Try.ntmps10
  go_wp2_with (first | (go_at_call 12; refine kB.mono ?_; rintro e w1 ⟨rfl, hb⟩; clear kB) | fail)
  go_loopw [2, 41] (fun x i wr => ∃ k : Nat, k ≤ n ∧ i = .int .i64 (k : Int) ∧ x = .int .i64 (ffK F lane from_ long k) ∧ Below w.heap.size w wr) (fun _ i _ => n - (intOf i).toNat)
  case atStart => exact ⟨0, Nat.zero_le _, rfl, rfl, hb⟩
  case round =>
    obtain ⟨k, hk, rfl, rfl, hB⟩ := hrel
    clear hb
    obtain ⟨v0, v1⟩ := ffK_in (lane := lane) (long := long) hbs ⟨q2, q3⟩ k hk
    by_cases hlt : k < n
    · obtain ⟨gb, go_, rfl, gl_, x0, x1, x2, x3⟩ := il_four4 (h.below hB) hlt
      have i0 : (0 : Int) ≤ (k : Int) := by omega
      have i1 : (k : Int) < (n : Int) := by omega
      have HS : Hid (ffK F lane from_ long (k + 1) = ffS lane long (F (k * 4)) (F (k * 4 + 1)) (F (k * 4 + 2)) (ffK F lane from_ long k)) := rfl
      have hZ := bk_box wr (F (k * 4)) (F (k * 4 + 1)) (F (k * 4 + 2)) (F (k * 4 + 3)) 25
      have hBz : Below wr.heap.size wr (wr.alloc (.cells #[.int .i64 (F (k * 4)), .int .i64 (F (k * 4 + 1)), .int .i64 (F (k * 4 + 2)), .int .i64 (F (k * 4 + 3))] 25)) := (Below.refl _ _).alloc (Nat.le_refl _) _
      obtain ⟨_, _, b2, b3, b4⟩ := bkB_t (bsK_t hbs k hlt).1
      generalize F (k * 4) = A at x0 hZ hBz HS
      generalize F (k * 4 + 1) = B at x1 hZ hBz HS b2 b3
      generalize F (k * 4 + 2) = C at x2 hZ hBz HS b3 b4
      generalize F (k * 4 + 3) = D at x3 hZ hBz
      generalize ffK F lane from_ long k = X at HS v0 v1 ⊢
      obtain ⟨y0, y1, y2, y3⟩ := bx_four4 hZ
      clear h hbs
      by_cases g0 : A = lane
      rotate_left
      · have g1 : (A == lane) = false := by simpa using g0
        have HY : Hid (X = ffK F lane from_ long (k + 1)) := by show X = _; rw [HS.out]; unfold ffS; split <;> omega
        clear HS q0 q1 g0
        go_wp2
        exact ⟨⟨k + 1, by omega, by go_num, by rw [← HY.out], stepA hB hBz⟩, by simp [intOf]; omega⟩
      have g1 : (A == lane) = true := by simpa using g0
      by_cases g2 : B < X + long
      rotate_left
      · skip
        have HY : Hid (X = ffK F lane from_ long (k + 1)) := by show X = _; rw [HS.out]; unfold ffS; split <;> omega
        clear HS q0 q1 g0
        go_wp2
        exact ⟨⟨k + 1, by omega, by go_num, by rw [← HY.out], stepA hB hBz⟩, by simp [intOf]; omega⟩
      by_cases g3 : X < C
      rotate_left
      · skip
        have HY : Hid (X = ffK F lane from_ long (k + 1)) := by show X = _; rw [HS.out]; unfold ffS; split <;> omega
        clear HS q0 q1 g0
        go_wp2
        exact ⟨⟨k + 1, by omega, by go_num, by rw [← HY.out], stepA hB hBz⟩, by simp [intOf]; omega⟩
      have HY : Hid (C = ffK F lane from_ long (k + 1)) := by show C = _; rw [HS.out]; unfold ffS; split <;> omega
      clear HS q0 q1 g0
      go_wp2
      exact ⟨⟨k + 1, by omega, by go_num, by rw [← HY.out], stepA hB hBz⟩, by simp [intOf]; omega⟩
    · have hke : k = n := by omega
      subst hke
      clear h hbs
      by_cases g : ffK F lane from_ long k + long ≤ 10000
      · have HQ : Hid (ffQ k F lane from_ long = true) := HV.out.trans (decide_eq_true g)
        have HX : Hid (ffV k F lane from_ long = ffK F lane from_ long k) := if_pos HQ.out
        clear HV
        generalize ffK F lane from_ long k = X at *
        go_wp2
        go_ret2
        exact ⟨by rw [HQ.out, HX.out]; try rfl, hB⟩
      · have HQ : Hid (ffQ k F lane from_ long = false) := HV.out.trans (decide_eq_false g)
        have HX : Hid (ffV k F lane from_ long = 0) := if_neg (by rw [HQ.out]; decide)
        clear HV
        generalize ffK F lane from_ long k = X at *
        go_wp2
        go_ret2
        exact ⟨by rw [HQ.out, HX.out]; try rfl, hB⟩
end Go.Proofs.Ytdpblholoogikaa
