/- Both sides step a mode. -/
import Derived.Test.YtoleblhidieheaaSgM
namespace Go.Proofs.Ytoleblhidieheaa
open Go.RowKit

set_option maxHeartbeats 1000000 in
theorem sMode (m : Int) (w : World) :
    Calls Try.prog 42 #[.int .i64 m] w fun e w' => e = .returned (.bool (decide (0 ≤ m ∧ m ≤ 4))) ∧ w' = w := by
  by_cases h0 : 0 ≤ m
  rotate_left
  · go_enter Try.func42, Try.ntmps42
    go_wp2
    go_ret
    exact ⟨ret_bool (by simp <;> omega), rfl⟩
  by_cases h1 : m ≤ 4
  rotate_left
  · go_enter Try.func42, Try.ntmps42
    go_wp2
    go_ret
    exact ⟨ret_bool (by simp <;> omega), rfl⟩
  go_enter Try.func42, Try.ntmps42
  go_wp2
  go_ret
  exact ⟨ret_bool (by simp <;> omega), rfl⟩

set_option maxHeartbeats 1000000 in
theorem sStep (m : Int) (s : ByteArray) (w : World) :
    Calls Try.prog 30 #[.int .i64 m, .string s] w fun e w' => e = .returned (.int .i64 (msV m s)) ∧ w' = w := by
  by_cases hm : 0 ≤ m ∧ m ≤ 4
  rotate_left
  · have kM := sMode m w
    rw [decide_eq_false hm] at kM
    go_enter Try.func30, Try.ntmps30
    go_wp2_with (first | (go_at_call 42; refine kM.mono ?_; rintro e w' ⟨rfl, hw'⟩; have hs' := hw'.symm; clear hw' kM; subst hs') | fail)
    go_ret
    exact ⟨ret_int (by unfold msV; simp [hm]), rfl⟩
  have kM := sMode m w
  rw [decide_eq_true hm] at kM
  obtain ⟨h0, h4⟩ := hm
  by_cases e0 : s.toList = [111, 102, 102]
  · go_enter Try.func30, Try.ntmps30
    go_wp2_with (first | (go_at_call 42; refine kM.mono ?_; rintro e w' ⟨rfl, hw'⟩; have hs' := hw'.symm; clear hw' kM; subst hs') | fail)
    go_ret
    exact ⟨ret_int (by unfold msV; simp [h0, h4, e0]), rfl⟩
  by_cases e1 : s.toList = [111, 110]
  · by_cases q : m = 0
    · subst q
      clear h0 h4
      go_enter Try.func30, Try.ntmps30
      go_wp2_with (first | (go_at_call 42; refine kM.mono ?_; rintro e w' ⟨rfl, hw'⟩; have hs' := hw'.symm; clear hw' kM; subst hs') | fail)
      go_ret
      exact ⟨ret_int (by unfold msV; simp [e1]), rfl⟩
    · go_enter Try.func30, Try.ntmps30
      go_wp2_with (first | (go_at_call 42; refine kM.mono ?_; rintro e w' ⟨rfl, hw'⟩; have hs' := hw'.symm; clear hw' kM; subst hs') | fail)
      go_ret
      exact ⟨ret_int (by unfold msV; simp [h0, h4, q, e1]), rfl⟩
  by_cases e2 : s.toList = [103, 111]
  · by_cases q : m = 1
    · subst q
      clear h0 h4
      go_enter Try.func30, Try.ntmps30
      go_wp2_with (first | (go_at_call 42; refine kM.mono ?_; rintro e w' ⟨rfl, hw'⟩; have hs' := hw'.symm; clear hw' kM; subst hs') | fail)
      go_ret
      exact ⟨ret_int (by unfold msV; simp [e2]), rfl⟩
    · go_enter Try.func30, Try.ntmps30
      go_wp2_with (first | (go_at_call 42; refine kM.mono ?_; rintro e w' ⟨rfl, hw'⟩; have hs' := hw'.symm; clear hw' kM; subst hs') | fail)
      go_ret
      exact ⟨ret_int (by unfold msV; simp [h0, h4, q, e2]), rfl⟩
  by_cases e3 : s.toList = [104, 117, 114, 116]
  · by_cases q : m = 2
    · subst q
      clear h0 h4
      go_enter Try.func30, Try.ntmps30
      go_wp2_with (first | (go_at_call 42; refine kM.mono ?_; rintro e w' ⟨rfl, hw'⟩; have hs' := hw'.symm; clear hw' kM; subst hs') | fail)
      go_ret
      exact ⟨ret_int (by unfold msV; simp [e3]), rfl⟩
    · go_enter Try.func30, Try.ntmps30
      go_wp2_with (first | (go_at_call 42; refine kM.mono ?_; rintro e w' ⟨rfl, hw'⟩; have hs' := hw'.symm; clear hw' kM; subst hs') | fail)
      go_ret
      exact ⟨ret_int (by unfold msV; simp [h0, h4, q, e3]), rfl⟩
  by_cases e4 : s.toList = [104, 101, 97, 108]
  · by_cases q : m = 3
    · subst q
      clear h0 h4
      go_enter Try.func30, Try.ntmps30
      go_wp2_with (first | (go_at_call 42; refine kM.mono ?_; rintro e w' ⟨rfl, hw'⟩; have hs' := hw'.symm; clear hw' kM; subst hs') | fail)
      go_ret
      exact ⟨ret_int (by unfold msV; simp [e4]), rfl⟩
    · go_enter Try.func30, Try.ntmps30
      go_wp2_with (first | (go_at_call 42; refine kM.mono ?_; rintro e w' ⟨rfl, hw'⟩; have hs' := hw'.symm; clear hw' kM; subst hs') | fail)
      go_ret
      exact ⟨ret_int (by unfold msV; simp [h0, h4, q, e4]), rfl⟩
  by_cases e5 : s.toList = [115, 116, 111, 112]
  · by_cases q : m = 0
    · subst q
      clear h0 h4
      go_enter Try.func30, Try.ntmps30
      go_wp2_with (first | (go_at_call 42; refine kM.mono ?_; rintro e w' ⟨rfl, hw'⟩; have hs' := hw'.symm; clear hw' kM; subst hs') | fail)
      go_ret
      exact ⟨ret_int (by unfold msV; simp [e5]), rfl⟩
    · go_enter Try.func30, Try.ntmps30
      go_wp2_with (first | (go_at_call 42; refine kM.mono ?_; rintro e w' ⟨rfl, hw'⟩; have hs' := hw'.symm; clear hw' kM; subst hs') | fail)
      go_ret
      exact ⟨ret_int (by unfold msV; simp [h0, h4, q, e5]), rfl⟩
  by_cases e6 : s.toList = [114, 101, 115, 101, 116]
  · by_cases q : m = 4
    · subst q
      clear h0 h4
      go_enter Try.func30, Try.ntmps30
      go_wp2_with (first | (go_at_call 42; refine kM.mono ?_; rintro e w' ⟨rfl, hw'⟩; have hs' := hw'.symm; clear hw' kM; subst hs') | fail)
      go_ret
      exact ⟨ret_int (by unfold msV; simp [e6]), rfl⟩
    · go_enter Try.func30, Try.ntmps30
      go_wp2_with (first | (go_at_call 42; refine kM.mono ?_; rintro e w' ⟨rfl, hw'⟩; have hs' := hw'.symm; clear hw' kM; subst hs') | fail)
      go_ret
      exact ⟨ret_int (by unfold msV; simp [h0, h4, q, e6]), rfl⟩
  have f0 : (s.toList == [111, 102, 102]) = false := beq_eq_false_iff_ne.mpr e0
  have f1 : (s.toList == [111, 110]) = false := beq_eq_false_iff_ne.mpr e1
  have f2 : (s.toList == [103, 111]) = false := beq_eq_false_iff_ne.mpr e2
  have f3 : (s.toList == [104, 117, 114, 116]) = false := beq_eq_false_iff_ne.mpr e3
  have f4 : (s.toList == [104, 101, 97, 108]) = false := beq_eq_false_iff_ne.mpr e4
  have f5 : (s.toList == [115, 116, 111, 112]) = false := beq_eq_false_iff_ne.mpr e5
  have f6 : (s.toList == [114, 101, 115, 101, 116]) = false := beq_eq_false_iff_ne.mpr e6
  go_enter Try.func30, Try.ntmps30
  go_wp2_with (first | (go_at_call 42; refine kM.mono ?_; rintro e w' ⟨rfl, hw'⟩; have hs' := hw'.symm; clear hw' kM; subst hs') | fail)
  go_ret
  exact ⟨ret_int (by unfold msV; simp [h0, h4, e0, e1, e2, e3, e4, e5, e6]), rfl⟩

set_option maxHeartbeats 1000000 in
theorem iStep (m : Int) (s : ByteArray) (w : World) :
    Calls Try.prog 10 #[.int .i64 m, .string s] w fun e w' => e = .returned (.int .i64 (msV m s)) ∧ w' = w := by
  by_cases hm : 0 ≤ m ∧ m ≤ 4
  rotate_left
  · by_cases h0 : 0 ≤ m
    · have h4 : 4 < m := by omega
      go_enter Try.func10, Try.ntmps10
      go_wp2
      go_ret
      exact ⟨ret_int (by unfold msV; simp [hm]), rfl⟩
    · have h4 : m < 0 := by omega
      go_enter Try.func10, Try.ntmps10
      go_wp2
      go_ret
      exact ⟨ret_int (by unfold msV; simp [hm]), rfl⟩
  obtain ⟨h0, h4⟩ := hm
  by_cases e0 : s.toList = [111, 102, 102]
  · go_enter Try.func10, Try.ntmps10
    go_wp2
    go_ret
    exact ⟨ret_int (by unfold msV; simp [h0, h4, e0]), rfl⟩
  by_cases e1 : s.toList = [111, 110]
  · by_cases q : m = 0
    · subst q
      clear h0 h4
      go_enter Try.func10, Try.ntmps10
      go_wp2
      go_ret
      exact ⟨ret_int (by unfold msV; simp [e1]), rfl⟩
    · go_enter Try.func10, Try.ntmps10
      go_wp2
      go_ret
      exact ⟨ret_int (by unfold msV; simp [h0, h4, q, e1]), rfl⟩
  by_cases e2 : s.toList = [103, 111]
  · by_cases q : m = 1
    · subst q
      clear h0 h4
      go_enter Try.func10, Try.ntmps10
      go_wp2
      go_ret
      exact ⟨ret_int (by unfold msV; simp [e2]), rfl⟩
    · go_enter Try.func10, Try.ntmps10
      go_wp2
      go_ret
      exact ⟨ret_int (by unfold msV; simp [h0, h4, q, e2]), rfl⟩
  by_cases e3 : s.toList = [104, 117, 114, 116]
  · by_cases q : m = 2
    · subst q
      clear h0 h4
      go_enter Try.func10, Try.ntmps10
      go_wp2
      go_ret
      exact ⟨ret_int (by unfold msV; simp [e3]), rfl⟩
    · go_enter Try.func10, Try.ntmps10
      go_wp2
      go_ret
      exact ⟨ret_int (by unfold msV; simp [h0, h4, q, e3]), rfl⟩
  by_cases e4 : s.toList = [104, 101, 97, 108]
  · by_cases q : m = 3
    · subst q
      clear h0 h4
      go_enter Try.func10, Try.ntmps10
      go_wp2
      go_ret
      exact ⟨ret_int (by unfold msV; simp [e4]), rfl⟩
    · go_enter Try.func10, Try.ntmps10
      go_wp2
      go_ret
      exact ⟨ret_int (by unfold msV; simp [h0, h4, q, e4]), rfl⟩
  by_cases e5 : s.toList = [115, 116, 111, 112]
  · by_cases q : m = 0
    · subst q
      clear h0 h4
      go_enter Try.func10, Try.ntmps10
      go_wp2
      go_ret
      exact ⟨ret_int (by unfold msV; simp [e5]), rfl⟩
    · go_enter Try.func10, Try.ntmps10
      go_wp2
      go_ret
      exact ⟨ret_int (by unfold msV; simp [h0, h4, q, e5]), rfl⟩
  by_cases e6 : s.toList = [114, 101, 115, 101, 116]
  · by_cases q : m = 4
    · subst q
      clear h0 h4
      go_enter Try.func10, Try.ntmps10
      go_wp2
      go_ret
      exact ⟨ret_int (by unfold msV; simp [e6]), rfl⟩
    · go_enter Try.func10, Try.ntmps10
      go_wp2
      go_ret
      exact ⟨ret_int (by unfold msV; simp [h0, h4, q, e6]), rfl⟩
  have f0 : (s.toList == [111, 102, 102]) = false := beq_eq_false_iff_ne.mpr e0
  have f1 : (s.toList == [111, 110]) = false := beq_eq_false_iff_ne.mpr e1
  have f2 : (s.toList == [103, 111]) = false := beq_eq_false_iff_ne.mpr e2
  have f3 : (s.toList == [104, 117, 114, 116]) = false := beq_eq_false_iff_ne.mpr e3
  have f4 : (s.toList == [104, 101, 97, 108]) = false := beq_eq_false_iff_ne.mpr e4
  have f5 : (s.toList == [115, 116, 111, 112]) = false := beq_eq_false_iff_ne.mpr e5
  have f6 : (s.toList == [114, 101, 115, 101, 116]) = false := beq_eq_false_iff_ne.mpr e6
  go_enter Try.func10, Try.ntmps10
  go_wp2
  go_ret
  exact ⟨ret_int (by unfold msV; simp [h0, h4, e0, e1, e2, e3, e4, e5, e6]), rfl⟩

end Go.Proofs.Ytoleblhidieheaa
