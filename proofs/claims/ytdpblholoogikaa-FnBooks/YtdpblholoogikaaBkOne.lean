/- Whether one booking is good, and may stand behind another one, as both sides say it. -/
import Derived.Test.YtdpblholoogikaaBkM
import Derived.BigQuiet
namespace Go.Proofs.Ytdpblholoogikaa
open Go.RowKit
set_option maxHeartbeats 2000000 in
theorem lane_any (n : Int) (w : World) :
    Calls Try.prog 25 #[.int .i64 n] w fun e w' => e = .returned (.bool (decide (0 ≤ n ∧ n ≤ 9))) ∧ w' = w := by
  by_cases h0 : 0 ≤ n
  rotate_left
  · go_enter Try.func25, Try.ntmps25
    go_wp2
    go_ret
    exact ⟨ret_bool (by simp <;> omega), rfl⟩
  by_cases h1 : n ≤ 9
  rotate_left
  · go_enter Try.func25, Try.ntmps25
    go_wp2
    go_ret
    exact ⟨ret_bool (by simp <;> omega), rfl⟩
  go_enter Try.func25, Try.ntmps25
  go_wp2
  go_ret
  exact ⟨ret_bool (by simp <;> omega), rfl⟩
set_option maxHeartbeats 2000000 in
theorem tick_any (n : Int) (w : World) :
    Calls Try.prog 26 #[.int .i64 n] w fun e w' => e = .returned (.bool (decide (0 ≤ n ∧ n ≤ 10000))) ∧ w' = w := by
  by_cases h0 : 0 ≤ n
  rotate_left
  · go_enter Try.func26, Try.ntmps26
    go_wp2
    go_ret
    exact ⟨ret_bool (by simp <;> omega), rfl⟩
  by_cases h1 : n ≤ 10000
  rotate_left
  · go_enter Try.func26, Try.ntmps26
    go_wp2
    go_ret
    exact ⟨ret_bool (by simp <;> omega), rfl⟩
  go_enter Try.func26, Try.ntmps26
  go_wp2
  go_ret
  exact ⟨ret_bool (by simp <;> omega), rfl⟩
set_option maxHeartbeats 2000000 in
theorem iBook1 (a f t u : Int) (w : World) :
    Calls Try.prog 23 #[bkv a f t u] w fun e w' => e = .returned (.bool (bkB a f t u)) ∧ Below w.heap.size w w' := by
  by_cases a0 : 0 ≤ a ∧ a ≤ 9
  rotate_left
  · skip
    have d_a0 := decide_eq_false (p := 0 ≤ a ∧ a ≤ 9) a0
    go_enter Try.func23, Try.ntmps23
    go_wp2_with (first | (go_at_call 25; refine (lane_any _ _).mono ?_; rintro e w' ⟨rfl, hw'⟩; have hs' := hw'.symm; clear hw'; subst hs'; (first | rw [d_a0])) | (go_at_call 26; refine (tick_any _ _).mono ?_; rintro e w' ⟨rfl, hw'⟩; have hs' := hw'.symm; clear hw'; subst hs'; (first | rw [d_a0])) | fail)
    go_ret
    refine ⟨ret_bool ?_, (Below.refl _ _).alloc (Nat.le_refl _) _⟩
    first | exact (decide_eq_false (by omega)).symm | exact (decide_eq_true (by omega)).symm | exact decide_eq_decide.2 (by omega)
  by_cases u0 : 0 ≤ u
  rotate_left
  · skip
    have d_a0 := decide_eq_true (p := 0 ≤ a ∧ a ≤ 9) a0
    go_enter Try.func23, Try.ntmps23
    go_wp2_with (first | (go_at_call 25; refine (lane_any _ _).mono ?_; rintro e w' ⟨rfl, hw'⟩; have hs' := hw'.symm; clear hw'; subst hs'; (first | rw [d_a0])) | (go_at_call 26; refine (tick_any _ _).mono ?_; rintro e w' ⟨rfl, hw'⟩; have hs' := hw'.symm; clear hw'; subst hs'; (first | rw [d_a0])) | fail)
    go_ret
    refine ⟨ret_bool ?_, (Below.refl _ _).alloc (Nat.le_refl _) _⟩
    first | exact (decide_eq_false (by omega)).symm | exact (decide_eq_true (by omega)).symm | exact decide_eq_decide.2 (by omega)
  by_cases u1 : u ≤ 9
  rotate_left
  · skip
    have d_a0 := decide_eq_true (p := 0 ≤ a ∧ a ≤ 9) a0
    go_enter Try.func23, Try.ntmps23
    go_wp2_with (first | (go_at_call 25; refine (lane_any _ _).mono ?_; rintro e w' ⟨rfl, hw'⟩; have hs' := hw'.symm; clear hw'; subst hs'; (first | rw [d_a0])) | (go_at_call 26; refine (tick_any _ _).mono ?_; rintro e w' ⟨rfl, hw'⟩; have hs' := hw'.symm; clear hw'; subst hs'; (first | rw [d_a0])) | fail)
    go_ret
    refine ⟨ret_bool ?_, (Below.refl _ _).alloc (Nat.le_refl _) _⟩
    first | exact (decide_eq_false (by omega)).symm | exact (decide_eq_true (by omega)).symm | exact decide_eq_decide.2 (by omega)
  by_cases f0 : 0 ≤ f ∧ f ≤ 10000
  rotate_left
  · skip
    have d_a0 := decide_eq_true (p := 0 ≤ a ∧ a ≤ 9) a0
    have d_f0 := decide_eq_false (p := 0 ≤ f ∧ f ≤ 10000) f0
    go_enter Try.func23, Try.ntmps23
    go_wp2_with (first | (go_at_call 25; refine (lane_any _ _).mono ?_; rintro e w' ⟨rfl, hw'⟩; have hs' := hw'.symm; clear hw'; subst hs'; (first | rw [d_a0] | rw [d_f0])) | (go_at_call 26; refine (tick_any _ _).mono ?_; rintro e w' ⟨rfl, hw'⟩; have hs' := hw'.symm; clear hw'; subst hs'; (first | rw [d_a0] | rw [d_f0])) | fail)
    go_ret
    refine ⟨ret_bool ?_, (Below.refl _ _).alloc (Nat.le_refl _) _⟩
    first | exact (decide_eq_false (by omega)).symm | exact (decide_eq_true (by omega)).symm | exact decide_eq_decide.2 (by omega)
  by_cases t0 : 0 ≤ t ∧ t ≤ 10000
  rotate_left
  · skip
    have d_a0 := decide_eq_true (p := 0 ≤ a ∧ a ≤ 9) a0
    have d_f0 := decide_eq_true (p := 0 ≤ f ∧ f ≤ 10000) f0
    have d_t0 := decide_eq_false (p := 0 ≤ t ∧ t ≤ 10000) t0
    go_enter Try.func23, Try.ntmps23
    go_wp2_with (first | (go_at_call 25; refine (lane_any _ _).mono ?_; rintro e w' ⟨rfl, hw'⟩; have hs' := hw'.symm; clear hw'; subst hs'; (first | rw [d_a0] | rw [d_f0] | rw [d_t0])) | (go_at_call 26; refine (tick_any _ _).mono ?_; rintro e w' ⟨rfl, hw'⟩; have hs' := hw'.symm; clear hw'; subst hs'; (first | rw [d_a0] | rw [d_f0] | rw [d_t0])) | fail)
    go_ret
    refine ⟨ret_bool ?_, (Below.refl _ _).alloc (Nat.le_refl _) _⟩
    first | exact (decide_eq_false (by omega)).symm | exact (decide_eq_true (by omega)).symm | exact decide_eq_decide.2 (by omega)
  by_cases ft : f < t
  rotate_left
  · skip
    have d_a0 := decide_eq_true (p := 0 ≤ a ∧ a ≤ 9) a0
    have d_f0 := decide_eq_true (p := 0 ≤ f ∧ f ≤ 10000) f0
    have d_t0 := decide_eq_true (p := 0 ≤ t ∧ t ≤ 10000) t0
    go_enter Try.func23, Try.ntmps23
    go_wp2_with (first | (go_at_call 25; refine (lane_any _ _).mono ?_; rintro e w' ⟨rfl, hw'⟩; have hs' := hw'.symm; clear hw'; subst hs'; (first | rw [d_a0] | rw [d_f0] | rw [d_t0])) | (go_at_call 26; refine (tick_any _ _).mono ?_; rintro e w' ⟨rfl, hw'⟩; have hs' := hw'.symm; clear hw'; subst hs'; (first | rw [d_a0] | rw [d_f0] | rw [d_t0])) | fail)
    go_ret
    refine ⟨ret_bool ?_, (Below.refl _ _).alloc (Nat.le_refl _) _⟩
    first | exact (decide_eq_false (by omega)).symm | exact (decide_eq_true (by omega)).symm | exact decide_eq_decide.2 (by omega)
  skip
  have d_a0 := decide_eq_true (p := 0 ≤ a ∧ a ≤ 9) a0
  have d_f0 := decide_eq_true (p := 0 ≤ f ∧ f ≤ 10000) f0
  have d_t0 := decide_eq_true (p := 0 ≤ t ∧ t ≤ 10000) t0
  go_enter Try.func23, Try.ntmps23
  go_wp2_with (first | (go_at_call 25; refine (lane_any _ _).mono ?_; rintro e w' ⟨rfl, hw'⟩; have hs' := hw'.symm; clear hw'; subst hs'; (first | rw [d_a0] | rw [d_f0] | rw [d_t0])) | (go_at_call 26; refine (tick_any _ _).mono ?_; rintro e w' ⟨rfl, hw'⟩; have hs' := hw'.symm; clear hw'; subst hs'; (first | rw [d_a0] | rw [d_f0] | rw [d_t0])) | fail)
  go_ret
  refine ⟨ret_bool ?_, (Below.refl _ _).alloc (Nat.le_refl _) _⟩
  first | exact (decide_eq_false (by omega)).symm | exact (decide_eq_true (by omega)).symm | exact decide_eq_decide.2 (by omega)
set_option maxHeartbeats 2000000 in
theorem sBook1 (a f t u : Int) (w : World) :
    Calls Try.prog 22 #[bkv a f t u] w fun e w' => e = .returned (.bool (bkB a f t u)) ∧ Below w.heap.size w w' := by
  by_cases h0 : 0 ≤ a
  rotate_left
  · go_enter Try.func22, Try.ntmps22
    go_wp2
    go_ret
    refine ⟨ret_bool ?_, (Below.refl _ _).alloc (Nat.le_refl _) _⟩
    simp [bkB] <;> omega
  by_cases h1 : a ≤ 9
  rotate_left
  · go_enter Try.func22, Try.ntmps22
    go_wp2
    go_ret
    refine ⟨ret_bool ?_, (Below.refl _ _).alloc (Nat.le_refl _) _⟩
    simp [bkB] <;> omega
  by_cases h2 : 0 ≤ u
  rotate_left
  · go_enter Try.func22, Try.ntmps22
    go_wp2
    go_ret
    refine ⟨ret_bool ?_, (Below.refl _ _).alloc (Nat.le_refl _) _⟩
    simp [bkB] <;> omega
  by_cases h3 : u ≤ 9
  rotate_left
  · go_enter Try.func22, Try.ntmps22
    go_wp2
    go_ret
    refine ⟨ret_bool ?_, (Below.refl _ _).alloc (Nat.le_refl _) _⟩
    simp [bkB] <;> omega
  by_cases h4 : 0 ≤ f
  rotate_left
  · go_enter Try.func22, Try.ntmps22
    go_wp2
    go_ret
    refine ⟨ret_bool ?_, (Below.refl _ _).alloc (Nat.le_refl _) _⟩
    simp [bkB] <;> omega
  by_cases h5 : f < t
  rotate_left
  · go_enter Try.func22, Try.ntmps22
    go_wp2
    go_ret
    refine ⟨ret_bool ?_, (Below.refl _ _).alloc (Nat.le_refl _) _⟩
    simp [bkB] <;> omega
  by_cases h6 : t ≤ 10000
  rotate_left
  · go_enter Try.func22, Try.ntmps22
    go_wp2
    go_ret
    refine ⟨ret_bool ?_, (Below.refl _ _).alloc (Nat.le_refl _) _⟩
    simp [bkB] <;> omega
  go_enter Try.func22, Try.ntmps22
  go_wp2
  go_ret
  refine ⟨ret_bool ?_, (Below.refl _ _).alloc (Nat.le_refl _) _⟩
  simp [bkB] <;> omega
set_option maxHeartbeats 2000000 in
theorem iBehind (a f t u a2 f2 t2 u2 : Int) (w : World) :
    Calls Try.prog 24 #[bkv a f t u, bkv a2 f2 t2 u2] w fun e w' => e = .returned (.bool (bhB a t a2 f2)) ∧ Below w.heap.size w w' := by
  by_cases h0 : a < a2
  · go_enter Try.func24, Try.ntmps24
    go_wp2
    go_ret
    refine ⟨ret_bool ?_, ((Below.refl _ _).alloc (Nat.le_refl _) _).alloc (by simp) _⟩
    simp [bhB] <;> omega
  by_cases h1 : a = a2
  · subst h1
    by_cases h2 : t ≤ f2
    · go_enter Try.func24, Try.ntmps24
      go_wp2
      go_ret
      refine ⟨ret_bool ?_, ((Below.refl _ _).alloc (Nat.le_refl _) _).alloc (by simp) _⟩
      simp [bhB] <;> omega
    · go_enter Try.func24, Try.ntmps24
      go_wp2
      go_ret
      refine ⟨ret_bool ?_, ((Below.refl _ _).alloc (Nat.le_refl _) _).alloc (by simp) _⟩
      simp [bhB] <;> omega
  · have h3 : (a == a2) = false := by simpa using h1
    go_enter Try.func24, Try.ntmps24
    go_wp2
    go_ret
    refine ⟨ret_bool ?_, ((Below.refl _ _).alloc (Nat.le_refl _) _).alloc (by simp) _⟩
    simp [bhB] <;> omega
end Go.Proofs.Ytdpblholoogikaa
