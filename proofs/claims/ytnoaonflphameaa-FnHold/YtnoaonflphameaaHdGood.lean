/- Both sides say of a loop and a hold whether they are good. -/
import Derived.Test.YtnoaonflphameaaHdBase
namespace Go.Proofs.Ytnoaonflphameaa
open Go.RowKit

theorem upB_t {n m : Int} (h : upB n m = true) : 0 ≤ n ∧ n ≤ m := of_decide_eq_true h
theorem upB_f {n m : Int} (h : upB n m = false) : ¬ (0 ≤ n ∧ n ≤ m) := of_decide_eq_false h

set_option maxHeartbeats 1000000 in
theorem specGoodL (l : Lp) (w : World) :
    Calls Try.prog 49 #[lv l] w fun e w' => e = .returned (.bool (goodL l)) ∧ Below w.heap.size w w' := by
  by_cases aP : 0 ≤ l.P
  rotate_left
  · go_enter Try.func49, Try.ntmps49
    go_wp2
    go_ret
    exact ⟨ret_bool (by simp [goodL] <;> omega), (Below.refl _ _).alloc (Nat.le_refl _) _⟩
  by_cases bP : l.P ≤ 1000
  rotate_left
  · go_enter Try.func49, Try.ntmps49
    go_wp2
    go_ret
    exact ⟨ret_bool (by simp [goodL] <;> omega), (Below.refl _ _).alloc (Nat.le_refl _) _⟩
  by_cases aI : 0 ≤ l.I
  rotate_left
  · go_enter Try.func49, Try.ntmps49
    go_wp2
    go_ret
    exact ⟨ret_bool (by simp [goodL] <;> omega), (Below.refl _ _).alloc (Nat.le_refl _) _⟩
  by_cases bI : l.I ≤ 1000
  rotate_left
  · go_enter Try.func49, Try.ntmps49
    go_wp2
    go_ret
    exact ⟨ret_bool (by simp [goodL] <;> omega), (Below.refl _ _).alloc (Nat.le_refl _) _⟩
  by_cases aD : 0 ≤ l.D
  rotate_left
  · go_enter Try.func49, Try.ntmps49
    go_wp2
    go_ret
    exact ⟨ret_bool (by simp [goodL] <;> omega), (Below.refl _ _).alloc (Nat.le_refl _) _⟩
  by_cases bD : l.D ≤ 1000
  rotate_left
  · go_enter Try.func49, Try.ntmps49
    go_wp2
    go_ret
    exact ⟨ret_bool (by simp [goodL] <;> omega), (Below.refl _ _).alloc (Nat.le_refl _) _⟩
  by_cases aS : 1 ≤ l.S
  rotate_left
  · go_enter Try.func49, Try.ntmps49
    go_wp2
    go_ret
    exact ⟨ret_bool (by simp [goodL] <;> omega), (Below.refl _ _).alloc (Nat.le_refl _) _⟩
  by_cases bS : l.S ≤ 1000
  rotate_left
  · go_enter Try.func49, Try.ntmps49
    go_wp2
    go_ret
    exact ⟨ret_bool (by simp [goodL] <;> omega), (Below.refl _ _).alloc (Nat.le_refl _) _⟩
  by_cases aM : 1 ≤ l.M
  rotate_left
  · go_enter Try.func49, Try.ntmps49
    go_wp2
    go_ret
    exact ⟨ret_bool (by simp [goodL] <;> omega), (Below.refl _ _).alloc (Nat.le_refl _) _⟩
  by_cases bM : l.M ≤ 1000000
  rotate_left
  · go_enter Try.func49, Try.ntmps49
    go_wp2
    go_ret
    exact ⟨ret_bool (by simp [goodL] <;> omega), (Below.refl _ _).alloc (Nat.le_refl _) _⟩
  by_cases aW : 0 ≤ l.W
  rotate_left
  · go_enter Try.func49, Try.ntmps49
    go_wp2
    go_ret
    exact ⟨ret_bool (by simp [goodL] <;> omega), (Below.refl _ _).alloc (Nat.le_refl _) _⟩
  by_cases bW : l.W ≤ 1000000
  rotate_left
  · go_enter Try.func49, Try.ntmps49
    go_wp2
    go_ret
    exact ⟨ret_bool (by simp [goodL] <;> omega), (Below.refl _ _).alloc (Nat.le_refl _) _⟩
  by_cases aL : 0 ≤ l.L
  rotate_left
  · go_enter Try.func49, Try.ntmps49
    go_wp2
    go_ret
    exact ⟨ret_bool (by simp [goodL] <;> omega), (Below.refl _ _).alloc (Nat.le_refl _) _⟩
  by_cases bL : l.L ≤ 1000000
  rotate_left
  · go_enter Try.func49, Try.ntmps49
    go_wp2
    go_ret
    exact ⟨ret_bool (by simp [goodL] <;> omega), (Below.refl _ _).alloc (Nat.le_refl _) _⟩
  go_enter Try.func49, Try.ntmps49
  go_wp2
  go_ret
  exact ⟨ret_bool (by simp [goodL] <;> omega), (Below.refl _ _).alloc (Nat.le_refl _) _⟩

set_option maxHeartbeats 1000000 in
theorem implGoodL (l : Lp) (w : World) :
    Calls Try.prog 70 #[lv l] w fun e w' => e = .returned (.bool (goodL l)) ∧ Below w.heap.size w w' := by
  by_cases bP : upB l.P 1000 = true
  rotate_left
  · have q : upB l.P 1000 = false := by simpa using bP
    clear bP
    go_enter Try.func70, Try.ntmps70
    go_wp2_with (first | (go_at_call 74; refine (times_any _ _).mono ?_; rintro e w' ⟨rfl, hw'⟩; subst hw') | (go_at_call 75; refine (limit_any _ _).mono ?_; rintro e w' ⟨rfl, hw'⟩; subst hw'))
    go_ret
    refine ⟨ret_bool ?_, (Below.refl _ _).alloc (Nat.le_refl _) _⟩
    have kq := upB_f q
    simp [goodL] <;> omega
  by_cases bI : upB l.I 1000 = true
  rotate_left
  · have q : upB l.I 1000 = false := by simpa using bI
    clear bI
    go_enter Try.func70, Try.ntmps70
    go_wp2_with (first | (go_at_call 74; refine (times_any _ _).mono ?_; rintro e w' ⟨rfl, hw'⟩; subst hw') | (go_at_call 75; refine (limit_any _ _).mono ?_; rintro e w' ⟨rfl, hw'⟩; subst hw'))
    go_ret
    refine ⟨ret_bool ?_, (Below.refl _ _).alloc (Nat.le_refl _) _⟩
    have kbP := upB_t bP
    have kq := upB_f q
    simp [goodL] <;> omega
  by_cases bD : upB l.D 1000 = true
  rotate_left
  · have q : upB l.D 1000 = false := by simpa using bD
    clear bD
    go_enter Try.func70, Try.ntmps70
    go_wp2_with (first | (go_at_call 74; refine (times_any _ _).mono ?_; rintro e w' ⟨rfl, hw'⟩; subst hw') | (go_at_call 75; refine (limit_any _ _).mono ?_; rintro e w' ⟨rfl, hw'⟩; subst hw'))
    go_ret
    refine ⟨ret_bool ?_, (Below.refl _ _).alloc (Nat.le_refl _) _⟩
    have kbP := upB_t bP
    have kbI := upB_t bI
    have kq := upB_f q
    simp [goodL] <;> omega
  by_cases aS : 1 ≤ l.S
  rotate_left
  · go_enter Try.func70, Try.ntmps70
    go_wp2_with (first | (go_at_call 74; refine (times_any _ _).mono ?_; rintro e w' ⟨rfl, hw'⟩; subst hw') | (go_at_call 75; refine (limit_any _ _).mono ?_; rintro e w' ⟨rfl, hw'⟩; subst hw'))
    go_ret
    refine ⟨ret_bool ?_, (Below.refl _ _).alloc (Nat.le_refl _) _⟩
    have kbP := upB_t bP
    have kbI := upB_t bI
    have kbD := upB_t bD
    simp [goodL] <;> omega
  by_cases bS : upB l.S 1000 = true
  rotate_left
  · have q : upB l.S 1000 = false := by simpa using bS
    clear bS
    go_enter Try.func70, Try.ntmps70
    go_wp2_with (first | (go_at_call 74; refine (times_any _ _).mono ?_; rintro e w' ⟨rfl, hw'⟩; subst hw') | (go_at_call 75; refine (limit_any _ _).mono ?_; rintro e w' ⟨rfl, hw'⟩; subst hw'))
    go_ret
    refine ⟨ret_bool ?_, (Below.refl _ _).alloc (Nat.le_refl _) _⟩
    have kbP := upB_t bP
    have kbI := upB_t bI
    have kbD := upB_t bD
    have kq := upB_f q
    simp [goodL] <;> omega
  by_cases aM : 1 ≤ l.M
  rotate_left
  · go_enter Try.func70, Try.ntmps70
    go_wp2_with (first | (go_at_call 74; refine (times_any _ _).mono ?_; rintro e w' ⟨rfl, hw'⟩; subst hw') | (go_at_call 75; refine (limit_any _ _).mono ?_; rintro e w' ⟨rfl, hw'⟩; subst hw'))
    go_ret
    refine ⟨ret_bool ?_, (Below.refl _ _).alloc (Nat.le_refl _) _⟩
    have kbP := upB_t bP
    have kbI := upB_t bI
    have kbD := upB_t bD
    have kbS := upB_t bS
    simp [goodL] <;> omega
  by_cases bM : upB l.M 1000000 = true
  rotate_left
  · have q : upB l.M 1000000 = false := by simpa using bM
    clear bM
    go_enter Try.func70, Try.ntmps70
    go_wp2_with (first | (go_at_call 74; refine (times_any _ _).mono ?_; rintro e w' ⟨rfl, hw'⟩; subst hw') | (go_at_call 75; refine (limit_any _ _).mono ?_; rintro e w' ⟨rfl, hw'⟩; subst hw'))
    go_ret
    refine ⟨ret_bool ?_, (Below.refl _ _).alloc (Nat.le_refl _) _⟩
    have kbP := upB_t bP
    have kbI := upB_t bI
    have kbD := upB_t bD
    have kbS := upB_t bS
    have kq := upB_f q
    simp [goodL] <;> omega
  by_cases bW : upB l.W 1000000 = true
  rotate_left
  · have q : upB l.W 1000000 = false := by simpa using bW
    clear bW
    go_enter Try.func70, Try.ntmps70
    go_wp2_with (first | (go_at_call 74; refine (times_any _ _).mono ?_; rintro e w' ⟨rfl, hw'⟩; subst hw') | (go_at_call 75; refine (limit_any _ _).mono ?_; rintro e w' ⟨rfl, hw'⟩; subst hw'))
    go_ret
    refine ⟨ret_bool ?_, (Below.refl _ _).alloc (Nat.le_refl _) _⟩
    have kbP := upB_t bP
    have kbI := upB_t bI
    have kbD := upB_t bD
    have kbS := upB_t bS
    have kbM := upB_t bM
    have kq := upB_f q
    simp [goodL] <;> omega
  by_cases bL : upB l.L 1000000 = true
  rotate_left
  · have q : upB l.L 1000000 = false := by simpa using bL
    clear bL
    go_enter Try.func70, Try.ntmps70
    go_wp2_with (first | (go_at_call 74; refine (times_any _ _).mono ?_; rintro e w' ⟨rfl, hw'⟩; subst hw') | (go_at_call 75; refine (limit_any _ _).mono ?_; rintro e w' ⟨rfl, hw'⟩; subst hw'))
    go_ret
    refine ⟨ret_bool ?_, (Below.refl _ _).alloc (Nat.le_refl _) _⟩
    have kbP := upB_t bP
    have kbI := upB_t bI
    have kbD := upB_t bD
    have kbS := upB_t bS
    have kbM := upB_t bM
    have kbW := upB_t bW
    have kq := upB_f q
    simp [goodL] <;> omega
  go_enter Try.func70, Try.ntmps70
  go_wp2_with (first | (go_at_call 74; refine (times_any _ _).mono ?_; rintro e w' ⟨rfl, hw'⟩; subst hw') | (go_at_call 75; refine (limit_any _ _).mono ?_; rintro e w' ⟨rfl, hw'⟩; subst hw'))
  go_ret
  refine ⟨ret_bool ?_, (Below.refl _ _).alloc (Nat.le_refl _) _⟩
  have kbP := upB_t bP
  have kbI := upB_t bI
  have kbD := upB_t bD
  have kbS := upB_t bS
  have kbM := upB_t bM
  have kbW := upB_t bW
  have kbL := upB_t bL
  simp [goodL] <;> omega

end Go.Proofs.Ytnoaonflphameaa
