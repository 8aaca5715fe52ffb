/- Tolls held against each other, as the program does it. -/
import Derived.Test.YtfciecoigfnnhaaWyTl
import Derived.BigQuiet
import Derived.Deep.Cut
import Derived.WalkSmall
namespace Go.Proofs.Ytfciecoigfnnhaa
open Go.RowKit

set_option maxHeartbeats 400000 in
theorem isNaN_any (x : Int) (w : World) :
    Calls Try.prog 106 #[.int .i64 x] w fun e w' => e = .returned (.bool false) ∧ w' = w := by
  go_enter Try.func106, Try.ntmps106
  go_wp2
  go_ret
  exact ⟨rfl, rfl⟩
set_option maxHeartbeats 400000 in
theorem cmp_any (x y : Int) (w : World) :
    Calls Try.prog 89 #[.int .i64 x, .int .i64 y] w fun e w' => e = .returned (.int .i64 (cmpI x y)) ∧ w' = w := by
  by_cases h0 : x < y
  · go_enter Try.func89, Try.ntmps89
    go_wp2_with (go_at_call 106; refine (isNaN_any _ _).mono ?_; rintro e w' ⟨rfl, hw'⟩; have hs := hw'.symm; clear hw'; subst hs)
    go_ret
    exact ⟨ret_int (by simp [cmpI, h0]), rfl⟩
  · by_cases h1 : y < x
    · go_enter Try.func89, Try.ntmps89
      go_wp2_with (go_at_call 106; refine (isNaN_any _ _).mono ?_; rintro e w' ⟨rfl, hw'⟩; have hs := hw'.symm; clear hw'; subst hs)
      go_ret
      exact ⟨ret_int (by unfold cmpI; rw [if_neg (by omega), if_pos (by omega)]), rfl⟩
    · go_enter Try.func89, Try.ntmps89
      go_wp2_with (go_at_call 106; refine (isNaN_any _ _).mono ?_; rintro e w' ⟨rfl, hw'⟩; have hs := hw'.symm; clear hw'; subst hs)
      go_ret
      exact ⟨ret_int (by unfold cmpI; rw [if_neg (by omega), if_neg (by omega)]), rfl⟩
set_option maxHeartbeats 400000 in
theorem signSq_any (n : Int) (w : World) (h0 : -1000000 ≤ n) (h1 : n ≤ 1000000) :
    Calls Try.prog 90 #[.int .i64 n] w fun e w' => e = .returned (.int .i64 (sS n)) ∧ w' = w := by
  have k := sizeSign_any n
  have e0 := sS_eq n
  have e1 := sS_le h0 h1
  have b1 : -1000000 ≤ sg1 n * szI n ∧ sg1 n * szI n ≤ 1000000 := by
    unfold sg1 szI; split <;> omega
  generalize szI n = z at *
  generalize sg1 n = s at *
  rw [← e0]
  rw [← e0] at e1
  clear e0
  go_enter Try.func90, Try.ntmps90
  go_wp2_with (go_at_call 87; refine (k _ (by omega)).mono ?_; rintro e w' ⟨rfl, hw'⟩; have hs := hw'.symm; clear hw'; subst hs)
  go_ret
  exact ⟨rfl, rfl⟩
set_option maxHeartbeats 400000 in
theorem tgood_any (a b : Int) (w : World) :
    Calls Try.prog 53 #[tl a b] w fun e w' => e = .returned (.bool (stB a && stB b)) ∧ Below w.heap.size w w' := by
  have hb0 : Below w.heap.size w (w.alloc (.cells #[.int .i64 a, .int .i64 b] 88)) := (Below.refl _ _).alloc (Nat.le_refl _) _
  by_cases h0 : 0 ≤ a
  · by_cases h1 : a ≤ 1000000
    · by_cases h2 : 0 ≤ b
      · by_cases h3 : b ≤ 1000000
        · have e : (stB a && stB b) = true := by simp [stB, *]
          rw [e]
          go_enter Try.func53, Try.ntmps53
          go_wp2
          go_ret
          exact ⟨rfl, hb0⟩
        · have e : (stB a && stB b) = false := by simp [stB, *]
          rw [e]
          go_enter Try.func53, Try.ntmps53
          go_wp2
          go_ret
          exact ⟨rfl, hb0⟩
      · have e : (stB a && stB b) = false := by simp [stB, *]
        rw [e]
        go_enter Try.func53, Try.ntmps53
        go_wp2
        go_ret
        exact ⟨rfl, hb0⟩
    · have e : (stB a && stB b) = false := by simp [stB, *]
      rw [e]
      go_enter Try.func53, Try.ntmps53
      go_wp2
      go_ret
      exact ⟨rfl, hb0⟩
  · have e : (stB a && stB b) = false := by simp [stB, *]
    rw [e]
    go_enter Try.func53, Try.ntmps53
    go_wp2
    go_ret
    exact ⟨rfl, hb0⟩
set_option maxHeartbeats 1000000 in
theorem tcmp_any (a b c d : Int) (w : World) (ha : 0 ≤ a ∧ a ≤ 1000000) (hb : 0 ≤ b ∧ b ≤ 1000000) (hc : 0 ≤ c ∧ c ≤ 1000000) (hd : 0 ≤ d ∧ d ≤ 1000000) :
    Calls Try.prog 54 #[tl a b, tl c d] w fun e w' => e = .returned (.int .i64 (cmpV (a - c) (b - d))) ∧ Below w.heap.size w w' := by
  have hb0 : Below w.heap.size w ((w.alloc (.cells #[.int .i64 a, .int .i64 b] 88)).alloc (.cells #[.int .i64 c, .int .i64 d] 88)) := ((Below.refl _ _).alloc (Nat.le_refl _) _).alloc (by simp) _
  have bA := (bx_new (w := w) [.int .i64 a, .int .i64 b] 88 rfl).alloc (.cells #[.int .i64 c, .int .i64 d] 88)
  have bB := bx_new (w := w.alloc (.cells #[.int .i64 a, .int .i64 b] 88)) (b := w.heap.size + 1) [.int .i64 c, .int .i64 d] 88 (by simp)
  have k1 := fun w => signSq_any (a - c) w (by omega) (by omega)
  have k2 := fun w => signSq_any (d - b) w (by omega) (by omega)
  have k3 := fun w => cmp_any (sS (a - c)) (2 * sS (d - b)) w
  have l1 := sS_le (n := a - c) (by omega) (by omega)
  have l2 := sS_le (n := d - b) (by omega) (by omega)
  have e := tl_cmp (a - c) (b - d)
  rw [Int.neg_sub] at e
  rw [← e]
  clear e
  generalize sS (a - c) = X at *
  generalize sS (d - b) = Y at *
  generalize cmpI X (2 * Y) = V at *
  go_enter Try.func54, Try.ntmps54
  go_upto_region 1 with fail
  generalize (w.alloc (.cells #[.int .i64 a, .int .i64 b] 88)).alloc (.cells #[.int .i64 c, .int .i64 d] 88) = w1 at *
  have x0 := bA.c0
  have x1 := bA.c1
  have y0 := bB.c0
  have y1 := bB.c1
  go_quiet (first | (go_at_call_of 90 (Value.int .i64 (a - c)); exact Calls.quiet_of_same (k1 _)) | (go_at_call_of 90 (Value.int .i64 (d - b)); exact Calls.quiet_of_same (k2 _)) | (go_at_call 89; exact Calls.quiet_of_same (k3 _)))
  go_wp2
  go_ret
  exact ⟨rfl, below_drewN hb0 _⟩
end Go.Proofs.Ytfciecoigfnnhaa
