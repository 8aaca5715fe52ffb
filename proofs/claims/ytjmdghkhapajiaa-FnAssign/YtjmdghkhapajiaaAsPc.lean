/- How many bits are set. -/
import Derived.Test.YtjmdghkhapajiaaAsBt
namespace Go.Proofs.Ytjmdghkhapajiaa
open Go.RowKit
/-- how many of the six lowest bits are set -/
def pcN (M : Nat) : Nat := M % 2 + M / 2 % 2 + M / 4 % 2 + M / 8 % 2 + M / 16 % 2 + M / 32 % 2
set_option maxHeartbeats 1000000 in
theorem pc64 (M : Nat) (w : World) (hM : M < 64) : Calls Try.prog 56 #[.int .u64 (M : Int)] w fun e w' => e = .returned (.int .i64 ((pcN M : Nat) : Int)) ∧ w' = w := by
  have i0 : (0 : Int) ≤ (M : Int) := by omega
  have i1 : (M : Int) < 64 := by omega
  go_enter Try.func56, Try.ntmps56
  go_wp2
  go_ret
  refine ⟨ret_int ?_, rfl⟩
  clear i0 i1
  revert M
  decide +kernel
set_option maxHeartbeats 1000000 in
theorem pc_any (M : Nat) (w : World) (hM : M < 64) : Calls Try.prog 49 #[.int .u64 (M : Int)] w fun e w' => e = .returned (.int .i64 ((pcN M : Nat) : Int)) ∧ w' = w := by
  have i0 : (0 : Int) ≤ (M : Int) := by omega
  have i1 : (M : Int) < 64 := by omega
  have k := pc64 M w hM
  go_enter Try.func49, Try.ntmps49
  go_wp2_with (first | (go_at_call 56; refine k.mono ?_; rintro e w' ⟨rfl, hw'⟩; have hs' := hw'.symm; clear hw' k; subst hs') | fail)
  go_ret
  exact ⟨rfl, rfl⟩
theorem pc_or : ∀ t : Fin 6, ∀ M : Fin 64, M.val.testBit t.val = false → pcN (M.val ||| 2 ^ t.val) = pcN M.val + 1 ∧ M.val < M.val ||| 2 ^ t.val := by decide +kernel
theorem pc_up (M t : Nat) (hM : M < 64) (ht : t < 6) (h : M.testBit t = false) : pcN (M ||| 2 ^ t) = pcN M + 1 ∧ M < M ||| 2 ^ t := pc_or ⟨t, ht⟩ ⟨M, hM⟩ h
end Go.Proofs.Ytjmdghkhapajiaa
