/- The greatest common divisor, as both reckon it. -/
import Derived.Test.YtnpbogabmnidcaaSpBase
import Derived.BigRegion
namespace Go.Proofs.Ytnpbogabmnidcaa
open Go.RowKit

theorem ret_int {a b : Int} (h : a = b) : Ending.returned (.int .i64 a) = .returned (.int .i64 b) := by rw [h]
theorem val_int {a b : Int} (h : a = b) : Value.int .i64 a = .int .i64 b := by rw [h]
theorem wrap_id {n : Int} (h0 : -9223372036854775808 ≤ n) (h1 : n ≤ 9223372036854775807) : wrap64 n = n := by unfold wrap64; omega

set_option maxHeartbeats 400000 in
theorem l4Abs_any (n : Int) (w : World) (h0 : -4611686018427387904 ≤ n) (h1 : n ≤ 4611686018427387904) :
    Calls Try.prog 28 #[.int .i64 n] w fun e w' => e = .returned (.int .i64 (n.natAbs : Int)) ∧ w' = w := by
  by_cases h : n < 0
  · go_enter Try.func28, Try.ntmps28
    go_wp2
    go_ret
    exact ⟨ret_int (by omega), rfl⟩
  · go_enter Try.func28, Try.ntmps28
    go_wp2
    go_ret
    exact ⟨ret_int (by omega), rfl⟩

theorem gcd_next (m k : Nat) : Nat.gcd k (m % k) = Nat.gcd m k := by
  rw [Nat.gcd_comm m k, Nat.gcd_rec k m, Nat.gcd_comm]

set_option maxHeartbeats 400000 in
theorem l4Gcd_any (a b : Int) (w : World) (ha : -4611686018427387904 ≤ a ∧ a ≤ 4611686018427387904) (hb : -4611686018427387904 ≤ b ∧ b ≤ 4611686018427387904) :
    Calls Try.prog 25 #[.int .i64 a, .int .i64 b] w fun e w' => e = .returned (.int .i64 (Int.gcd a b : Int)) ∧ w' = w := by
  go_enter Try.func25, Try.ntmps25
  go_wp2_with fail
  refine (l4Abs_any a _ ha.1 ha.2).mono ?_
  rintro e w' ⟨rfl, hw'⟩
  subst hw'
  go_wp2_with fail
  refine (l4Abs_any b _ hb.1 hb.2).mono ?_
  rintro e w'' ⟨rfl, hw''⟩
  subst hw''
  go_wp2_with fail
  go_loop [0, 1] (fun x y => ∃ m k : Nat, x = .int .i64 (m : Int) ∧ y = .int .i64 (k : Int) ∧ (m : Int) ≤ 4611686018427387904 ∧ (k : Int) ≤ 4611686018427387904 ∧ Nat.gcd m k = Int.gcd a b) (fun _ y => (intOf y).toNat)
  case atStart => exact ⟨a.natAbs, b.natAbs, rfl, rfl, by omega, by omega, rfl⟩
  case round =>
    obtain ⟨m, k, rfl, rfl, hm, hk, hg⟩ := hrel
    by_cases hz : (k : Int) = 0
    · have hk0 : k = 0 := by omega
      subst hk0
      have HG : Hid (Nat.gcd m 0 = Int.gcd a b) := hg
      clear hg hz
      go_wp2
      go_ret
      exact ⟨ret_int (by rw [← HG.out, Nat.gcd_zero_right]), rfl⟩
    · have hz' : ((k : Int) != 0) = true := by simpa using hz
      have HG : Hid (Nat.gcd m k = Int.gcd a b) := hg
      clear hg
      have hlt : m % k < k := Nat.mod_lt _ (by omega)
      have HL : Hid (m % k < k) := hlt
      clear hlt
      go_wp2
      go_round
      case rel => exact ⟨k, m % k, rfl, rfl, hk, by have := HL.out; omega, (gcd_next m k).trans HG.out⟩
      case measure =>
        have := HL.out
        have e : ((m : Int) % (k : Int)) = ((m % k : Nat) : Int) := rfl
        simp only [intOf, e]
        omega

theorem gcd_step (m k : Int) : Int.gcd k (Int.tmod m k) = Int.gcd m k := by
  unfold Int.gcd
  rw [Int.natAbs_tmod]
  exact gcd_next _ _

theorem tmod_less (m k : Int) (hz : ¬ k = 0) : (Int.tmod m k).natAbs < k.natAbs := by
  rw [Int.natAbs_tmod]
  exact Nat.mod_lt _ (by omega)
theorem tmod_in (m k : Int) (hk : -4611686018427387904 ≤ k ∧ k ≤ 4611686018427387904) (hz : ¬ k = 0) : -4611686018427387904 ≤ Int.tmod m k ∧ Int.tmod m k ≤ 4611686018427387904 := by
  have := tmod_less m k hz
  omega

set_option maxHeartbeats 400000 in
theorem common_any (a b : Int) (w : World) (ha : -4611686018427387904 ≤ a ∧ a ≤ 4611686018427387904) (hb : -4611686018427387904 ≤ b ∧ b ≤ 4611686018427387904) :
    Calls Try.prog 29 #[.int .i64 a, .int .i64 b] w fun e w' => e = .returned (.int .i64 (Int.gcd a b : Int)) ∧ ∃ n, w' = w.drewN n := by
  go_enter Try.func29, Try.ntmps29
  go_wp2_with fail
  go_loopw [0, 1] (fun x y wr => ∃ (m k : Int) (n : Nat), x = .int .i64 m ∧ y = .int .i64 k ∧ (-4611686018427387904 ≤ m ∧ m ≤ 4611686018427387904) ∧ (-4611686018427387904 ≤ k ∧ k ≤ 4611686018427387904) ∧ Int.gcd m k = Int.gcd a b ∧ wr = w.drewN n) (fun _ y _ => (intOf y).natAbs)
  case atStart => exact ⟨a, b, 0, rfl, rfl, ha, hb, rfl, rfl⟩
  case round =>
    obtain ⟨m, k, n, rfl, rfl, hm, hk, hg, hw⟩ := hrel
    have HW : Hid (wr = w.drewN n) := hw
    clear hw
    have HG : Hid (Int.gcd m k = Int.gcd a b) := hg
    clear hg
    by_cases hz : k = 0
    · subst hz
      go_wp2
      all_goals
        go_ret
        refine ⟨ret_int ?_, n, HW.out⟩
        have hg := HG.out
        rw [← hg, Int.gcd_zero_right]
        omega
    · have hz' : (k != 0) = true := by simpa using hz
      go_wp2_with fail
      go_region
      all_goals
        go_wp2
        go_round
        case rel =>
          exact ⟨k, Int.tmod m k, n + 1, rfl, rfl, hk, tmod_in m k hk hz, (gcd_step m k).trans HG.out, by rw [HW.out]; rfl⟩
        case measure =>
          simp only [intOf]
          exact tmod_less m k hz
end Go.Proofs.Ytnpbogabmnidcaa
