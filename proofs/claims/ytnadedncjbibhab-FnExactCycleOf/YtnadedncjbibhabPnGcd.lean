/- The greatest common divisor of numbers that are not below nought, as both reckon it. -/
import Derived.Test.YtnadedncjbibhabPnM
import Derived.BigRegion
import Derived.BigQuiet
namespace Go.Proofs.Ytnadedncjbibhab
open Go.RowKit
theorem gcd_next (m k : Nat) : Nat.gcd k (m % k) = Nat.gcd m k := by
  rw [Nat.gcd_comm m k, Nat.gcd_rec k m, Nat.gcd_comm]
/-- the greatest common divisor of two ints that are not below nought -/
def gcI (a b : Int) : Int := (Nat.gcd a.toNat b.toNat : Int)
set_option maxHeartbeats 400000 in
theorem sAbs (n : Int) (w : World) (h0 : 0 ≤ n) :
    Calls Try.prog 18 #[.int .i64 n] w fun e w' => e = .returned (.int .i64 n) ∧ w' = w := by
  have h : ¬ n < 0 := by omega
  go_enter Try.func18, Try.ntmps18
  go_wp2
  go_ret
  exact ⟨rfl, rfl⟩
set_option maxHeartbeats 400000 in
theorem sGcd (a b : Int) (w : World) (ha : 0 ≤ a ∧ a ≤ 4611686018427387904) (hb : 0 ≤ b ∧ b ≤ 4611686018427387904) :
    Calls Try.prog 15 #[.int .i64 a, .int .i64 b] w fun e w' => e = .returned (.int .i64 (gcI a b)) ∧ w' = w := by
  go_enter Try.func15, Try.ntmps15
  go_wp2_with fail
  refine (sAbs a _ ha.1).mono ?_
  rintro e w' ⟨rfl, hw'⟩
  subst hw'
  go_wp2_with fail
  refine (sAbs b _ hb.1).mono ?_
  rintro e w'' ⟨rfl, hw''⟩
  subst hw''
  go_wp2_with fail
  go_loop [0, 1] (fun x y => ∃ m k : Nat, x = .int .i64 (m : Int) ∧ y = .int .i64 (k : Int) ∧ (m : Int) ≤ 4611686018427387904 ∧ (k : Int) ≤ 4611686018427387904 ∧ Hid (((Nat.gcd m k : Nat) : Int) = gcI a b)) (fun _ y => (intOf y).toNat)
  case atStart => exact ⟨a.toNat, b.toNat, by rw [Int.toNat_of_nonneg ha.1], by rw [Int.toNat_of_nonneg hb.1], by omega, by omega, (rfl : ((Nat.gcd a.toNat b.toNat : Nat) : Int) = gcI a b)⟩
  case round =>
    obtain ⟨m, k, rfl, rfl, hm, hk, HG⟩ := hrel
    by_cases hz : (k : Int) = 0
    · have hk0 : k = 0 := by omega
      subst hk0
      clear hz
      go_wp2
      go_ret
      exact ⟨ret_int (by rw [← HG.out, Nat.gcd_zero_right]), rfl⟩
    · have hz' : ((k : Int) != 0) = true := by simpa using hz
      have HL : Hid (m % k < k) := Nat.mod_lt _ (by omega)
      go_wp2
      go_round
      case rel => exact ⟨k, m % k, rfl, rfl, hk, by have := HL.out; omega, by have q := HG.out; rw [← gcd_next] at q; exact q⟩
      case measure => have := HL.out; simp [intOf]; omega
set_option maxHeartbeats 400000 in
theorem iGcd (a b : Int) (w : World) (ha : 0 ≤ a ∧ a ≤ 4611686018427387904) (hb : 0 ≤ b ∧ b ≤ 4611686018427387904) :
    Calls Try.prog 17 #[.int .i64 a, .int .i64 b] w fun e w' => e = .returned (.int .i64 (gcI a b)) ∧ Below w.heap.size w w' := by
  go_enter Try.func17, Try.ntmps17
  go_wp2_with fail
  go_loopw [0, 1] (fun x y wr => ∃ m k : Nat, x = .int .i64 (m : Int) ∧ y = .int .i64 (k : Int) ∧ (m : Int) ≤ 4611686018427387904 ∧ (k : Int) ≤ 4611686018427387904 ∧ Hid (((Nat.gcd m k : Nat) : Int) = gcI a b) ∧ Below w.heap.size w wr) (fun _ y _ => (intOf y).toNat)
  case atStart => exact ⟨a.toNat, b.toNat, by rw [Int.toNat_of_nonneg ha.1], by rw [Int.toNat_of_nonneg hb.1], by omega, by omega, (rfl : ((Nat.gcd a.toNat b.toNat : Nat) : Int) = gcI a b), Below.refl _ _⟩
  case round =>
    obtain ⟨m, k, rfl, rfl, hm, hk, HG, hB⟩ := hrel
    by_cases hz : (k : Int) = 0
    · have hk0 : k = 0 := by omega
      subst hk0
      clear hz
      go_wp2
      go_ret
      exact ⟨ret_int (by rw [← HG.out, Nat.gcd_zero_right]), hB⟩
    · have hz' : ((k : Int) != 0) = true := by simpa using hz
      have HL : Hid (m % k < k) := Nat.mod_lt _ (by omega)
      go_wp2_with fail
      go_region
      go_wp2
      go_roundw
      case rel => exact ⟨k, m % k, rfl, rfl, hk, by have := HL.out; omega, by have q := HG.out; rw [← gcd_next] at q; exact q, hB.drew⟩
      case measure => have := HL.out; simp [intOf]; omega
end Go.Proofs.Ytnadedncjbibhab
