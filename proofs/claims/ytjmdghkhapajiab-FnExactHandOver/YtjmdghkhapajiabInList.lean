/- The law's own marks of a list of ints. -/
import Derived.Test.YtjmdghkhapajiabInCopy
namespace Go.Proofs.Ytjmdghkhapajiab
open Go.RowKit

set_option maxHeartbeats 1000000 in
theorem markP_any (b n cap m : Nat) (F : Nat → Int) (w : World) (hn : n ≤ 1048576) (hm : m ≤ 1048576 * 16) (h : IP w b n F) :
    Calls Try.prog 12 #[.slice (some ⟨b, 0, none⟩) n cap, .int .i64 (m : Int)] w fun e w' => e = .returned (.int .i64 ((m : Int) + (n : Int))) ∧ IP w' b n (fun i => (m : Int) + (i : Int)) ∧ Only b w w' := by
  go_enter Try.func12, Try.ntmps12
  go_wp2
  go_loopw [1, 5] (fun q i wr => ∃ (k : Nat) (F' : Nat → Int), k ≤ n ∧ i = .int .i64 k ∧ q = .int .i64 ((m : Int) + (k : Int)) ∧ IP wr b n F' ∧ (∀ j, j < k → F' j = (m : Int) + (j : Int)) ∧ Only b w wr) (fun _ i _ => n - (intOf i).toNat)
  case atStart => exact ⟨0, F, Nat.zero_le _, rfl, by simp, h, fun j hj => absurd hj (Nat.not_lt_zero _), Only.refl _ _⟩
  case round =>
    obtain ⟨k, F', hk, rfl, rfl, hP, hF, hO⟩ := hrel
    clear h
    by_cases hlt : k < n
    · have x0 := hP.c k hlt
      have f0 := hP.fz k
      have i0 : (0 : Int) ≤ (k : Int) := by omega
      have i1 : (k : Int) < (n : Int) := by omega
      go_wp2
      refine ⟨⟨k + 1, _, by omega, by go_num, by congr 1 <;> omega, hP.set hlt _, fun j hj => ?_, hO.set _ _⟩, by simp [intOf]; omega⟩
      unfold put
      by_cases e : j = k
      · subst e; simp
      · rw [if_neg e]; exact hF j (by omega)
    · have hke : k = n := by omega
      subst hke
      go_wp2
      go_ret
      exact ⟨rfl, hP.congr hF, hO⟩

set_option maxHeartbeats 1000000 in
theorem heldP_any (b n cap m : Nat) (w : World) (hn : n ≤ 1048576) (hm : m ≤ 1048576 * 16) (h : IP w b n (fun i => (m : Int) + (i : Int))) :
    Calls Try.prog 21 #[.slice (some ⟨b, 0, none⟩) n cap, .int .i64 (m : Int)] w fun e w' => e = .returned (.int .i64 ((m : Int) + (n : Int))) ∧ w' = w := by
  go_enter Try.func21, Try.ntmps21
  go_wp2
  go_loopw [1, 5] (fun q i wr => ∃ k : Nat, k ≤ n ∧ i = .int .i64 k ∧ q = .int .i64 ((m : Int) + (k : Int)) ∧ wr = w) (fun _ i _ => n - (intOf i).toNat)
  case atStart => exact ⟨0, Nat.zero_le _, rfl, by simp, rfl⟩
  case round =>
    obtain ⟨k, hk, rfl, rfl, hw⟩ := hrel
    subst hw
    by_cases hlt : k < n
    · have x0 := h.c k hlt
      have i0 : (0 : Int) ≤ (k : Int) := by omega
      have i1 : (k : Int) < (n : Int) := by omega
      clear h
      go_wp2
      exact ⟨⟨k + 1, by omega, by go_num, by congr 1 <;> omega, trivial⟩, by simp [intOf]; omega⟩
    · have hke : k = n := by omega
      subst hke
      clear h
      go_wp2
      go_ret
      exact ⟨rfl, rfl⟩

set_option maxHeartbeats 400000 in
theorem markI_zero (a : Option Addr) (cap m : Nat) (w : World) :
    Calls Try.prog 12 #[.slice a 0 cap, .int .i64 (m : Int)] w fun e w' => e = .returned (.int .i64 (m : Int)) ∧ w' = w := by
  go_enter Try.func12, Try.ntmps12
  go_wp2
  go_loopw [1, 5] (fun q i wr => i = .int .i64 0 ∧ q = .int .i64 (m : Int) ∧ wr = w) (fun _ _ _ => 0)
  case atStart => exact ⟨rfl, rfl, rfl⟩
  case round =>
    obtain ⟨rfl, rfl, rfl⟩ := hrel
    go_wp2
    go_ret
    exact ⟨rfl, rfl⟩
set_option maxHeartbeats 400000 in
theorem heldI_zero (a : Option Addr) (cap m : Nat) (w : World) :
    Calls Try.prog 21 #[.slice a 0 cap, .int .i64 (m : Int)] w fun e w' => e = .returned (.int .i64 (m : Int)) ∧ w' = w := by
  go_enter Try.func21, Try.ntmps21
  go_wp2
  go_loopw [1, 5] (fun q i wr => i = .int .i64 0 ∧ q = .int .i64 (m : Int) ∧ wr = w) (fun _ _ _ => 0)
  case atStart => exact ⟨rfl, rfl, rfl⟩
  case round =>
    obtain ⟨rfl, rfl, rfl⟩ := hrel
    go_wp2
    go_ret
    exact ⟨rfl, rfl⟩
end Go.Proofs.Ytjmdghkhapajiab
