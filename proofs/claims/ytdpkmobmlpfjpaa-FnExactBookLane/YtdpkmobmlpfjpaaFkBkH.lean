/- Lists of stamped words, held: what was marked stands. -/
import Derived.Test.YtdpkmobmlpfjpaaFkBkM
namespace Go.Proofs.Ytdpkmobmlpfjpaa
open Go.RowKit
set_option maxHeartbeats 1000000 in
theorem heldBookedT (a : Option Addr) (n cap m lo hi : Nat) (w : World) (hn : n ≤ 1048576) (hm : m ≤ 1048576 * 4) (h : LQ w lo hi a (n * 4) (fun i => (m : Int) + (i : Int))) :
    Calls Try.prog 23 #[.slice a n cap, .int .i64 (m : Int)] w fun e w' => e = .returned (.int .i64 ((m : Int) + ((n * 4 : Nat) : Int))) ∧ w' = w := by
  go_enter Try.func23, Try.ntmps23
  go_wp2
  go_loopw [1, 5] (fun q i wr => ∃ k : Nat, k ≤ n ∧ i = .int .i64 k ∧ q = .int .i64 ((m : Int) + ((k * 4 : Nat) : Int)) ∧ wr = w) (fun _ i _ => n - (intOf i).toNat)
  case atStart => exact ⟨0, Nat.zero_le _, rfl, by simp, rfl⟩
  case round =>
    obtain ⟨k, hk, rfl, rfl, rfl⟩ := hrel
    by_cases hlt : k < n
    · obtain ⟨b, off, rfl, hbw, x0, x1, x2, x3⟩ := il_four4 h.il hlt
      clear h
      have i0 : (0 : Int) ≤ (k : Int) := by omega
      have i1 : (k : Int) < (n : Int) := by omega
      obtain ⟨K, hK⟩ : ∃ K : Int, K = (m : Int) + ((k * 4 : Nat) : Int) := ⟨_, rfl⟩
      have hK0 : 0 ≤ K := by omega
      have hK1 : K ≤ 10000000 := by omega
      rw [← hK] at x0 ⊢
      rw [show (m : Int) + ((k * 4 + 1 : Nat) : Int) = K + 1 by omega] at x1
      rw [show (m : Int) + ((k * 4 + 2 : Nat) : Int) = K + 1 + 1 by omega] at x2
      rw [show (m : Int) + ((k * 4 + 3 : Nat) : Int) = K + 1 + 1 + 1 by omega] at x3
      have HK : Hid (K = (m : Int) + ((k * 4 : Nat) : Int)) := hK
      clear hK
      have y0 : (K != K) = false := by simp
      have y1 : (K + 1 != K + 1) = false := by simp
      have y2 : (K + 1 + 1 != K + 1 + 1) = false := by simp
      have y3 : (K + 1 + 1 + 1 != K + 1 + 1 + 1) = false := by simp
      go_wp2
      have hK := HK.out
      exact ⟨⟨k + 1, by omega, by go_num, by congr 1 <;> omega, trivial⟩, by simp [intOf]; omega⟩
    · have hke : k = n := by omega
      subst hke
      go_wp2
      go_ret
      exact ⟨rfl, rfl⟩
theorem markBookedZ (a : Option Addr) (n cap : Nat) (m : Int) (lo hi : Nat) (F : Nat → Int) (w : World) (hn : n ≤ 1048576) (h0 : 0 ≤ m) (hm : m ≤ 4194304) (h : LQ w lo hi a (n * 4) F) :
    Calls Try.prog 22 #[.slice a n cap, .int .i64 m] w fun e w' => e = .returned (.int .i64 (m + ((n * 4 : Nat) : Int))) ∧ LQ w' lo hi a (n * 4) (fun i => m + (i : Int)) ∧ Turns lo hi w w' := by
  obtain ⟨k, rfl⟩ : ∃ k : Nat, m = (k : Int) := ⟨m.toNat, by omega⟩
  exact markBookedT a n cap k lo hi F w hn (by omega) h
end Go.Proofs.Ytdpkmobmlpfjpaa
