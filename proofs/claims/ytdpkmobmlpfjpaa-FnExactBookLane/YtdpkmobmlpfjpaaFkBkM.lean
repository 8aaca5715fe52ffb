/- Lists of a struct of four ints, marked. -/
import Derived.Test.YtdpkmobmlpfjpaaFkBk
namespace Go.Proofs.Ytdpkmobmlpfjpaa
open Go.RowKit
set_option maxHeartbeats 1000000 in
theorem markBooked_ip (b n cap m : Nat) (F : Nat → Int) (w : World) (hn : n ≤ 1048576) (hm : m ≤ 1048576 * 4) (h : IP w b (n * 4) F) :
    Calls Try.prog 22 #[.slice (some ⟨b, 0, none⟩) n cap, .int .i64 (m : Int)] w fun e w' => e = .returned (.int .i64 ((m : Int) + ((n * 4 : Nat) : Int))) ∧ IP w' b (n * 4) (fun i => (m : Int) + (i : Int)) ∧ Only b w w' := by
  go_enter Try.func22, Try.ntmps22
  go_wp2
  go_loopw [1, 5] (fun q i wr => ∃ (k : Nat) (F' : Nat → Int), k ≤ n ∧ i = .int .i64 k ∧ q = .int .i64 ((m : Int) + ((k * 4 : Nat) : Int)) ∧ IP wr b (n * 4) F' ∧ (∀ j, j < k * 4 → F' j = (m : Int) + (j : Int)) ∧ Only b w wr) (fun _ i _ => n - (intOf i).toNat)
  case atStart => exact ⟨0, F, Nat.zero_le _, rfl, by simp, h, fun j hj => absurd hj (by omega), Only.refl _ _⟩
  case round =>
    obtain ⟨k, F', hk, rfl, rfl, hP, hF, hO⟩ := hrel
    clear h
    by_cases hlt : k < n
    · obtain ⟨x0, x1, x2, x3⟩ := ip_four4 hP hlt
      have f0 := hP.fz (k * 4)
      have f1 := hP.fz (k * 4 + 1)
      have f2 := hP.fz (k * 4 + 2)
      have f3 := hP.fz (k * 4 + 3)
      have i0 : (0 : Int) ≤ (k : Int) := by omega
      have i1 : (k : Int) < (n : Int) := by omega
      obtain ⟨K, hK⟩ : ∃ K : Int, K = (m : Int) + ((k * 4 : Nat) : Int) := ⟨_, rfl⟩
      have hK0 : 0 ≤ K := by omega
      have hK1 : K ≤ 10000000 := by omega
      have HK : Hid (K = (m : Int) + ((k * 4 : Nat) : Int)) := hK
      rw [← hK]
      clear hK
      go_wp2
      have hK := HK.out
      refine ⟨⟨k + 1, _, by omega, by go_num, by congr 1 <;> omega, (((hP.set (k := k * 4) (by omega) _).set (k := k * 4 + 1) (by omega) _).set (k := k * 4 + 2) (by omega) _).set (k := k * 4 + 3) (by omega) _, fun j hj => ?_, (((hO.set _ _).set _ _).set _ _).set _ _⟩, by simp [intOf]; omega⟩
      unfold put
      by_cases e3 : j = k * 4 + 3
      · rw [if_pos e3]; omega
      rw [if_neg e3]
      by_cases e2 : j = k * 4 + 2
      · rw [if_pos e2]; omega
      rw [if_neg e2]
      by_cases e1 : j = k * 4 + 1
      · rw [if_pos e1]; omega
      rw [if_neg e1]
      by_cases e0 : j = k * 4
      · rw [if_pos e0]; omega
      rw [if_neg e0]
      exact hF j (by omega)
    · have hke : k = n := by omega
      subst hke
      go_wp2
      go_ret
      exact ⟨rfl, hP.congr hF, hO⟩
set_option maxHeartbeats 400000 in
theorem markBooked_zero (a : Option Addr) (cap m : Nat) (w : World) :
    Calls Try.prog 22 #[.slice a 0 cap, .int .i64 (m : Int)] w fun e w' => e = .returned (.int .i64 (m : Int)) ∧ w' = w := by
  go_enter Try.func22, Try.ntmps22
  go_wp2
  go_loopw [1, 5] (fun q i wr => i = .int .i64 0 ∧ q = .int .i64 (m : Int) ∧ wr = w) (fun _ _ _ => 0)
  case atStart => exact ⟨rfl, rfl, rfl⟩
  case round =>
    obtain ⟨rfl, rfl, rfl⟩ := hrel
    go_wp2
    go_ret
    exact ⟨rfl, rfl⟩
theorem markBookedT (a : Option Addr) (n cap m lo hi : Nat) (F : Nat → Int) (w : World) (hn : n ≤ 1048576) (hm : m ≤ 1048576 * 4) (h : LQ w lo hi a (n * 4) F) :
    Calls Try.prog 22 #[.slice a n cap, .int .i64 (m : Int)] w fun e w' => e = .returned (.int .i64 ((m : Int) + ((n * 4 : Nat) : Int))) ∧ LQ w' lo hi a (n * 4) (fun i => (m : Int) + (i : Int)) ∧ Turns lo hi w w' := by
  by_cases h0 : 0 < n
  · obtain ⟨b, rfl, h1, h2, hP⟩ := h (by omega)
    exact (markBooked_ip b n cap m F w hn hm hP).mono fun e w' ⟨h3, h4, h5⟩ => ⟨h3, lq_of h4 h1 h2, (OnlyIn.of h5 h1 h2).turns⟩
  · have : n = 0 := by omega
    subst this
    refine (markBooked_zero a cap m w).mono fun e w' ⟨h3, h4⟩ => ?_
    subst h4
    exact ⟨by rw [h3]; simp, lq_none _ _ _ _ _, (OnlyIn.refl _ _ _).turns⟩
end Go.Proofs.Ytdpkmobmlpfjpaa
