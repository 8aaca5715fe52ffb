/- Bytes and frames marked by the law, and looked at again. -/
import Derived.Test.YtldagjgpapnfpaaQBuQ
namespace Go.Proofs.Ytldagjgpapnfpaa
open Go.RowKit
theorem VP.cong {w : World} {b n : Nat} {f g : Nat → Value} (h : VP w b n f) (e : ∀ i, i < n → f i = g i) : VP w b n g := ⟨h.lt, fun i hi => by rw [h.c i hi, e i hi], h.fz⟩
/-- the byte that a mark writes -/
def bK (Q : Nat) : Int := IntKind.u8.wrap ((Q : Nat) : Int)
set_option maxRecDepth 20000 in
set_option maxHeartbeats 1000000 in
theorem markB_at (b n cap K : Nat) (F : Nat → Value) (w : World) (hn : n ≤ 1048576) (hK : K ≤ 16777216) (h : VP w b n F) :
    Calls Try.prog 55 #[.slice (some ⟨b, 0, none⟩) n cap, .int .i64 (K : Int)] w fun e w' => e = .returned (.int .i64 ((K + n : Nat) : Int)) ∧ VP w' b n (fun i => .int .u8 (bK (K + i))) ∧ Only b w w' := by
  go_enter Try.func55, Try.ntmps55
  go_wp2
  go_loopw [1, 5] (fun q i wr => ∃ (k Q : Nat) (F' : Nat → Value), k ≤ n ∧ i = .int .i64 k ∧ q = .int .i64 (Q : Int) ∧ Q ≤ 16777216 + k ∧ Hid (Q = K + k) ∧ VP wr b n F' ∧ Hid (∀ j, j < k → F' j = .int .u8 (bK (K + j))) ∧ Only b w wr) (fun _ i _ => n - (intOf i).toNat)
  case atStart => exact ⟨0, K, F, Nat.zero_le _, rfl, rfl, by omega, (rfl : K = K + 0), h, fun j hj => absurd hj (Nat.not_lt_zero _), Only.refl _ _⟩
  case round =>
    obtain ⟨k, Q, F', hk, rfl, rfl, hQ, HQ, hP, HF, hO⟩ := hrel
    clear h
    by_cases hlt : k < n
    · have x0 := hP.c k hlt
      generalize hF0 : F' k = F0 at x0
      have f0 := hP.fz k
      have l0 := hP.lt
      have i0 : (0 : Int) ≤ (k : Int) := by omega
      have i1 : (k : Int) < (n : Int) := by omega
      obtain ⟨Y, hY⟩ : ∃ Y, Y = bK Q := ⟨_, rfl⟩
      have hwv : IntKind.u8.wrap (Q : Int) = Y := hY.symm
      have HP2 : Hid (VP _ b n _) := hP.set hlt (.int .u8 Y)
      have hO2 := hO.set k (.int .u8 Y)
      have HY : Hid (Y = bK (K + k)) := by show Y = _; rw [← HQ.out]; exact hY
      clear hY hP hO hF0
      go_wp2
      refine ⟨⟨k + 1, Q + 1, _, by omega, by go_num, by go_num, by omega, by have := HQ.out; show Q + 1 = K + (k + 1); omega, HP2.out, fun j hj => ?_, hO2⟩, by simp [intOf]; omega⟩
      by_cases e : j = k
      · subst e; rw [if_pos rfl, HY.out]
      · rw [if_neg e]; exact HF.out j (by omega)
    · have hke : k = n := by omega
      subst hke
      go_wp2
      go_ret
      exact ⟨ret_int (by rw [HQ.out]), hP.cong (fun i hi => HF.out i hi), hO⟩
set_option maxRecDepth 20000 in
set_option maxHeartbeats 1000000 in
theorem heldB_at (b n cap K : Nat) (w : World) (hn : n ≤ 1048576) (hK : K ≤ 16777216) (h : VP w b n (fun i => .int .u8 (bK (K + i)))) :
    Calls Try.prog 56 #[.slice (some ⟨b, 0, none⟩) n cap, .int .i64 (K : Int)] w fun e w' => e = .returned (.int .i64 ((K + n : Nat) : Int)) ∧ w' = w := by
  go_enter Try.func56, Try.ntmps56
  go_wp2
  go_loopw [1, 5] (fun q i wr => ∃ k Q : Nat, k ≤ n ∧ i = .int .i64 k ∧ q = .int .i64 (Q : Int) ∧ Q ≤ 16777216 + k ∧ Hid (Q = K + k) ∧ wr = w) (fun _ i _ => n - (intOf i).toNat)
  case atStart => exact ⟨0, K, Nat.zero_le _, rfl, rfl, by omega, (rfl : K = K + 0), rfl⟩
  case round =>
    obtain ⟨k, Q, hk, rfl, rfl, hQ, HQ, hw⟩ := hrel
    subst hw
    by_cases hlt : k < n
    · have x0 : wr.cell? ⟨b, k, none⟩ = some (.int .u8 (bK (K + k))) := h.c k hlt
      have i0 : (0 : Int) ≤ (k : Int) := by omega
      have i1 : (k : Int) < (n : Int) := by omega
      obtain ⟨Y, hY⟩ : ∃ Y, Y = bK (K + k) := ⟨_, rfl⟩
      rw [← hY] at x0
      have hwv : IntKind.u8.wrap (Q : Int) = Y := by rw [hY, ← HQ.out]; rfl
      have HQ2 : Hid (Q + 1 = K + (k + 1)) := by have := HQ.out; show Q + 1 = K + (k + 1); omega
      clear h hY HQ
      go_wp2
      exact ⟨⟨k + 1, Q + 1, by omega, by go_num, by go_num, by omega, HQ2, trivial⟩, by simp [intOf]; omega⟩
    · have hke : k = n := by omega
      subst hke
      clear h
      go_wp2
      go_ret
      exact ⟨ret_int (by rw [HQ.out]), rfl⟩
theorem markB_none (a : Option Addr) (cap K : Nat) (w : World) : Calls Try.prog 55 #[.slice a 0 cap, .int .i64 (K : Int)] w fun e w' => e = .returned (.int .i64 (K : Int)) ∧ w' = w := by
  go_enter Try.func55, Try.ntmps55
  go_wp2
  go_loopw [1, 5] (fun q i wr => i = .int .i64 0 ∧ q = .int .i64 (K : Int) ∧ wr = w) (fun _ _ _ => 0)
  case atStart => exact ⟨rfl, rfl, rfl⟩
  case round =>
    obtain ⟨rfl, rfl, hw⟩ := hrel
    subst hw
    go_wp2
    go_ret
    exact ⟨rfl, rfl⟩
theorem heldB_none (a : Option Addr) (cap K : Nat) (w : World) : Calls Try.prog 56 #[.slice a 0 cap, .int .i64 (K : Int)] w fun e w' => e = .returned (.int .i64 (K : Int)) ∧ w' = w := by
  go_enter Try.func56, Try.ntmps56
  go_wp2
  go_loopw [1, 5] (fun q i wr => i = .int .i64 0 ∧ q = .int .i64 (K : Int) ∧ wr = w) (fun _ _ _ => 0)
  case atStart => exact ⟨rfl, rfl, rfl⟩
  case round =>
    obtain ⟨rfl, rfl, hw⟩ := hrel
    subst hw
    go_wp2
    go_ret
    exact ⟨rfl, rfl⟩
theorem markBy (a : Option Addr) (n cap K lo hi : Nat) (F : Nat → Value) (w : World) (hn : n ≤ 1048576) (hK : K ≤ 16777216) (h : VQ w lo hi a n F) :
    Calls Try.prog 55 #[.slice a n cap, .int .i64 (K : Int)] w fun e w' => e = .returned (.int .i64 ((K + n : Nat) : Int)) ∧ VQ w' lo hi a n (fun i => .int .u8 (bK (K + i))) ∧ Turns lo hi w w' := by
  by_cases h0 : 0 < n
  · obtain ⟨b, rfl, h1, h2, hP⟩ := h h0
    exact (markB_at b n cap K _ w hn hK hP).mono fun e w' ⟨h3, h4, h5⟩ => ⟨h3, fun _ => ⟨b, rfl, h1, h2, h4⟩, (OnlyIn.of h5 h1 h2).turns⟩
  · obtain rfl : n = 0 := by omega
    exact (markB_none a cap K w).mono fun e w' ⟨h3, h4⟩ => ⟨h3, vq_none _ _ _ _ _, by rw [h4]; exact turns_of (Below.refl _ _)⟩
theorem heldBy (a : Option Addr) (n cap K lo hi : Nat) (w : World) (hn : n ≤ 1048576) (hK : K ≤ 16777216) (h : VQ w lo hi a n (fun i => .int .u8 (bK (K + i)))) :
    Calls Try.prog 56 #[.slice a n cap, .int .i64 (K : Int)] w fun e w' => e = .returned (.int .i64 ((K + n : Nat) : Int)) ∧ w' = w := by
  by_cases h0 : 0 < n
  · obtain ⟨b, rfl, h1, h2, hP⟩ := h h0
    exact heldB_at b n cap K w hn hK hP
  · obtain rfl : n = 0 := by omega
    exact heldB_none a cap K w
end Go.Proofs.Ytldagjgpapnfpaa
