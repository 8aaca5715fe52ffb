/- The law's own functions on lists of floats: marks. -/
import Derived.Test.YtfciecoigfnnhaaFqList
namespace Go.Proofs.Ytfciecoigfnnhaa
open Go.RowKit

/-- a mark -/
def cv (n : Int) : Nat := floatOfInt .f64 n
theorem word_rung (s : Bool) {r : Nat} (h : r < 9223372036854775808) : rung (D.word s r) = r := by
  have hr : ∀ m, rung m = m % 9223372036854775808 := fun _ => rfl
  rw [hr]
  unfold Ieee.Format.word
  have e : D.signWeight = 9223372036854775808 := rfl
  rw [e]
  cases s
  · simp only [Bool.false_eq_true, if_false]; omega
  · simp only [if_true]; omega
theorem near_rung (s : Bool) (m : Nat) (p : Int) : rung (D.nearest s m p) ≤ INF := by
  have hi : D.infRung = INF := rfl
  have hl : INF < 9223372036854775808 := by decide
  unfold Ieee.Format.nearest
  split
  · rw [word_rung _ (by decide)]; exact Nat.zero_le _
  · simp only []
    rw [hi, word_rung _ (Nat.lt_of_le_of_lt (Nat.min_le_right _ _) hl)]
    exact Nat.min_le_right _ _
theorem cv_rung (n : Int) : rung (cv n) ≤ INF := near_rung _ _ _
theorem cv_ne (n : Int) : (FloatKind.f64.format.order (cv n) (cv n) != some .eq) = false := by
  rw [nan_ord]
  unfold nanB
  have := cv_rung n
  simp; omega

set_option maxHeartbeats 1000000 in
theorem markF_some (b n cap m : Nat) (F : Nat → Nat) (w : World) (hn : n ≤ 1048576) (hm : m ≤ 1048576 * 4) (h : FP w b n F) :
    Calls Try.prog 67 #[.slice (some ⟨b, 0, none⟩) n cap, .int .i64 (m : Int)] w fun e w' => e = .returned (.int .i64 ((m : Int) + (n : Int))) ∧ FP w' b n (fun i => cv ((m : Int) + (i : Int))) ∧ Only b w w' := by
  go_enter Try.func67, Try.ntmps67
  go_wp2
  go_loopw [1, 5] (fun q i wr => ∃ (k : Nat) (F' : Nat → Nat), k ≤ n ∧ i = .int .i64 k ∧ q = .int .i64 ((m : Int) + (k : Int)) ∧ FP wr b n F' ∧ (∀ j, j < k → F' j = cv ((m : Int) + (j : Int))) ∧ Only b w wr) (fun _ i _ => n - (intOf i).toNat)
  case atStart => exact ⟨0, F, Nat.zero_le _, rfl, by simp, h, fun j hj => absurd hj (Nat.not_lt_zero _), Only.refl _ _⟩
  case round =>
    obtain ⟨k, F', hk, rfl, rfl, hP, hm', hO⟩ := hrel
    clear h
    by_cases hlt : k < n
    · have x0 := hP.c k hlt
      have f0 := hP.fz k
      have i0 : (0 : Int) ≤ (k : Int) := by omega
      have i1 : (k : Int) < (n : Int) := by omega
      have hP' := hP.set hlt (floatOfInt .f64 ((m : Int) + (k : Int)))
      have hm2 : ∀ j, j < k + 1 → putF F' k (floatOfInt .f64 ((m : Int) + (k : Int))) j = cv ((m : Int) + (j : Int)) := fun j hj => by
        unfold putF
        by_cases e : j = k
        · subst e; simp [cv]
        · rw [if_neg e]; exact hm' j (by omega)
      have hO' := hO.set k (.float .f64 (floatOfInt .f64 ((m : Int) + (k : Int))))
      clear hP hm' hO
      go_wp2
      exact ⟨⟨k + 1, _, by omega, by go_num, by congr 1 <;> omega, hP', hm2, hO'⟩, by simp [intOf]; omega⟩
    · have hke : k = n := by omega
      subst hke
      go_wp2
      go_ret
      exact ⟨rfl, hP.congr hm', hO⟩
set_option maxHeartbeats 400000 in
theorem markF_zero (a : Option Addr) (cap m : Nat) (w : World) :
    Calls Try.prog 67 #[.slice a 0 cap, .int .i64 (m : Int)] w fun e w' => e = .returned (.int .i64 (m : Int)) ∧ w' = w := by
  go_enter Try.func67, Try.ntmps67
  go_wp2
  go_loopw [1, 5] (fun q i wr => q = .int .i64 (m : Int) ∧ i = .int .i64 0 ∧ wr = w) (fun _ _ _ => 0)
  case atStart => exact ⟨rfl, rfl, rfl⟩
  case round =>
    obtain ⟨rfl, rfl, hw⟩ := hrel
    subst hw
    go_wp2
    go_ret
    exact ⟨rfl, rfl⟩
theorem markF (a : Option Addr) (n cap m lo hi : Nat) (F : Nat → Nat) (w : World) (hn : n ≤ 1048576) (hm : m ≤ 1048576 * 4) (h : FQ w lo hi a n F) :
    Calls Try.prog 67 #[.slice a n cap, .int .i64 (m : Int)] w fun e w' => e = .returned (.int .i64 ((m : Int) + (n : Int))) ∧ FQ w' lo hi a n (fun i => cv ((m : Int) + (i : Int))) ∧ Turns lo hi w w' := by
  by_cases h0 : 0 < n
  · obtain ⟨b, rfl, h1, h2, hP⟩ := h h0
    exact (markF_some b n cap m F w hn hm hP).mono fun e w' ⟨h3, h4, h5⟩ => ⟨h3, fq_of h4 h1 h2, (OnlyIn.of h5 h1 h2).turns⟩
  · have : n = 0 := by omega
    subst this
    refine (markF_zero a cap m w).mono fun e w' ⟨h3, h4⟩ => ?_
    subst h4
    exact ⟨by rw [h3]; simp, fq_none _ _ _ _ _, (OnlyIn.refl _ _ _).turns⟩

set_option maxHeartbeats 1000000 in
theorem heldF_some (b n cap m : Nat) (w : World) (hn : n ≤ 1048576) (hm : m ≤ 1048576 * 4) (h : FP w b n (fun i => cv ((m : Int) + (i : Int)))) :
    Calls Try.prog 68 #[.slice (some ⟨b, 0, none⟩) n cap, .int .i64 (m : Int)] w fun e w' => e = .returned (.int .i64 ((m : Int) + (n : Int))) ∧ w' = w := by
  go_enter Try.func68, Try.ntmps68
  go_wp2
  go_loopw [1, 5] (fun q i wr => ∃ k : Nat, k ≤ n ∧ i = .int .i64 k ∧ q = .int .i64 ((m : Int) + (k : Int)) ∧ wr = w) (fun _ i _ => n - (intOf i).toNat)
  case atStart => exact ⟨0, Nat.zero_le _, rfl, by simp, rfl⟩
  case round =>
    obtain ⟨k, hk, rfl, rfl, hw⟩ := hrel
    subst hw
    by_cases hlt : k < n
    · have x0 := h.c k hlt
      have i0 : (0 : Int) ≤ (k : Int) := by omega
      have i1 : (k : Int) < (n : Int) := by omega
      have e0 := cv_ne ((m : Int) + (k : Int))
      unfold cv at x0 e0
      clear h
      go_wp2
      exact ⟨⟨k + 1, by omega, by go_num, by congr 1 <;> omega, trivial⟩, by simp [intOf]; omega⟩
    · have hke : k = n := by omega
      subst hke
      clear h
      go_wp2
      go_ret
      exact ⟨rfl, rfl⟩
set_option maxHeartbeats 400000 in
theorem heldF_zero (a : Option Addr) (cap m : Nat) (w : World) :
    Calls Try.prog 68 #[.slice a 0 cap, .int .i64 (m : Int)] w fun e w' => e = .returned (.int .i64 (m : Int)) ∧ w' = w := by
  go_enter Try.func68, Try.ntmps68
  go_wp2
  go_loopw [1, 5] (fun q i wr => q = .int .i64 (m : Int) ∧ i = .int .i64 0 ∧ wr = w) (fun _ _ _ => 0)
  case atStart => exact ⟨rfl, rfl, rfl⟩
  case round =>
    obtain ⟨rfl, rfl, hw⟩ := hrel
    subst hw
    go_wp2
    go_ret
    exact ⟨rfl, rfl⟩
theorem heldF (a : Option Addr) (n cap m lo hi : Nat) (w : World) (hn : n ≤ 1048576) (hm : m ≤ 1048576 * 4) (h : FQ w lo hi a n (fun i => cv ((m : Int) + (i : Int)))) :
    Calls Try.prog 68 #[.slice a n cap, .int .i64 (m : Int)] w fun e w' => e = .returned (.int .i64 ((m : Int) + (n : Int))) ∧ w' = w := by
  by_cases h0 : 0 < n
  · obtain ⟨b, rfl, h1, h2, hP⟩ := h h0
    exact heldF_some b n cap m w hn hm hP
  · have : n = 0 := by omega
    subst this
    exact (heldF_zero a cap m w).mono fun e w' ⟨h3, h4⟩ => ⟨by rw [h3]; simp, h4⟩
end Go.Proofs.Ytfciecoigfnnhaa
