/- One number among those of a list, as the library looks for it (the chapter on wishes has the same text over its own names). -/
import Derived.Test.YtldagjgpapnfpaaInCore
namespace Go.Proofs.Ytldagjgpapnfpaa
open Go.RowKit
/-- v is one of the first K -/
def hsB (F : Nat → Int) (K : Nat) (v : Int) : Bool := decide (∃ j, j < K ∧ F j = v)
theorem hsB_zero (F : Nat → Int) (v : Int) : hsB F 0 v = false := by
  unfold hsB
  exact decide_eq_false fun ⟨j, h, _⟩ => absurd h (Nat.not_lt_zero _)
theorem hsB_step (F : Nat → Int) (K : Nat) (v : Int) : hsB F (K + 1) v = (hsB F K v || decide (F K = v)) := by
  unfold hsB
  rw [← Bool.decide_or]
  refine decide_eq_decide.mpr ⟨?_, ?_⟩
  · rintro ⟨j, h, e⟩
    by_cases hj : j = K
    · subst hj; exact .inr e
    · exact .inl ⟨j, by omega, e⟩
  · rintro (⟨j, h, e⟩ | e)
    · exact ⟨j, by omega, e⟩
    · exact ⟨K, by omega, e⟩
set_option maxHeartbeats 2000000 in
theorem iIndexI (a : Option Addr) (n c : Nat) (F : Nat → Int) (v : Int) (w : World) (hn : n ≤ 1048576) (ha : IL w a n F) :
    Calls Try.prog 48 #[.slice a n c, .int .i64 v] w fun e w' => (∃ z : Int, e = .returned (.int .i64 z) ∧ hsB F n v = decide (0 ≤ z)) ∧ w' = w := by
  have HT : Hid (∀ k, k < n → (v == F k) = true → hsB F n v = true) := fun k hk h => by
    unfold hsB; exact decide_eq_true ⟨k, hk, (eq_of_beq h).symm⟩
  have HF : Hid (∀ k, hsB F k v = false → (v == F k) = false → hsB F (k + 1) v = false) := fun k h1 h2 => by
    rw [hsB_step, h1, decide_eq_false (fun e => by rw [e] at h2; simp at h2)]; rfl
  go_enter Try.func48, Try.ntmps48
  go_wp2
  go_loopw [8] (fun i wr => ∃ k : Nat, k ≤ n ∧ i = .int .i64 (k : Int) ∧ Hid (hsB F k v = false) ∧ wr = w) (fun i _ => n - (intOf i).toNat)
  case atStart => exact ⟨0, Nat.zero_le _, rfl, hsB_zero F v, rfl⟩
  case round =>
    obtain ⟨k, hk, rfl, HE, hw⟩ := hrel
    have hw' := hw.symm
    clear hw
    subst hw'
    by_cases hlt : k < n
    · obtain ⟨b1, o1, rfl, l1, hc1⟩ := ha (by omega)
      have y1 := hc1 k hlt
      have j0 : (0 : Int) ≤ (k : Int) := by omega
      have j1 : (k : Int) < (n : Int) := by omega
      have HT2 : Hid ((v == F k) = true → hsB F n v = true) := HT.out k hlt
      have HF2 : Hid ((v == F k) = false → hsB F (k + 1) v = false) := HF.out k HE.out
      clear hc1 ha HT HF HE
      generalize F k = X at *
      cases hx : (v == X) with
      | true =>
        have HR : Hid (hsB F n v = true) := HT2.out hx
        clear HT2 HF2
        go_wp2
        go_ret
        exact ⟨⟨(k : Int), rfl, by rw [HR.out]; simp⟩, rfl⟩
      | false =>
        have HR : Hid (hsB F (k + 1) v = false) := HF2.out hx
        clear HT2 HF2
        go_wp2
        exact ⟨⟨k + 1, by omega, by go_num, HR, trivial⟩, by simp [intOf]; omega⟩
    · have : k = n := by omega
      subst this
      go_wp2
      go_ret
      exact ⟨⟨-1, rfl, by rw [HE.out]; rfl⟩, rfl⟩
set_option maxHeartbeats 2000000 in
theorem iContI (a : Option Addr) (n c : Nat) (F : Nat → Int) (v : Int) (w : World) (hn : n ≤ 1048576) (ha : IL w a n F) :
    Calls Try.prog 29 #[.slice a n c, .int .i64 v] w fun e w' => e = .returned (.bool (hsB F n v)) ∧ w' = w := by
  have k := iIndexI a n c F v w hn ha
  generalize hsB F n v = B at *
  go_enter Try.func29, Try.ntmps29
  go_wp2_with fail
  refine k.mono ?_
  rintro e w2 ⟨⟨z, rfl, hz⟩, hw2⟩
  have hs2 := hw2.symm
  clear hw2 k
  subst hs2 hz
  go_wp2
  go_ret
  exact ⟨rfl, rfl⟩
end Go.Proofs.Ytldagjgpapnfpaa
