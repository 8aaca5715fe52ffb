/- Which lists are events, as the model says it. -/
import Derived.Test.YtjefakfongehdaaRChRunM
namespace Go.Proofs.YtjefakfongehdaaR
open Go.RowKit
theorem sEvt (x : Int) (w : World) : Calls Try.prog 49 #[.int .i64 x] w fun e w' => e = .returned (.bool (evtB x)) ∧ w' = w := by
  by_cases h0 : 0 ≤ x
  · by_cases h1 : x < 6
    · have hr : evtB x = true := by unfold evtB; simp [h0, h1]
      rw [hr]
      go_enter Try.func49, Try.ntmps49
      go_wp2
      go_ret
      exact ⟨rfl, rfl⟩
    · have hr : evtB x = false := by unfold evtB; simp [h1]
      rw [hr]
      go_enter Try.func49, Try.ntmps49
      go_wp2
      go_ret
      exact ⟨rfl, rfl⟩
  · have hr : evtB x = false := by unfold evtB; simp [h0]
    rw [hr]
    go_enter Try.func49, Try.ntmps49
    go_wp2
    go_ret
    exact ⟨rfl, rfl⟩
set_option maxHeartbeats 2000000 in
theorem sEvents (a : Option Addr) (q c : Nat) (h : Nat → Int) (w : World) (hq : q ≤ 1048576) (hf : IL w a q h) :
    Calls Try.prog 33 #[.slice a q c] w fun e w' => e = .returned (.bool (evsB q h)) ∧ w' = w := by
  by_cases h6 : q ≤ 60
  · have hr : evsB q h = evsK h q := by unfold evsB; simp [h6]
    rw [hr]
    have j6 : ¬ (60 : Int) < (q : Int) := by omega
    have HN : Hid (∀ k, k < q → evtB (h k) = false → evsK h q = false) := fun k hk he => evsK_no hk he
    have HS : Hid (∀ k, evsK h (k + 1) = (evsK h k && evtB (h k))) := fun k => rfl
    have kE := fun x w => sEvt x w
    clear hr
    go_enter Try.func33, Try.ntmps33
    go_wp2
    go_loopw [10] (fun i wr => ∃ k : Nat, k ≤ q ∧ i = .int .i64 (k : Int) ∧ Hid (evsK h k = true) ∧ wr = w) (fun i _ => q - (intOf i).toNat)
    case atStart => exact ⟨0, Nat.zero_le _, rfl, (rfl : evsK h 0 = true), rfl⟩
    case round =>
      obtain ⟨k, hk, rfl, HE, hw⟩ := hrel
      have hw' := hw.symm
      clear hw
      subst hw'
      by_cases hlt : k < q
      · obtain ⟨gb, go_, rfl, gl_, hc⟩ := hf (by omega)
        have y0 := hc k hlt
        have j0 : (0 : Int) ≤ (k : Int) := by omega
        have j1 : (k : Int) < (q : Int) := by omega
        have kE2 := fun w => kE (h k) w
        have HN2 : Hid (evtB (h k) = false → evsK h q = false) := HN.out k hlt
        have HS2 : Hid (evtB (h k) = true → evsK h (k + 1) = true) := fun e => by
          show evsK h (k + 1) = true
          rw [HS.out k, HE.out, e]; rfl
        clear hc kE HN HS HE
        generalize evtB (h k) = P at *
        generalize h k = X at *
        cases P with
        | false =>
          have HR : Hid (evsK h q = false) := HN2.out rfl
          clear HN2 HS2
          go_wp2_with fail
          refine (kE2 _).mono ?_
          rintro e w2 ⟨rfl, hw2⟩
          have hs2 := hw2.symm
          clear hw2
          subst hs2
          go_wp2
          go_ret
          exact ⟨ret_bool HR.out.symm, rfl⟩
        | true =>
          have HR : Hid (evsK h (k + 1) = true) := HS2.out rfl
          clear HN2 HS2
          go_wp2_with fail
          refine (kE2 _).mono ?_
          rintro e w2 ⟨rfl, hw2⟩
          have hs2 := hw2.symm
          clear hw2
          subst hs2
          go_wp2
          exact ⟨⟨k + 1, by omega, by go_num, HR, trivial⟩, by simp [intOf]; omega⟩
      · have hkq : k = q := by omega
        subst hkq
        clear kE HN HS hf
        go_wp2
        go_ret
        exact ⟨ret_bool HE.out.symm, rfl⟩
  · have hr : evsB q h = false := by unfold evsB; simp [h6]
    rw [hr]
    have j6 : (60 : Int) < (q : Int) := by omega
    go_enter Try.func33, Try.ntmps33
    go_wp2
    go_ret
    exact ⟨rfl, rfl⟩
end Go.Proofs.YtjefakfongehdaaR
