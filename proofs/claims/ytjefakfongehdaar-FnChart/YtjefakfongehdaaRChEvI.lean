/- Which lists are events, as the program tells it. -/
import Derived.Test.YtjefakfongehdaaRChRunM
namespace Go.Proofs.YtjefakfongehdaaR
open Go.RowKit
theorem iEvt (x : Int) (w : World) : Calls Try.prog 46 #[.int .i64 x] w fun e w' => e = .returned (.bool (evtB x)) ∧ w' = w := by
  by_cases h0 : 0 ≤ x
  · by_cases h1 : x < 6
    · have hr : evtB x = true := by unfold evtB; simp [h0, h1]
      rw [hr]
      go_enter Try.func46, Try.ntmps46
      go_wp2
      go_ret
      exact ⟨rfl, rfl⟩
    · have hr : evtB x = false := by unfold evtB; simp [h1]
      rw [hr]
      go_enter Try.func46, Try.ntmps46
      go_wp2
      go_ret
      exact ⟨rfl, rfl⟩
  · have hr : evtB x = false := by unfold evtB; simp [h0]
    rw [hr]
    go_enter Try.func46, Try.ntmps46
    go_wp2
    go_ret
    exact ⟨rfl, rfl⟩
theorem iNone (x : Int) (w : World) : Calls Try.prog 55 #[.int .i64 x] w fun e w' => e = .returned (.bool (!(evtB x))) ∧ w' = w := by
  have kE := fun w => iEvt x w
  generalize evtB x = P at *
  go_enter Try.func55, Try.ntmps55
  go_wp2_with fail
  refine (kE _).mono ?_
  rintro e w2 ⟨rfl, hw2⟩
  have hs2 := hw2.symm
  clear hw2
  subst hs2
  go_wp2
  go_ret
  exact ⟨rfl, rfl⟩
def IdxE (h : Nat → Int) (k : Nat) (e : Ending) : Prop := ∃ d : Int, e = .returned (.int .i64 d) ∧ decide (0 ≤ d) = !(evsK h k)
set_option maxHeartbeats 1000000 in
theorem idxEv (a : Option Addr) (q c : Nat) (h : Nat → Int) (w : World) (hq : q ≤ 1048576) (hf : IL w a q h) :
    Calls Try.prog 68 #[.slice a q c, .func (.func 55) #[] #[]] w fun e w' => IdxE h q e ∧ w' = w := by
  have HN : Hid (∀ k, k < q → evtB (h k) = false → evsK h q = false) := fun k hk he => evsK_no hk he
  have HS : Hid (∀ k, evsK h (k + 1) = (evsK h k && evtB (h k))) := fun k => rfl
  have kE := fun x w => iNone x w
  go_enter Try.func68, Try.ntmps68
  go_wp2
  go_loopw [8] (fun i wr => ∃ k : Nat, k ≤ q ∧ i = .int .i64 (k : Int) ∧ Hid (evsK h k = true) ∧ wr = w) (fun i _ => q - (intOf i).toNat)
  case atStart => exact ⟨0, Nat.zero_le _, rfl, (rfl : evsK h 0 = true), rfl⟩
  case round =>
    obtain ⟨k, hk, rfl, HE, hw⟩ := hrel
    have hw' := hw.symm
    clear hw
    subst hw'
    by_cases hlt : k < q
    · obtain ⟨gb, go_, rfl, gl_, hc⟩ := hf (by omega)
      have y0 := hc k hlt
      have j0 : (0 : Int) ≤ (k : Int) := by omega
      have j1 : (k : Int) < (q : Int) := by omega
      have kE2 := fun w => kE (h k) w
      have HN2 : Hid (evtB (h k) = false → evsK h q = false) := HN.out k hlt
      have HS2 : Hid (evtB (h k) = true → evsK h (k + 1) = true) := fun e => by
        show evsK h (k + 1) = true
        rw [HS.out k, HE.out, e]; rfl
      clear hc kE HN HS HE
      generalize evtB (h k) = P at *
      generalize h k = X at *
      cases P with
      | false =>
        have HR : Hid (IdxE h q (.returned (.int .i64 (k : Int)))) := ⟨(k : Int), rfl, by rw [HN2.out rfl]; simp⟩
        clear HN2 HS2
        go_wp2_with (first | (go_at_call 55; refine (kE2 _).mono ?_; rintro e w9 ⟨rfl, hw9⟩; have hs9 := hw9.symm; clear hw9; subst hs9) | fail)
        go_ret
        exact ⟨HR.out, rfl⟩
      | true =>
        have HR : Hid (evsK h (k + 1) = true) := HS2.out rfl
        clear HN2 HS2
        go_wp2_with (first | (go_at_call 55; refine (kE2 _).mono ?_; rintro e w9 ⟨rfl, hw9⟩; have hs9 := hw9.symm; clear hw9; subst hs9) | fail)
        exact ⟨⟨k + 1, by omega, by go_num, HR, trivial⟩, by simp [intOf]; omega⟩
    · have hkq : k = q := by omega
      subst hkq
      have HR : Hid (IdxE h k (.returned (.int .i64 (-1)))) := ⟨-1, rfl, by rw [HE.out]; rfl⟩
      clear kE HN HS hf HE
      go_wp2
      go_ret
      exact ⟨HR.out, rfl⟩
set_option maxHeartbeats 1000000 in
theorem conEv (a : Option Addr) (q c : Nat) (h : Nat → Int) (w : World) (hq : q ≤ 1048576) (hf : IL w a q h) :
    Calls Try.prog 56 #[.slice a q c, .func (.func 55) #[] #[]] w fun e w' => e = .returned (.bool (!(evsK h q))) ∧ w' = w := by
  have hI := idxEv a q c h w hq hf
  go_enter Try.func56, Try.ntmps56
  go_wp2_with fail
  refine hI.mono ?_
  rintro e w1 ⟨⟨x, rfl, hd⟩, hw1⟩
  have hs1 := hw1.symm
  clear hw1 hI
  subst hs1
  have HD : Hid (decide (0 ≤ x) = !(evsK h q)) := hd
  clear hd
  go_wp2
  go_ret
  exact ⟨ret_bool HD.out, rfl⟩
set_option maxHeartbeats 1000000 in
theorem iEvents (a : Option Addr) (q c : Nat) (h : Nat → Int) (w : World) (hq : q ≤ 1048576) (hf : IL w a q h) :
    Calls Try.prog 30 #[.slice a q c] w fun e w' => e = .returned (.bool (evsB q h)) ∧ w' = w := by
  have kC := fun w hf => conEv a q c h w hq hf
  by_cases h6 : q ≤ 60
  · have hr : evsB q h = evsK h q := by unfold evsB; simp [h6]
    rw [hr]
    have j6 : (q : Int) ≤ 60 := by omega
    generalize evsK h q = P at *
    clear hr
    go_enter Try.func30, Try.ntmps30
    go_wp2_with fail
    refine (kC _ hf).mono ?_
    rintro e w1 ⟨rfl, hw1⟩
    have hs1 := hw1.symm
    clear hw1
    subst hs1
    go_wp2
    go_ret
    exact ⟨by cases P <;> rfl, rfl⟩
  · have hr : evsB q h = false := by unfold evsB; simp [h6]
    rw [hr]
    have j6 : ¬ (q : Int) ≤ 60 := by omega
    clear kC
    go_enter Try.func30, Try.ntmps30
    go_wp2
    go_ret
    exact ⟨rfl, rfl⟩
end Go.Proofs.YtjefakfongehdaaR
