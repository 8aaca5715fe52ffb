/- Whether each has a task, each task once, as the program says it. -/
import Derived.Test.YtjmdghkhapajiaaAsGp
import Derived.Test.YtjmdghkhapajiaaAsBt
import Derived.BigQuiet
namespace Go.Proofs.Ytjmdghkhapajiaa
open Go.RowKit
set_option maxHeartbeats 4000000 in
set_option maxRecDepth 20000 in
theorem iGoodA (a : Option Addr) (n c : Nat) (K : Nat → Nat) (F : Nat → Nat → Int) (b : Option Addr) (m d : Nat) (g : Nat → Int) (w : World) (hn : n ≤ 1048576) (hK : ∀ i, i < n → K i ≤ 1048576) (hm : m ≤ 1048576) (h : RR w a n K F) (h2 : IL w b m g) :
    Calls Try.prog 39 #[.slice a n c, .slice b m d] w fun e w' => e = .returned (.bool (gaB n m K F g)) ∧ Below w.heap.size w w' := by
  have kB := iGoodP a n c K F w hn hK h
  cases e : gpB n K F with
  | false =>
    rw [e] at kB
    have HV : Hid (gaB n m K F g = false) := by show gaB n m K F g = false; unfold gaB; rw [e]; rfl
    clear e
    go_enter Try.func39, Try.ntmps39
    go_wp2_with (first | (go_at_call 22; refine kB.mono ?_; rintro e w1 ⟨rfl, hb⟩; clear kB) | fail)
    go_ret
    exact ⟨ret_bool HV.out.symm, hb⟩
  | true =>
    rw [e] at kB
    obtain ⟨hn1, hn6, _, _⟩ := gpB_t e
    by_cases hmn : m = n
    rotate_left
    · have e1 : ((m : Int) != (n : Int)) = true := by simp; omega
      have HV : Hid (gaB n m K F g = false) := by show gaB n m K F g = false; unfold gaB whB; rw [decide_eq_false hmn]; simp
      clear e hmn
      go_enter Try.func39, Try.ntmps39
      go_wp2_with (first | (go_at_call 22; refine kB.mono ?_; rintro e w1 ⟨rfl, hb⟩; clear kB) | fail)
      go_ret
      exact ⟨ret_bool HV.out.symm, hb⟩
    have hmn2 := hmn.symm
    clear hmn
    subst hmn2
    have e1 : ((n : Int) != (n : Int)) = false := by simp
    have HV : Hid (gaB n n K F g = whK n g n) := by show gaB n n K F g = _; unfold gaB whB; rw [e, decide_eq_true rfl]; rfl
    clear e
    go_enter Try.func39, Try.ntmps39
    go_wp2_with (first | (go_at_call 22; refine kB.mono ?_; rintro e w1 ⟨rfl, hb⟩; clear kB) | fail)
    go_loopw [5, 20] (fun x i wr => ∃ k : Nat, k ≤ n ∧ i = .int .i64 (k : Int) ∧ x = .int .i64 ((tkM g k : Nat) : Int) ∧ Hid (whK n g k = true) ∧ Below w.heap.size w wr) (fun _ i _ => n - (intOf i).toNat)
    case atStart => exact ⟨0, Nat.zero_le _, rfl, rfl, (rfl : whK n g 0 = true), hb⟩
    case round =>
      obtain ⟨k, hk, rfl, rfl, HE, hB⟩ := hrel
      clear hb
      have i0 : (0 : Int) ≤ (k : Int) := by omega
      by_cases hlt : k < n
      · have i1 : (k : Int) < (n : Int) := by omega
        obtain ⟨gb, go_, rfl, gl_, x0⟩ := il_at1 (h2.below hB) (i := k) (by omega)
        have hbd : ∀ j, j < k → 0 ≤ g j ∧ g j < (n : Int) := fun j hj => (whK_t HE.out j hj).1
        have hM : tkM g k < 64 := tkM_lt fun j hj => by have := hbd j hj; omega
        have HN : Hid (whS n g k = false → gaB n n K F g = false) := fun h => by show gaB n n K F g = false; rw [HV.out]; exact whK_no hlt h
        have HY : Hid (whS n g k = true → whK n g (k + 1) = true) := fun h => by show whK n g (k + 1) = true; unfold whK; rw [HE.out, h]; rfl
        by_cases g0 : g k < 0
        · have HV2 : Hid (gaB n n K F g = false) := HN.out (by unfold whS; rw [decide_eq_false (by omega)]; rfl)
          clear HN HY HV HE hbd hM
          generalize g k = X at *
          go_wp2
          go_ret
          exact ⟨ret_bool HV2.out.symm, hB⟩
        by_cases g1 : (n : Int) ≤ g k
        · have HV2 : Hid (gaB n n K F g = false) := HN.out (by unfold whS; rw [decide_eq_false (by omega)]; rfl)
          have g2 : (n : Int) ≤ g k := by omega
          clear HN HY HV HE hbd hM
          generalize g k = X at *
          go_wp2
          go_ret
          exact ⟨ret_bool HV2.out.symm, hB⟩
        obtain ⟨t, ht⟩ : ∃ t : Nat, g k = (t : Int) := ⟨(g k).toNat, by omega⟩
        have ht6 : t < 6 := by omega
        have hhad := tkM_had (fun j hj => (hbd j hj).1) t
        have HTK : Hid (tkM g (k + 1) = tkM g k ||| 2 ^ t) := by show tkM g k ||| 2 ^ (g k).toNat = tkM g k ||| 2 ^ t; rw [ht]; rfl
        have hw1 : whS n g k = !(tkM g k).testBit t := by unfold whS; rw [decide_eq_true ⟨by omega, by omega⟩, hhad, ht]; rfl
        rw [hw1] at HN HY
        rw [ht] at x0
        have i2 : (0 : Int) ≤ (t : Int) := by omega
        have i3 : (t : Int) < (n : Int) := by omega
        have i4 : (t : Int) < 6 := by omega
        have hor := or_bit (tkM g k) t hM ht6
        have hwr := bit_in t ht6
        have kT := fun w => taken_any (tkM g k) t w hM ht6
        clear hbd hhad hw1 g0 g1 ht HE HV
        generalize tkM g k = M at *
        cases e : M.testBit t with
        | true =>
          rw [e] at kT HN
          have HV2 : Hid (gaB n n K F g = false) := HN.out rfl
          clear HN HY e hor hwr HTK
          go_wp2_with (first | (go_at_call 50; refine (kT _).mono ?_; rintro e w9 ⟨rfl, hw9⟩; have hs' := hw9.symm; clear hw9 kT; subst hs') | fail)
          go_ret
          exact ⟨ret_bool HV2.out.symm, hB⟩
        | false =>
          rw [e] at kT HY
          have HV2 : Hid (whK n g (k + 1) = true) := HY.out rfl
          clear HN HY e
          go_wp2_with (first | (go_at_call 50; refine (kT _).mono ?_; rintro e w9 ⟨rfl, hw9⟩; have hs' := hw9.symm; clear hw9 kT; subst hs') | fail)
          exact ⟨⟨k + 1, by omega, by go_num, by rw [HTK.out], HV2, hB⟩, by simp [intOf]; omega⟩
      · have hke : k = n := by omega
        subst hke
        have i1 : ¬ (k : Int) < (k : Int) := by omega
        go_wp2
        go_ret
        exact ⟨ret_bool (by rw [HV.out]; exact HE.out.symm), hB⟩
end Go.Proofs.Ytjmdghkhapajiaa
