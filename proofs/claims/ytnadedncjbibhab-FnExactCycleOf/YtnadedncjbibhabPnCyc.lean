/- The cycle of chores, both sides. -/
import Derived.Test.YtnadedncjbibhabPnGcd
import Derived.Test.YtnadedncjbibhabPnGood
namespace Go.Proofs.Ytnadedncjbibhab
open Go.RowKit
/-- the next cycle, as both reckon it, of numbers -/
theorem cy_num {F : Nat → Int} {n k : Nat} (g : Gc n F) (hk : k < n) :
    (cyK F k : Int) / gcI (cyK F k : Int) (F (k * 3)) * F (k * 3) = (cyK F (k + 1) : Int) ∧ 0 ≤ (cyK F k : Int) / gcI (cyK F k : Int) (F (k * 3)) ∧ (cyK F k : Int) / gcI (cyK F k : Int) (F (k * 3)) ≤ 777600000 ∧ 1 ≤ gcI (cyK F k : Int) (F (k * 3)) := by
  have hp := g.p1 k hk
  have h60 := cyK_bd g k (by omega)
  have h6 := g.six
  have h5 : (60 : Nat) ^ k ≤ 60 ^ 5 := Nat.pow_le_pow_right (by decide) (by omega)
  have e : gcI (cyK F k : Int) (F (k * 3)) = ((Nat.gcd (cyK F k) (F (k * 3)).toNat : Nat) : Int) := by unfold gcI; rw [Int.toNat_natCast]
  have hg : 0 < Nat.gcd (cyK F k) (F (k * 3)).toNat := Nat.gcd_pos_of_pos_right _ (by omega)
  have hq : (cyK F k : Int) / ((Nat.gcd (cyK F k) (F (k * 3)).toNat : Nat) : Int) = ((cyK F k / Nat.gcd (cyK F k) (F (k * 3)).toNat : Nat) : Int) := (Int.natCast_ediv _ _).symm
  have hle : cyK F k / Nat.gcd (cyK F k) (F (k * 3)).toNat ≤ cyK F k := Nat.div_le_self _ _
  have h7 : (60 : Nat) ^ 5 = 777600000 := by decide
  refine ⟨?_, ?_, ?_, ?_⟩
  · rw [e, hq, cyK, Int.natCast_mul, Int.toNat_of_nonneg (by omega)]
  · rw [e, hq]; exact Int.natCast_nonneg _
  · rw [e, hq]; omega
  · rw [e]; omega
set_option maxHeartbeats 400000 in
theorem iMulti (a b : Int) (w : World) (ha : 0 ≤ a ∧ a ≤ 4611686018427387904) (hb : 1 ≤ b ∧ b ≤ 60) (h0 : 0 ≤ a / gcI a b) (h1 : a / gcI a b ≤ 777600000) (h2 : 1 ≤ gcI a b) :
    Calls Try.prog 13 #[.int .i64 a, .int .i64 b] w fun e w' => e = .returned (.int .i64 (a / gcI a b * b)) ∧ Below w.heap.size w w' := by
  have kG := fun w => iGcd a b w ha ⟨by omega, by omega⟩
  generalize gcI a b = G at *
  have h3 : 0 ≤ a / G * b := Int.mul_nonneg h0 (by omega)
  have h4 : a / G * b ≤ 777600000 * 60 := Int.le_trans (Int.mul_le_mul_of_nonneg_left hb.2 h0) (by omega)
  have h5 : ¬ G = 0 := by omega
  go_enter Try.func13, Try.ntmps13
  go_wp2_with fail
  refine (kG _).mono ?_
  rintro e w1 ⟨rfl, hb1⟩
  go_wp2
  go_ret
  exact ⟨rfl, hb1⟩
/-- what CycleOf tells -/
def cyV (n : Nat) (F : Nat → Int) : Bool := gcV n F && decide (cyK F n ≤ 1000000)
def cyR (n : Nat) (F : Nat → Int) : Int := if cyV n F then (cyK F n : Int) else 0
theorem cyV_no {n : Nat} {F : Nat → Int} (h : ¬ cyK F n ≤ 1000000) : cyV n F = false := by unfold cyV; rw [decide_eq_false h, Bool.and_false]
theorem cyR_no {n : Nat} {F : Nat → Int} (h : cyV n F = false) : cyR n F = 0 := by unfold cyR; rw [h]; rfl
theorem cyR_yes {n : Nat} {F : Nat → Int} (h : cyV n F = true) : cyR n F = (cyK F n : Int) := by unfold cyR; rw [h]; rfl
set_option maxHeartbeats 2000000 in
theorem sCyc (a : Option Addr) (n c : Nat) (F : Nat → Int) (w : World) (hv : gcV n F = true) (h : IL w a (n * 3) F) :
    Calls Try.prog 10 #[.slice a n c] w fun e w' => e = .returned (.tuple #[.int .i64 (cyR n F), .bool (cyV n F)]) ∧ Below w.heap.size w w' := by
  have HV : Hid (gcV n F = true) := hv
  have HG : Hid (Gc n F) := gcV_gc hv
  have hn6 := HG.out.six
  clear hv
  go_enter Try.func10, Try.ntmps10
  go_wp2
  go_loopw [4, 9] (fun v i wr => ∃ k : Nat, k ≤ n ∧ i = .int .i64 (k : Int) ∧ v = .int .i64 (cyK F k : Int) ∧ Hid (cyK F k ≤ 1000000) ∧ Below w.heap.size w wr) (fun _ i _ => n - (intOf i).toNat)
  case atStart => exact ⟨0, Nat.zero_le _, rfl, rfl, (by decide : (1 : Nat) ≤ 1000000), Below.refl _ _⟩
  case round =>
    obtain ⟨k, hk, rfl, rfl, HE, hB⟩ := hrel
    by_cases hlt : k < n
    · obtain ⟨gb, go_, rfl, gl_, x0, x1, x2⟩ := il_three (h.below hB) hlt
      have i0 : (0 : Int) ≤ (k : Int) := by omega
      have i1 : (k : Int) < (n : Int) := by omega
      obtain ⟨e0, e1, e2, e3⟩ := cy_num HG.out hlt
      have p1 := HG.out.p1 k hlt
      have p2 := HG.out.p2 k hlt
      have hup := cyK_up HG.out.p1 (show k + 1 ≤ n by omega)
      have HN : Hid (1000000 < cyK F (k + 1) → cyV n F = false) := fun h => cyV_no (by omega)
      have v0 : 0 ≤ (cyK F k : Int) := by omega
      have v1 : (cyK F k : Int) ≤ 1000000 := by have := HE.out; omega
      have kG := fun w => sGcd (cyK F k : Int) (F (k * 3)) w ⟨v0, by omega⟩ ⟨by omega, by omega⟩
      have HR : Hid ((cyK F k : Int) / gcI (cyK F k : Int) (F (k * 3)) * F (k * 3) = (cyK F (k + 1) : Int)) := e0
      clear HE HG HV hup e0
      generalize gcI (cyK F k : Int) (F (k * 3)) = G at *
      generalize (cyK F k : Int) = V at *
      generalize F (k * 3) = P at *
      generalize F (k * 3 + 1) = N at *
      generalize F (k * 3 + 2) = D at *
      have h3 : 0 ≤ V / G * P := Int.mul_nonneg e1 (by omega)
      have h4 : V / G * P ≤ 777600000 * 60 := Int.le_trans (Int.mul_le_mul_of_nonneg_left p2 e1) (by omega)
      have h5 : ¬ G = 0 := by omega
      have hbt : Below wr.heap.size wr (wr.alloc (.cells #[.int .i64 P, .int .i64 N, .int .i64 D] 32)) := (Below.refl _ _).alloc (Nat.le_refl _) _
      have b3 := bx_new (w := wr) [.int .i64 P, .int .i64 N, .int .i64 D] 32 rfl
      have z0 := b3.c0
      have zl := b3.lt
      have hB3 := stepA hB hbt
      clear b3
      go_upto_region 5 with fail
      generalize wr.alloc (.cells #[.int .i64 P, .int .i64 N, .int .i64 D] 32) = w5 at *
      go_quiet ((go_at_call 15; exact Calls.quiet_of_same (kG _)))
      by_cases hbig : 1000000 < V / G * P
      · have HB : Hid (cyV n F = false) := HN.out (by have := HR.out; omega)
        go_wp2
        go_ret2
        exact ⟨by rw [cyR_no HB.out, HB.out]; rfl, by first | exact hB3 | exact hB3.drew | exact below_dr hB3 _⟩
      · have HB : Hid (cyK F (k + 1) ≤ 1000000) := by have := HR.out; show cyK F (k + 1) ≤ 1000000; omega
        go_wp2
        go_roundw
        case rel => exact ⟨k + 1, by omega, by go_num, by rw [HR.out], HB, by first | exact hB3 | exact hB3.drew | exact below_dr hB3 _⟩
        case measure => simp [intOf]; omega
    · have e : k = n := by omega
      subst e
      have i1 : ¬ (k : Int) < (k : Int) := by omega
      have HB : Hid (cyV k F = true) := by unfold cyV; rw [HV.out, decide_eq_true HE.out]; rfl
      clear HE HV HG
      go_wp2
      go_ret2
      exact ⟨by rw [cyR_yes HB.out, HB.out]; rfl, hB⟩
set_option maxHeartbeats 1000000 in
theorem sCycleOf (a : Option Addr) (n c : Nat) (F : Nat → Int) (w : World) (h : IL w a (n * 3) F) :
    Calls Try.prog 5 #[.slice a n c] w fun e w' => e = .returned (.tuple #[.int .i64 (cyR n F), .bool (cyV n F)]) ∧ Below w.heap.size w w' := by
  cases hv : gcV n F with
  | false =>
    have HV : Hid (gcV n F = false) := hv
    have HD : Hid (cyV n F = false) := by unfold cyV; rw [hv]; rfl
    clear hv
    go_enter Try.func5, Try.ntmps5
    go_wp2_with fail
    refine (sGoodC a n c F w h).mono ?_
    rintro e w1 ⟨rfl, hb1⟩
    rw [HV.out]
    go_wp2
    go_ret2
    exact ⟨by rw [cyR_no HD.out, HD.out]; rfl, hb1⟩
  | true =>
    have HV : Hid (gcV n F = true) := hv
    clear hv
    go_enter Try.func5, Try.ntmps5
    go_wp2_with fail
    refine (sGoodC a n c F w h).mono ?_
    rintro e w1 ⟨rfl, hb1⟩
    rw [HV.out]
    go_wp2_with fail
    refine (sCyc a n c F w1 HV.out (h.below hb1)).mono ?_
    rintro e w2 ⟨rfl, hb2⟩
    go_wp2
    go_ret2
    exact ⟨rfl, stepA hb1 hb2⟩
set_option maxHeartbeats 2000000 in
theorem iCycleOf (a : Option Addr) (n c : Nat) (F : Nat → Int) (w : World) (h : IL w a (n * 3) F) :
    Calls Try.prog 7 #[.slice a n c] w fun e w' => e = .returned (.tuple #[.int .i64 (cyR n F), .bool (cyV n F)]) ∧ Below w.heap.size w w' := by
  cases hv : gcV n F with
  | false =>
    have HV : Hid (gcV n F = false) := hv
    have HD : Hid (cyV n F = false) := by unfold cyV; rw [hv]; rfl
    clear hv
    go_enter Try.func7, Try.ntmps7
    go_wp2_with fail
    refine (iGoodC a n c F w h).mono ?_
    rintro e w1 ⟨rfl, hb1⟩
    rw [HV.out]
    go_wp2
    go_ret2
    exact ⟨by rw [cyR_no HD.out, HD.out]; rfl, hb1⟩
  | true =>
    have HV : Hid (gcV n F = true) := hv
    have HG : Hid (Gc n F) := gcV_gc hv
    have hn6 := HG.out.six
    clear hv
    go_enter Try.func7, Try.ntmps7
    go_wp2_with fail
    refine (iGoodC a n c F w h).mono ?_
    rintro e w1 ⟨rfl, hb1⟩
    rw [HV.out]
    go_wp2
    go_loopw [4, 12] (fun v i wr => ∃ k : Nat, k ≤ n ∧ i = .int .i64 (k : Int) ∧ v = .int .i64 (cyK F k : Int) ∧ Below w.heap.size w wr) (fun _ i _ => n - (intOf i).toNat)
    case atStart => exact ⟨0, Nat.zero_le _, rfl, rfl, hb1⟩
    case round =>
      obtain ⟨k, hk, rfl, rfl, hB⟩ := hrel
      by_cases hlt : k < n
      · obtain ⟨gb, go_, rfl, gl_, x0, x1, x2⟩ := il_three (h.below hB) hlt
        have i0 : (0 : Int) ≤ (k : Int) := by omega
        have i1 : (k : Int) < (n : Int) := by omega
        obtain ⟨e0, e1, e2, e3⟩ := cy_num HG.out hlt
        have p1 := HG.out.p1 k hlt
        have p2 := HG.out.p2 k hlt
        have v0 : 0 ≤ (cyK F k : Int) := by omega
        have v1 : (cyK F k : Int) ≤ 4611686018427387904 := by
          have h60 := cyK_bd HG.out k (by omega)
          have h5 : (60 : Nat) ^ k ≤ 60 ^ 5 := Nat.pow_le_pow_right (by decide) (by omega)
          have h7 : (60 : Nat) ^ 5 = 777600000 := by decide
          omega
        have kM := fun w => iMulti (cyK F k : Int) (F (k * 3)) w ⟨v0, v1⟩ ⟨p1, p2⟩ e1 e2 e3
        rw [e0] at kM
        clear e0 e1 e2 e3 HG HV hb1
        generalize hV : (cyK F k : Int) = V at *
        clear hV
        generalize F (k * 3) = P at *
        generalize F (k * 3 + 1) = N at *
        generalize F (k * 3 + 2) = D at *
        have hbt : Below wr.heap.size wr (wr.alloc (.cells #[.int .i64 P, .int .i64 N, .int .i64 D] 32)) := (Below.refl _ _).alloc (Nat.le_refl _) _
        have b3 := bx_new (w := wr) [.int .i64 P, .int .i64 N, .int .i64 D] 32 rfl
        have z0 := b3.c0
        have hB3 := stepA hB hbt
        clear b3
        go_wp2_with fail
        refine (kM _).mono ?_
        rintro e w4 ⟨rfl, hb4⟩
        have hB4 := stepA hB3 hb4
        clear hb4 hB3 hbt kM
        go_wp2
        go_roundw
        case rel => exact ⟨k + 1, by omega, by go_num, rfl, hB4⟩
        case measure => simp [intOf]; omega
      · have e : k = n := by omega
        subst e
        have i1 : ¬ (k : Int) < (k : Int) := by omega
        by_cases hbig : 1000000 < (cyK F k : Int)
        · have HB : Hid (cyV k F = false) := cyV_no (by omega)
          clear HV HG
          go_wp2
          go_ret2
          exact ⟨by rw [cyR_no HB.out, HB.out]; rfl, hB⟩
        · have HB : Hid (cyV k F = true) := by unfold cyV; rw [HV.out, decide_eq_true (by omega)]; rfl
          clear HV HG
          go_wp2
          go_ret2
          exact ⟨by rw [cyR_yes HB.out, HB.out]; rfl, hB⟩
end Go.Proofs.Ytnadedncjbibhab
