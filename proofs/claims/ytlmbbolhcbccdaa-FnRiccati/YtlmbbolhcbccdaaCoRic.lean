/- impl.RiccatiReal, spec.RiccatiReal, the law FnExactRiccatiReal. -/
import Derived.Test.YtlmbbolhcbccdaaCoRoundI
namespace Go.Proofs.Ytlmbbolhcbccdaa
open Go.RowKit

theorem ric_none {a b q r k : Nat} (h : ric a b q r k = none) (n : Nat) : ric a b q r (k + n) = none := by
  induction n with
  | zero => exact h
  | succ n ih => rw [← Nat.add_assoc]; simp only [ric, ih]; rfl
theorem ric_stop {a b q r k n v : Nat} (h : ric a b q r k = some v) (e : rdOk a b q r v = false) (hk : k < n) : ric a b q r n = none := by
  have h1 : ric a b q r (k + 1) = none := by show Option.bind _ _ = none; rw [h, Option.bind_some, e]; rfl
  have := ric_none h1 (n - (k + 1))
  rwa [show k + 1 + (n - (k + 1)) = n by omega] at this
theorem ric_go {a b q r k v : Nat} (h : ric a b q r k = some v) (e : rdOk a b q r v = true) : ric a b q r (k + 1) = some (rdV a b q r v) := by
  show Option.bind _ _ = _; rw [h, Option.bind_some, e]; rfl
def inB (n : Int) : Bool := decide (0 ≤ n) && decide (n ≤ 40)
def ricOk (a b q r : Nat) (n : Int) : Bool := if askB a b q r && inB n then (ric a b q r n.toNat).isSome else false
def ricV (a b q r : Nat) (n : Int) : Nat := if askB a b q r && inB n then (ric a b q r n.toNat).getD 0 else 0
theorem ricV_lt (a b q r : Nat) (n : Int) (hq : q < 18446744073709551616) : ricV a b q r n < 18446744073709551616 := by
  unfold ricV; split
  · cases h : ric a b q r n.toNat with
    | none => simp
    | some v => simpa using ric_lt (fun p _ => rdV_lt a b q r p) hq _ v h
  · decide

set_option maxHeartbeats 2000000 in
theorem ricS_any (a b q r : Nat) (n : Int) (w : World) (ha : a < 18446744073709551616) (hb : b < 18446744073709551616) (hq : q < 18446744073709551616) (hr : r < 18446744073709551616) :
    Calls Try.prog 9 #[.float .f64 a, .float .f64 b, .float .f64 q, .float .f64 r, .int .i64 n] w fun e w' => e = .returned (.tuple #[.float .f64 (ricV a b q r n), .bool (ricOk a b q r n)]) ∧ ∃ m, w' = w.drewN m := by
  have ci := fun w => askS_any a b q r w ha hb hq hr
  have cr := fun p w hp => roundS_any a b q r p w ha hb hq hr hp
  have hlt := fun k p => ric_lt (fun p _ => rdV_lt a b q r p) hq k p
  clear ha hb hq hr
  unfold ricV ricOk
  generalize askB a b q r = ask at *
  cases ask
  · clear cr
    go_enter Try.func9, Try.ntmps9
    go_wp2_with (first | (go_at_call 25; with_reducible refine (ci _).mono ?_; rintro e w' ⟨rfl, hw'⟩; have hs := hw'.symm; clear hw'; subst hs))
    go_ret2
    exact ⟨rfl, 0, rfl⟩
  by_cases h0 : 0 ≤ n
  rotate_left
  · have e : inB n = false := by unfold inB; simp [h0]
    rw [e]
    clear cr e
    go_enter Try.func9, Try.ntmps9
    go_wp2_with (first | (go_at_call 25; with_reducible refine (ci _).mono ?_; rintro e w' ⟨rfl, hw'⟩; have hs := hw'.symm; clear hw'; subst hs))
    go_ret2
    exact ⟨rfl, 0, rfl⟩
  by_cases h1 : n ≤ 40
  rotate_left
  · have e : inB n = false := by unfold inB; simp [h1]
    rw [e]
    clear cr e
    go_enter Try.func9, Try.ntmps9
    go_wp2_with (first | (go_at_call 25; with_reducible refine (ci _).mono ?_; rintro e w' ⟨rfl, hw'⟩; have hs := hw'.symm; clear hw'; subst hs))
    go_ret2
    exact ⟨rfl, 0, rfl⟩
  have e : inB n = true := by unfold inB; simp [h0, h1]
  rw [e]
  simp only [Bool.and_self, if_true]
  clear e
  obtain ⟨N, rfl⟩ : ∃ N : Nat, n = N := ⟨n.toNat, by omega⟩
  simp only [Int.toNat_natCast]
  have hN : N ≤ 40 := by omega
  clear h0 h1
  go_enter Try.func9, Try.ntmps9
  go_wp2_with (first | (go_at_call 25; with_reducible refine (ci _).mono ?_; rintro e w' ⟨rfl, hw'⟩; have hs := hw'.symm; clear hw'; subst hs))
  go_loopw [4, 12] (fun i y wr => ∃ k v : Nat, k ≤ N ∧ i = .int .i64 ((N : Int) - (k : Int)) ∧ y = .float .f64 v ∧ ric a b q r k = some v ∧ ∃ m, wr = w.drewN m) (fun i _ _ => (intOf i).toNat)
  case atStart => exact ⟨0, q, Nat.zero_le _, by simp, rfl, rfl, 0, rfl⟩
  case round =>
    obtain ⟨k, v, hk, rfl, rfl, hv, hm⟩ := hrel
    have HV : Hid (ric a b q r k = some v) := hv
    have HM : Hid (∃ m, wr = w.drewN m) := hm
    have cv := fun w => cr v w (hlt k v hv)
    clear hv hm cr hlt
    by_cases hlt : k < N
    · generalize hrv : rdV a b q r v = rv at *
      generalize hrk : rdOk a b q r v = rk at *
      have HRV : Hid (rdV a b q r v = rv) := hrv
      have HRK : Hid (rdOk a b q r v = rk) := hrk
      clear hrv hrk
      cases rk
      · go_wp2_with fail
        refine (cv wr).mono ?_
        rintro e w2 ⟨rfl, m2⟩
        have M2 := more_drew HM.out m2
        clear m2 cv
        go_wp2
        go_ret2
        rw [ric_stop HV.out HRK.out hlt]
        exact ⟨rfl, M2⟩
      · go_wp2_with fail
        refine (cv wr).mono ?_
        rintro e w2 ⟨rfl, m2⟩
        have M2 : Hid (∃ m, w2 = w.drewN m) := more_drew HM.out m2
        clear m2 cv
        go_wp2
        go_roundw
        case rel => exact ⟨k + 1, rv, by omega, by go_num, rfl, by rw [ric_go HV.out HRK.out, HRV.out], M2.out⟩
        case measure => simp [intOf]; omega
    · have hke : k = N := by omega
      subst hke
      clear cv
      go_wp2
      go_ret2
      rw [HV.out]
      exact ⟨rfl, HM.out⟩

set_option maxHeartbeats 2000000 in
theorem ricI_any (a b q r : Nat) (n : Int) (w : World) (ha : a < 18446744073709551616) (hb : b < 18446744073709551616) (hq : q < 18446744073709551616) (hr : r < 18446744073709551616) :
    Calls Try.prog 8 #[.float .f64 a, .float .f64 b, .float .f64 q, .float .f64 r, .int .i64 n] w fun e w' => e = .returned (.tuple #[.float .f64 (ricV a b q r n), .bool (ricOk a b q r n)]) ∧ Below w.heap.size w w' := by
  have ci := fun w => askI_any a b q r w ha hb hq hr
  have cr := fun p w hp => roundI_any a b q r p w ha hb hq hr hp
  have hlt := fun k p => ric_lt (fun p _ => rdV_lt a b q r p) hq k p
  clear ha hb hq hr
  unfold ricV ricOk
  generalize askB a b q r = ask at *
  cases ask
  · clear cr
    go_enter Try.func8, Try.ntmps8
    go_upto_region 2 with fail
    have B0 := box_new w a b q r 48
    have L0 : Below w.heap.size w (w.alloc (four a b q r 48)) := (Below.refl _ _).alloc (Nat.le_refl _) _
    generalize w.alloc (four a b q r 48) = w0 at *
    have B0' := B0
    obtain ⟨b0, p0, p1, p2, p3, -, -, -, -⟩ := B0'
    go_wp2_with fail
    refine (ci w0).mono ?_
    rintro e w1 ⟨rfl, hb1⟩
    have B1 := B0.on hb1
    have L1 := L0.trans (hb1.mono L0.size)
    clear ci B0 L0 b0 p0 p1 p2 p3 hb1
    go_wp2
    go_ret2
    exact ⟨rfl, L1⟩
  by_cases h0 : 0 ≤ n
  rotate_left
  · have e : inB n = false := by unfold inB; simp [h0]
    rw [e]
    clear cr e
    go_enter Try.func8, Try.ntmps8
    go_upto_region 2 with fail
    have B0 := box_new w a b q r 48
    have L0 : Below w.heap.size w (w.alloc (four a b q r 48)) := (Below.refl _ _).alloc (Nat.le_refl _) _
    generalize w.alloc (four a b q r 48) = w0 at *
    have B0' := B0
    obtain ⟨b0, p0, p1, p2, p3, -, -, -, -⟩ := B0'
    go_wp2_with fail
    refine (ci w0).mono ?_
    rintro e w1 ⟨rfl, hb1⟩
    have B1 := B0.on hb1
    have L1 := L0.trans (hb1.mono L0.size)
    clear ci B0 L0 b0 p0 p1 p2 p3 hb1
    go_wp2
    go_ret2
    exact ⟨rfl, L1⟩
  by_cases h1 : n ≤ 40
  rotate_left
  · have e : inB n = false := by unfold inB; simp [h1]
    rw [e]
    clear cr e
    go_enter Try.func8, Try.ntmps8
    go_upto_region 2 with fail
    have B0 := box_new w a b q r 48
    have L0 : Below w.heap.size w (w.alloc (four a b q r 48)) := (Below.refl _ _).alloc (Nat.le_refl _) _
    generalize w.alloc (four a b q r 48) = w0 at *
    have B0' := B0
    obtain ⟨b0, p0, p1, p2, p3, -, -, -, -⟩ := B0'
    go_wp2_with fail
    refine (ci w0).mono ?_
    rintro e w1 ⟨rfl, hb1⟩
    have B1 := B0.on hb1
    have L1 := L0.trans (hb1.mono L0.size)
    clear ci B0 L0 b0 p0 p1 p2 p3 hb1
    go_wp2
    go_ret2
    exact ⟨rfl, L1⟩
  have e : inB n = true := by unfold inB; simp [h0, h1]
  rw [e]
  simp only [Bool.and_self, if_true]
  clear e
  obtain ⟨N, rfl⟩ : ∃ N : Nat, n = N := ⟨n.toNat, by omega⟩
  simp only [Int.toNat_natCast]
  have hN : N ≤ 40 := by omega
  clear h0 h1
  go_enter Try.func8, Try.ntmps8
  go_upto_region 2 with fail
  have B0 := box_new w a b q r 48
  have L0 : Below w.heap.size w (w.alloc (four a b q r 48)) := (Below.refl _ _).alloc (Nat.le_refl _) _
  generalize w.alloc (four a b q r 48) = w0 at *
  have B0' := B0
  obtain ⟨b0, p0, p1, p2, p3, -, -, -, -⟩ := B0'
  go_wp2_with fail
  refine (ci w0).mono ?_
  rintro e w1 ⟨rfl, hb1⟩
  have B1 := B0.on hb1
  have L1 := L0.trans (hb1.mono L0.size)
  clear ci B0 L0 b0 p0 p1 p2 p3 hb1
  go_wp2
  go_loopw [13, 34] (fun y i wr => ∃ k v : Nat, k ≤ N ∧ i = .int .i64 (k : Int) ∧ y = .float .f64 v ∧ ric a b q r k = some v ∧ Box wr w.heap.size a b q r ∧ Below w.heap.size w wr) (fun _ i _ => N - (intOf i).toNat)
  case atStart => exact ⟨0, q, Nat.zero_le _, rfl, rfl, rfl, B1, L1⟩
  case round =>
    obtain ⟨k, v, hk, rfl, rfl, hv, hB, hL⟩ := hrel
    have HV : Hid (ric a b q r k = some v) := hv
    have cv := fun w => cr v w (hlt k v hv)
    clear hv cr hlt B1 L1
    by_cases hlt : k < N
    · generalize hrv : rdV a b q r v = rv at *
      generalize hrk : rdOk a b q r v = rk at *
      have HRV : Hid (rdV a b q r v = rv) := hrv
      have HRK : Hid (rdOk a b q r v = rk) := hrk
      clear hrv hrk
      have hB' := hB
      obtain ⟨b0, p0, p1, p2, p3, -, -, -, -⟩ := hB'
      cases rk
      · go_wp2_with fail
        refine (cv wr).mono ?_
        rintro e w2 ⟨rfl, m2⟩
        have L2 := hL.trans (m2.mono hL.size)
        clear m2 cv hB hL b0 p0 p1 p2 p3
        go_wp2
        go_ret2
        rw [ric_stop HV.out HRK.out hlt]
        exact ⟨rfl, L2⟩
      · go_wp2_with fail
        refine (cv wr).mono ?_
        rintro e w2 ⟨rfl, m2⟩
        have L2 := hL.trans (m2.mono hL.size)
        have B2 := hB.on m2
        clear m2 cv hB hL b0 p0 p1 p2 p3
        go_wp2
        go_roundw
        case rel => exact ⟨k + 1, rv, by omega, by go_num, rfl, by rw [ric_go HV.out HRK.out, HRV.out], B2, L2⟩
        case measure => simp [intOf]; omega
    · have hke : k = N := by omega
      subst hke
      clear cv hB
      go_wp2
      go_ret2
      rw [HV.out]
      exact ⟨rfl, hL⟩

set_option maxHeartbeats 1000000 in
theorem ricLaw (a b q r : Nat) (n : Int) (w : World) (ha : a < 18446744073709551616) (hb : b < 18446744073709551616) (hq : q < 18446744073709551616) (hr : r < 18446744073709551616) :
    Calls Try.prog 4 #[.float .f64 a, .float .f64 b, .float .f64 q, .float .f64 r, .int .i64 n] w fun e w' => e = .returned (.bool true) ∧ Below w.heap.size w w' := by
  have c1 := ricS_any a b q r n w ha hb hq hr
  have c2 := fun w => ricI_any a b q r n w ha hb hq hr
  have c3 := fun w => same_any (ricV a b q r n) w (ricV_lt a b q r n hq)
  clear ha hb hq hr
  generalize ricV a b q r n = gv at *
  generalize ricOk a b q r n = gk at *
  go_enter Try.func4, Try.ntmps4
  go_wp2_with fail
  refine c1.mono ?_
  rintro e w1 ⟨rfl, m1⟩
  have L1 := below_drew (Below.refl w.heap.size w) m1
  clear m1 c1
  go_wp2_with fail
  refine (c2 w1).mono ?_
  rintro e w2 ⟨rfl, h2⟩
  have L2 := L1.trans (h2.mono L1.size)
  clear c2 L1 h2
  cases gk
  · go_wp2_with (first | (go_at_call 13; with_reducible refine (c3 _).mono ?_; rintro e w' ⟨rfl, hw'⟩; have hs := hw'.symm; clear hw'; subst hs))
    go_ret
    exact ⟨rfl, L2⟩
  · go_wp2_with (first | (go_at_call 13; with_reducible refine (c3 _).mono ?_; rintro e w' ⟨rfl, hw'⟩; have hs := hw'.symm; clear hw'; subst hs))
    go_ret
    exact ⟨rfl, L2⟩
end Go.Proofs.Ytlmbbolhcbccdaa
