/- The walk of the law on counts that are unwrapped. -/
import Derived.Test.YtlianbeogmefhaaUnDraw
import Derived.Test.YtlianbeogmefhaaUnLaw
import Derived.Test.YtlianbeogmefhaaWcLaw
namespace Go.Proofs.Ytlianbeogmefhaa
open Go.RowKit

theorem okU_parts {f : Nat → Int} {s : Int} {len : Nat} (h : okU f s len = true) : (2 ≤ s ∧ s ≤ 1000000) ∧ 1 ≤ len ∧ len ≤ 60 ∧ okK f s len = true := by
  simp only [okU, Bool.and_eq_true, decide_eq_true_eq] at h
  exact ⟨sizeB_t.1 h.1.1, h.1.2.1, h.1.2.2, h.2⟩
theorem un_wc {f : Nat → Int} {s : Int} {len i : Nat} (h : okU f s len = true) (hi : i < len) : wc (un f s i) s = f i := by
  obtain ⟨hs, h1, h2, h3⟩ := okU_parts h
  have hb := un_bd h3 (by omega) hs.2 i hi
  rw [wc_in (sizeB_t.2 hs) (by simp [inB]; omega)]
  exact un_mod h3 hi

set_option maxHeartbeats 4000000 in
theorem uwLaw (a : Option Addr) (len cap : Nat) (w : World) (hl : len ≤ 1048576) (hb : 0 < len → ∃ b off, a = some ⟨b, off, none⟩ ∧ b < w.heap.size ∧ ∀ i, i < len → ∃ v : Int, w.cell? ⟨b, off + i, none⟩ = some (.int .u8 v) ∧ 0 ≤ v ∧ v ≤ 255) :
    Calls Try.prog 3 #[.slice a len cap] w fun e w' => e = .returned (.bool true) ∧ Below w.heap.size w w' := by
  have hd := draw_any a len cap w hl hb
  clear hb
  have j0 : ¬ (1048576 : Int) < (len : Int) := by omega
  go_enter Try.func3, Try.ntmps3
  go_wp2_with fail
  refine hd.mono ?_
  rintro e w1 ⟨a', k, c', F, s, rfl, hk, hA1, hB1⟩
  clear hd
  go_wp2_with fail
  refine (implUn_any a' k c' F s w1 (by omega) hA1).mono ?_
  rintro e w2 ⟨hX, hb2⟩
  have hA2 := hA1.below hb2
  have hB2 := stepA hB1 hb2
  clear hb2 hB1
  cases hz : okU F s k with
  | false =>
    obtain rfl := ansU_f hX hz
    clear hX hA1
    go_wp2_with fail
    refine (specUn_any a' k c' F s w2 (by omega) hA2).mono ?_
    rintro e w3 ⟨hY, hb3⟩
    obtain rfl := ansU_f hY hz
    have hB3 := stepA hB2 hb3
    clear hY hA2 hb3 hB2
    go_wp2
    go_ret
    exact ⟨rfl, hB3⟩
  | true =>
    obtain ⟨g, gc, rfl, -, hP⟩ := ansU_t hX hz
    clear hX hA1
    go_wp2_with fail
    refine (specUn_any a' k c' F s w2 (by omega) hA2).mono ?_
    rintro e w3 ⟨hY, hb3⟩
    obtain ⟨g2, gc2, rfl, -, -⟩ := ansU_t hY hz
    have hB3 := stepA hB2 hb3
    have hP3 := hP.below hb3 hP.lt
    have hA3 := hA2.below hb3
    clear hY hA2 hb3 hB2 hP
    obtain ⟨hs, hk1, hk2, hok⟩ := okU_parts hz
    go_wp2_with fail
    go_loopw [42] (fun i wr => ∃ m : Nat, m ≤ k ∧ i = .int .i64 m ∧ Below w3.heap.size w3 wr) (fun i _ => k - (intOf i).toNat)
    case atStart => exact ⟨0, Nat.zero_le _, rfl, Below.refl _ _⟩
    case round =>
      obtain ⟨m, hm, rfl, hBr⟩ := hrel
      have hBw := hB3.trans (hBr.mono hB3.size)
      by_cases hlt : m < k
      · have hP4 := hP3.below hBr hP3.lt
        obtain ⟨b, off, rfl, hbw, hcell⟩ := (hA3.below hBr) (by omega)
        have hx := hP4.c m hlt
        have hy := hcell m hlt
        have hwc := un_wc hz hlt
        have hcall : ∀ w : World, Calls Try.prog 9 #[.int .i64 (un F s m), .int .i64 s] w fun e w' => e = .returned (.int .i64 (F m)) ∧ w' = w := fun w => by
          have := implWrap_any (un F s m) s w
          rw [hwc] at this
          exact this
        have hbd := un_bd hok (by omega) hs.2 m hlt
        have i0 : (0 : Int) ≤ (m : Int) := by omega
        have i1 : (m : Int) < (k : Int) := by omega
        by_cases m0 : 0 < m
        · have hx' := hP4.c (m - 1) (by omega)
          have hbd' := un_bd hok (by omega) hs.2 (m - 1) (by omega)
          have hst : 2 * (un F s m - un F s (m - 1)) ≤ s ∧ -s < 2 * (un F s m - un F s (m - 1)) := by
            obtain ⟨q, rfl⟩ : ∃ q, m = q + 1 := ⟨m - 1, by omega⟩
            exact near_step (un F s q) (F (q + 1)) (by omega)
          have i2 : (0 : Int) < (m : Int) := by omega
          have i3 : (0 : Int) ≤ (m : Int) - 1 := by omega
          have i4 : (m : Int) - 1 < (k : Int) := by omega
          clear hP4 hcell hP3 hA3 hB3 hz hok hwc
          generalize un F s m = x at hx hbd hst hcall
          generalize un F s (m - 1) = x' at hx' hbd' hst
          generalize F m = y at hy hcall
          have k0 : decide ((0 : Int) < (m : Int)) = true := decide_eq_true i2
          have k1 : decide (s < 2 * (x - x')) = false := decide_eq_false (by omega)
          have k2 : decide (2 * (x - x') ≤ -s) = false := decide_eq_false (by omega)
          go_wp2_with fail
          go_quiet ((go_at_call 9; exact Calls.quiet_of_same (hcall _)))
          go_wp2
          go_quiet (fail)
          go_wp2
          go_roundw
          case rel =>
            refine ⟨m + 1, by omega, by go_num, ?_⟩
            repeat' (first | exact hBr | refine below_dr ?_ _)
          case measure => simp [intOf]; omega
        · have i2 : ¬ (0 : Int) < (m : Int) := by omega
          have k0 : decide ((0 : Int) < (m : Int)) = false := decide_eq_false i2
          clear hP4 hcell hP3 hA3 hB3 hz hok hwc
          generalize un F s m = x at hx hbd hcall
          generalize F m = y at hy hcall
          go_wp2_with fail
          go_quiet ((go_at_call 9; exact Calls.quiet_of_same (hcall _)))
          go_wp2
          go_quiet (fail)
          go_wp2
          go_roundw
          case rel =>
            refine ⟨m + 1, by omega, by go_num, ?_⟩
            repeat' (first | exact hBr | refine below_dr ?_ _)
          case measure => simp [intOf]; omega
      · have i1 : ¬ (m : Int) < (k : Int) := by omega
        clear hP3 hA3
        go_wp2
        go_ret
        exact ⟨rfl, hBw⟩

set_option maxHeartbeats 400000 in
theorem uwLaw_long (a : Option Addr) (len cap : Nat) (w : World) (hL : 1048576 < len) (hm : len ≤ 9223372036854775807) :
    Calls Try.prog 3 #[.slice a len cap] w fun e w' => e = .returned (.bool true) ∧ Below w.heap.size w w' := by
  have j0 : (1048576 : Int) < (len : Int) := by omega
  go_enter Try.func3, Try.ntmps3
  go_wp2
  go_ret
  exact ⟨rfl, Below.refl _ _⟩
end Go.Proofs.Ytlianbeogmefhaa
