/- Chores played, as the model plays them: every argument (tools/gen_pn4.py). -/
import Derived.Test.YtnadedncjbibhaaPnRunS
namespace Go.Proofs.Ytnadedncjbibhaa
open Go.RowKit
set_option maxRecDepth 20000 in
set_option maxHeartbeats 4000000 in
theorem sRun (ur : Bool) (a b : Option Addr) (n c m d : Nat) (F f : Nat → Int) (u : Int) (w : World) (hm : m ≤ 1048576) (h : IL w a (n * 3) F) (h2 : IL w b m f) :
    Calls Try.prog 38 #[.slice a n c, .slice b m d, .int .i64 u, .bool ur] w fun e w' => AnsPy ur n F m f u w w' e ∧ Below w.heap.size w w' := by
  cases hv : gcV n F with
  | false =>
    have HV : Hid (gcV n F = false) := hv
    have HB : Hid (okR n F m f u = false) := okR_no (by rw [hv]; simp)
    clear hv
    go_enter Try.func38, Try.ntmps38
    go_wp2_with fail
    refine (sGoodC a n c F w h).mono ?_
    rintro e w1 ⟨rfl, hb1⟩
    rw [HV.out]
    go_wp2
    go_ret3
    exact ⟨ansPy_no HB.out hb1.size, hb1⟩
  | true =>
    have HV : Hid (gcV n F = true) := hv
    cases hq : ((m : Int) != (n : Int)) with
    | true =>
      have HB : Hid (okR n F m f u = false) := okR_no (by simp at hq; omega)
      clear hv
      go_enter Try.func38, Try.ntmps38
      go_wp2_with fail
      refine (sGoodC a n c F w h).mono ?_
      rintro e w1 ⟨rfl, hb1⟩
      rw [HV.out]
      go_wp2
      go_ret3
      exact ⟨ansPy_no HB.out hb1.size, hb1⟩
    | false =>
      have e : m = n := by simp at hq; omega
      by_cases h0 : u < 0
      · have HB : Hid (okR n F m f u = false) := okR_no (by omega)
        clear hv e
        go_enter Try.func38, Try.ntmps38
        go_wp2_with fail
        refine (sGoodC a n c F w h).mono ?_
        rintro e w1 ⟨rfl, hb1⟩
        rw [HV.out]
        go_wp2
        go_ret3
        exact ⟨ansPy_no HB.out hb1.size, hb1⟩
      have h0' : ¬ u < 0 := h0
      by_cases h1 : 2000 < u
      · have HB : Hid (okR n F m f u = false) := okR_no (by omega)
        clear hv e
        go_enter Try.func38, Try.ntmps38
        go_wp2_with fail
        refine (sGoodC a n c F w h).mono ?_
        rintro e w1 ⟨rfl, hb1⟩
        rw [HV.out]
        go_wp2
        go_ret3
        exact ⟨ansPy_no HB.out hb1.size, hb1⟩
      cases hf : gfK f m with
      | true =>
        have ok : okR n F m f u = true := okR_yes hv e hf (by omega) (by omega)
        subst e
        have k := sRunIn ur a b m c d F f u.toNat w hv hf (by omega) h h2
        rw [Int.toNat_of_nonneg (by omega)] at k
        refine k.mono fun e w' ⟨h3, h4⟩ => ⟨?_, h4⟩
        unfold AnsPy rnM rnN rnG rnW
        rw [ok]
        exact h3
      | false =>
        have HB : Hid (okR n F m f u = false) := okR_no (by rw [hf]; simp)
        have HF : Hid (gfK f m = false) := hf
        have h1' : ¬ 2000 < u := h1
        clear hv e hf
        go_enter Try.func38, Try.ntmps38
        go_wp2_with fail
        refine (sGoodC a n c F w h).mono ?_
        rintro e w1 ⟨rfl, hb1⟩
        rw [HV.out]
        go_upto_region 4 with fail
        go_loopw [45] (fun i wr => ∃ k : Nat, k ≤ m ∧ i = .int .i64 (k : Int) ∧ Hid (gfK f k = true) ∧ wr = w1) (fun i _ => m - (intOf i).toNat)
        case atStart => exact ⟨0, Nat.zero_le _, rfl, (rfl : gfK f 0 = true), rfl⟩
        case round =>
          obtain ⟨k, hk, rfl, HK, hwr⟩ := hrel
          subst hwr
          by_cases hlt : k < m
          · obtain ⟨gb, go_, rfl, gl_, hc⟩ := (h2.below hb1) (by omega)
            have x0 := hc k hlt
            have i0 : (0 : Int) ≤ (k : Int) := by omega
            have i1 : (k : Int) < (m : Int) := by omega
            have HY : Hid (0 ≤ f k ∧ f k ≤ 60 → gfK f (k + 1) = true) := fun h9 => by rw [gfK, HK.out, decide_eq_true h9]; rfl
            clear hc HF HK
            generalize f k = X at *
            by_cases g0 : X < 0
            · go_wp2
              go_ret3
              exact ⟨ansPy_no HB.out hb1.size, hb1⟩
            by_cases g1 : 60 < X
            · go_wp2
              go_ret3
              exact ⟨ansPy_no HB.out hb1.size, hb1⟩
            have HR : Hid (gfK f (k + 1) = true) := HY.out ⟨by omega, by omega⟩
            go_wp2
            go_roundw
            case rel => exact ⟨k + 1, by omega, by go_num, HR, trivial⟩
            case measure => simp [intOf]; omega
          · exfalso
            have e : k = m := by omega
            subst e
            have q := HF.out
            rw [HK.out] at q
            cases q
set_option maxHeartbeats 1000000 in
theorem sRunRanked (a b : Option Addr) (n c m d : Nat) (F f : Nat → Int) (u : Int) (w : World) (hm : m ≤ 1048576) (h : IL w a (n * 3) F) (h2 : IL w b m f) :
    Calls Try.prog 11 #[.slice a n c, .slice b m d, .int .i64 u] w fun e w' => AnsPy false n F m f u w w' e ∧ Below w.heap.size w w' := by
  go_enter Try.func11, Try.ntmps11
  go_wp2_with fail
  refine (sRun false a b n c m d F f u w hm h h2).mono ?_
  rintro e w1 ⟨⟨a1, c1, a2, c2, X, rfl, h3⟩, hb1⟩
  go_wp2
  go_ret3
  exact ⟨⟨a1, c1, a2, c2, X, rfl, h3⟩, hb1⟩
set_option maxHeartbeats 1000000 in
theorem sRunUrgent (a b : Option Addr) (n c m d : Nat) (F f : Nat → Int) (u : Int) (w : World) (hm : m ≤ 1048576) (h : IL w a (n * 3) F) (h2 : IL w b m f) :
    Calls Try.prog 30 #[.slice a n c, .slice b m d, .int .i64 u] w fun e w' => AnsPy true n F m f u w w' e ∧ Below w.heap.size w w' := by
  go_enter Try.func30, Try.ntmps30
  go_wp2_with fail
  refine (sRun true a b n c m d F f u w hm h h2).mono ?_
  rintro e w1 ⟨⟨a1, c1, a2, c2, X, rfl, h3⟩, hb1⟩
  go_wp2
  go_ret3
  exact ⟨⟨a1, c1, a2, c2, X, rfl, h3⟩, hb1⟩
end Go.Proofs.Ytnadedncjbibhaa
