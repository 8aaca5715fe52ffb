/- Events that are marked; texts that are held. -/
import Derived.Test.YtoleblhidieheaaMoE
namespace Go.Proofs.Ytoleblhidieheaa
open Go.RowKit
set_option maxHeartbeats 2000000 in
theorem markEv (a : Option Addr) (n cap k lo hi : Nat) (f : Nat → Value) (w : World) (hn : n ≤ 1048576) (hk : k ≤ 8388608) (h : VQ w lo hi a (n * 2) f) :
    Calls Try.prog 17 #[.slice a n cap, .int .i64 (k : Int)] w fun e w' => e = .returned (.int .i64 ((k + n * 2 : Nat) : Int)) ∧ Turns lo hi w w' := by
  by_cases h0 : 0 < n
  case neg =>
    have hm0 : n = 0 := by omega
    subst hm0
    go_enter Try.func17, Try.ntmps17
    go_wp2
    go_loopw [1, 5] (fun v i wr => v = .int .i64 (k : Int) ∧ i = .int .i64 0 ∧ wr = w) (fun _ _ _ => 0)
    case atStart => exact ⟨rfl, rfl, rfl⟩
    case round =>
      obtain ⟨rfl, rfl, hw⟩ := hrel
      have hw' := hw.symm
      clear hw
      subst hw'
      go_wp2
      go_ret
      exact ⟨ret_int (by simp), turns_of (Below.refl _ _)⟩
  case pos =>
    obtain ⟨b, rfl, e1, e2, hP⟩ := h (by omega)
    have HP0 : Hid (∃ g, VP w b (n * 2) g) := ⟨f, hP⟩
    clear h hP
    go_enter Try.func17, Try.ntmps17
    go_wp2
    go_loopw [1, 5] (fun v i wr => ∃ (p K : Nat), v = .int .i64 (K : Int) ∧ i = .int .i64 (p : Int) ∧ p ≤ n ∧ Hid (K = k + p * 2) ∧ Hid (∃ g, VP wr b (n * 2) g) ∧ Turns lo hi w wr) (fun _ i _ => n - (intOf i).toNat)
    case atStart => exact ⟨0, k, rfl, rfl, Nat.zero_le _, (rfl : k = k + 0 * 2), HP0, turns_of (Below.refl _ _)⟩
    case round =>
      obtain ⟨p, K, rfl, rfl, hp, HK, HP, hT⟩ := hrel
      clear HP0
      have hKb : K ≤ 12582912 := by have := HK.out; omega
      by_cases hlt : p < n
      · have j0 : (0 : Int) ≤ (p : Int) := by omega
        have j1 : (p : Int) < (n : Int) := by omega
        have kT := markText_any K wr (by omega)
        obtain ⟨s, hs⟩ : ∃ s, mkT K = s := ⟨_, rfl⟩
        rw [hs] at kT
        clear hs
        obtain ⟨g, hg⟩ := HP.out
        clear HP
        go_wp2_with fail
        refine kT.mono ?_
        rintro e w2 ⟨rfl, hb2⟩
        have hg2 := hg.below hb2
        have hT2 := hT.trans (turns_of (lo := lo) (hi := hi) hb2)
        clear hg hT hb2 kT
        have hg3 := hg2.set (k := p * 2) (by omega) (.string s)
        have hT3 := hT2.trans (turns_set (k := p * 2) (.string s) e1 e2)
        have y0 := hg2.c (p * 2) (by omega)
        have y1 := hg2.fz (p * 2)
        have y2 := hg2.lt
        have jK : (0 : Int) ≤ (K : Int) := by omega
        have jK2 : (K : Int) ≤ 12582912 := by omega
        clear hg2 hT2
        go_upto_region 6 with fail
        clear y0 y1 y2
        generalize w2.setCell ⟨b, p * 2, none⟩ (.string s) = w3 at *
        have kT := markText_any (K + 1) w3 (by omega)
        obtain ⟨t, ht⟩ : ∃ t, mkT (K + 1) = t := ⟨_, rfl⟩
        rw [ht, show ((K + 1 : Nat) : Int) = (K : Int) + 1 by omega] at kT
        clear ht
        go_wp2_with fail
        refine kT.mono ?_
        rintro e w4 ⟨rfl, hb4⟩
        have hg4 := hg3.below hb4
        have hT4 := hT3.trans (turns_of (lo := lo) (hi := hi) hb4)
        clear hg3 hT3 hb4 kT
        have HP5 : Hid (∃ g, VP (w4.setCell ⟨b, p * 2 + 1, none⟩ (.string t)) b (n * 2) g) := ⟨_, hg4.set (k := p * 2 + 1) (by omega) (.string t)⟩
        have hT5 := hT4.trans (turns_set (k := p * 2 + 1) (.string t) e1 e2)
        have y0 := hg4.c (p * 2 + 1) (by omega)
        have y1 := hg4.fz (p * 2 + 1)
        have y2 := hg4.lt
        have HK2 : Hid (K + 2 = k + (p + 1) * 2) := by show _ = _; rw [HK.out]; omega
        clear hg4 hT4 HK
        go_wp2
        exact ⟨⟨p + 1, K + 2, by first | go_num | rfl | (congr 1; omega), by go_num, by omega, HK2, HP5, hT5⟩, by simp [intOf]; omega⟩
      · have hpn : p = n := by omega
        subst hpn
        clear HP
        go_wp2
        go_ret
        exact ⟨ret_int (by rw [HK.out]), hT⟩
set_option maxHeartbeats 2000000 in
theorem heldSt (a : Option Addr) (n cap k : Nat) (w : World) (hn : n ≤ 1048576) (hk : k ≤ 8388608) (h : SL w a n (fun i => mkT (k + i))) :
    Calls Try.prog 19 #[.slice a n cap, .int .i64 (k : Int)] w fun e w' => e = .returned (.int .i64 ((k + n : Nat) : Int)) ∧ Below w.heap.size w w' := by
  go_enter Try.func19, Try.ntmps19
  go_wp2
  go_loopw [1, 5] (fun v i wr => ∃ (p K : Nat), v = .int .i64 (K : Int) ∧ i = .int .i64 (p : Int) ∧ p ≤ n ∧ Hid (K = k + p) ∧ Below w.heap.size w wr) (fun _ i _ => n - (intOf i).toNat)
  case atStart => exact ⟨0, k, rfl, rfl, Nat.zero_le _, (rfl : k = k + 0), Below.refl _ _⟩
  case round =>
    obtain ⟨p, K, rfl, rfl, hp, HK, hB⟩ := hrel
    have hKb : K ≤ 12582912 := by have := HK.out; omega
    by_cases hlt : p < n
    · obtain ⟨b1, o1, rfl, l1, hc1⟩ := (h.below hB) (by omega)
      have y1 : wr.cell? ⟨b1, o1 + p, none⟩ = some (.string (mkT (k + p))) := hc1 p hlt
      have j0 : (0 : Int) ≤ (p : Int) := by omega
      have j1 : (p : Int) < (n : Int) := by omega
      have kT := markText_any K wr.drew (by omega)
      rw [← HK.out] at y1
      have HK2 : Hid (K + 1 = k + (p + 1)) := by show _ = _; rw [HK.out]; omega
      have e1 := bl_same (mkT K)
      have e2 := bl_same' (mkT K)
      have hw0 := Below.refl wr.heap.size wr
      have jK : (0 : Int) ≤ (K : Int) := by omega
      have jK2 : (K : Int) ≤ 12582912 := by omega
      clear hc1 h HK
      generalize mkT K = s at *
      go_wp2_with fail
      go_region_held3 (fun w' => w'.cell? ⟨b1, o1 + p, none⟩ = some (.string s) ∧ w'.cell? ⟨b1, o1 + p, none⟩ = some (.string s))
        (first | (exact ⟨(hw0.drew.cell (p := ⟨b1, _, none⟩) l1).trans y1, (hw0.drew.cell (p := ⟨b1, _, none⟩) l1).trans y1⟩) | (exact ⟨(hw1.cell (p := ⟨b1, _, none⟩) l1).trans y1, (hw1.cell (p := ⟨b1, _, none⟩) l1).trans y1⟩) | (fail))
        ((go_at_call 35; refine kT.mono ?_; rintro e w1 ⟨rfl, hbn⟩; have hw1 := stepA hw0.drew hbn; clear hbn))
      go_wp2
      go_roundw
      case rel => exact ⟨p + 1, K + 1, by go_num, by go_num, by omega, HK2, hB.trans (hw1.mono hB.size)⟩
      case measure => simp [intOf]; omega
    · have hpn : p = n := by omega
      subst hpn
      clear h
      go_wp2
      go_ret
      exact ⟨ret_int (by rw [HK.out]), hB⟩
end Go.Proofs.Ytoleblhidieheaa
