/- RunFlat, as the program goes. -/
import Derived.Test.YtjefakfongehdaaRChRfM
import Derived.Test.YtjefakfongehdaaRChEvI
namespace Go.Proofs.YtjefakfongehdaaR
open Go.RowKit
def nmB (x : Int) (n : Nat) : Bool := decide (0 ≤ x) && decide (x < (n : Int))
theorem isRow_any (x : Int) (a : Option Addr) (n c : Nat) (w : World) : Calls Try.prog 60 #[.int .i64 x, .slice a n c] w fun e w' => e = .returned (.bool (nmB x n)) ∧ w' = w := by
  by_cases h0 : 0 ≤ x
  · by_cases h1 : x < (n : Int)
    · have hr : nmB x n = true := by unfold nmB; simp [h0, h1]
      rw [hr]
      go_enter Try.func60, Try.ntmps60
      go_wp2
      go_ret
      exact ⟨rfl, rfl⟩
    · have hr : nmB x n = false := by unfold nmB; simp [h1]
      rw [hr]
      go_enter Try.func60, Try.ntmps60
      go_wp2
      go_ret
      exact ⟨rfl, rfl⟩
  · have hr : nmB x n = false := by unfold nmB; simp [h0]
    rw [hr]
    go_enter Try.func60, Try.ntmps60
    go_wp2
    go_ret
    exact ⟨rfl, rfl⟩
set_option maxHeartbeats 1000000 in
theorem hasList_any (a : Option Addr) (n c : Nat) (K : Nat → Nat) (F : Nat → Nat → Int) (x : Int) (w : World) (hA : RR w a n K F) :
    Calls Try.prog 38 #[.slice a n c, .int .i64 x] w fun e w' => e = .returned (.bool (hasB n K x)) ∧ w' = w := by
  have kN := fun w => isRow_any x a n c w
  cases hq : nmB x n with
  | false =>
    have hr : hasB n K x = false := by unfold hasB; unfold nmB at hq; rw [hq]; rfl
    rw [hr]
    rw [hq] at kN
    clear hr hq
    go_enter Try.func38, Try.ntmps38
    go_wp2_with fail
    refine (kN _).mono ?_
    rintro e w2 ⟨rfl, hw2⟩
    have hs2 := hw2.symm
    clear hw2
    subst hs2
    go_wp2
    go_ret
    exact ⟨rfl, rfl⟩
  | true =>
    rw [hq] at kN
    have h9 : 0 ≤ x ∧ x < (n : Int) := by unfold nmB at hq; simpa using hq
    obtain ⟨S, rfl⟩ : ∃ S : Nat, x = (S : Int) := ⟨x.toNat, by omega⟩
    have hr : hasB n K (S : Int) = decide (0 < K S) := by unfold hasB; unfold nmB at hq; rw [hq, Int.toNat_natCast]; rfl
    rw [hr]
    obtain ⟨A, C, hL⟩ := hA
    obtain ⟨b, off, rfl, hbw, hcell⟩ := hL.out (by omega)
    have y0 := hcell S (by omega)
    clear hr hq hcell hL
    have j0 : (0 : Int) ≤ (S : Int) := by omega
    have j1 : (S : Int) < (n : Int) := by omega
    by_cases k0 : 0 < K S
    · rw [decide_eq_true k0]
      have k1 : (0 : Int) < (K S : Int) := by omega
      generalize K S = KS at *
      go_enter Try.func38, Try.ntmps38
      go_wp2_with fail
      refine (kN _).mono ?_
      rintro e w2 ⟨rfl, hw2⟩
      have hs2 := hw2.symm
      clear hw2
      subst hs2
      go_wp2
      go_ret
      exact ⟨rfl, rfl⟩
    · rw [decide_eq_false k0]
      have k1 : ¬ (0 : Int) < (K S : Int) := by omega
      have k2 : K S = 0 := by omega
      rw [k2] at y0
      clear k0 k1 k2
      go_enter Try.func38, Try.ntmps38
      go_wp2_with fail
      refine (kN _).mono ?_
      rintro e w2 ⟨rfl, hw2⟩
      have hs2 := hw2.symm
      clear hw2
      subst hs2
      go_wp2
      go_ret
      exact ⟨rfl, rfl⟩
set_option maxHeartbeats 1000000 in
theorem iOther (b : Option Addr) (k d : Nat) (w : World) : Calls Try.prog 58 #[.slice b k d] w fun e w' => e = .returned (.bool (!(rowB k))) ∧ w' = w := by
  by_cases k0 : k = 0
  · subst k0
    have hr : rowB 0 = true := rfl
    rw [hr]
    go_enter Try.func58, Try.ntmps58
    go_wp2
    go_ret
    exact ⟨rfl, rfl⟩
  by_cases k6 : k = 6
  · subst k6
    have hr : rowB 6 = true := rfl
    rw [hr]
    go_enter Try.func58, Try.ntmps58
    go_wp2
    go_ret
    exact ⟨rfl, rfl⟩
  · have hr : rowB k = false := by unfold rowB; simp [k0, k6]
    rw [hr]
    have k0' : ((k : Int) != 0) = true := by simpa using k0
    have k6' : ((k : Int) != 6) = true := by simp; omega
    clear k6 hr
    go_enter Try.func58, Try.ntmps58
    go_wp2
    go_ret
    exact ⟨rfl, rfl⟩
def IdxR (K : Nat → Nat) (k : Nat) (e : Ending) : Prop := ∃ d : Int, e = .returned (.int .i64 d) ∧ decide (0 ≤ d) = !(rowsB K k)
set_option maxHeartbeats 1000000 in
theorem idxRow (a : Option Addr) (n c : Nat) (K : Nat → Nat) (F : Nat → Nat → Int) (w : World) (hn : n ≤ 1048576) (hA : RR w a n K F) :
    Calls Try.prog 69 #[.slice a n c, .func (.func 58) #[] #[]] w fun e w' => IdxR K n e ∧ w' = w := by
  have HN : Hid (∀ k, k < n → rowB (K k) = false → rowsB K n = false) := fun k hk he => rowsB_no hk he
  have HS : Hid (∀ k, rowsB K (k + 1) = (rowsB K k && rowB (K k))) := fun k => rfl
  have kE := fun b k d w => iOther b k d w
  obtain ⟨A, C, hL⟩ := hA
  go_enter Try.func69, Try.ntmps69
  go_wp2
  go_loopw [8] (fun i wr => ∃ k : Nat, k ≤ n ∧ i = .int .i64 (k : Int) ∧ Hid (rowsB K k = true) ∧ wr = w) (fun i _ => n - (intOf i).toNat)
  case atStart => exact ⟨0, Nat.zero_le _, rfl, (rfl : rowsB K 0 = true), rfl⟩
  case round =>
    obtain ⟨k, hk, rfl, HE, hw⟩ := hrel
    have hw' := hw.symm
    clear hw
    subst hw'
    by_cases hlt : k < n
    · obtain ⟨b, off, rfl, hbw, hcell⟩ := hL.out (by omega)
      have y0 := hcell k hlt
      have j0 : (0 : Int) ≤ (k : Int) := by omega
      have j1 : (k : Int) < (n : Int) := by omega
      have kE2 := fun w => kE (A k) (K k) (C k) w
      have HN2 : Hid (rowB (K k) = false → rowsB K n = false) := HN.out k hlt
      have HS2 : Hid (rowB (K k) = true → rowsB K (k + 1) = true) := fun e => by
        show rowsB K (k + 1) = true
        rw [HS.out k, HE.out, e]; rfl
      clear hcell hL kE HN HS HE
      generalize rowB (K k) = P at *
      generalize K k = KK at *
      generalize A k = AA at *
      generalize C k = CC at *
      cases P with
      | false =>
        have HR : Hid (IdxR K n (.returned (.int .i64 (k : Int)))) := ⟨(k : Int), rfl, by rw [HN2.out rfl]; simp⟩
        clear HN2 HS2
        go_wp2_with (first | (go_at_call 58; refine (kE2 _).mono ?_; rintro e w9 ⟨rfl, hw9⟩; have hs9 := hw9.symm; clear hw9; subst hs9) | fail)
        go_ret
        exact ⟨HR.out, rfl⟩
      | true =>
        have HR : Hid (rowsB K (k + 1) = true) := HS2.out rfl
        clear HN2 HS2
        go_wp2_with (first | (go_at_call 58; refine (kE2 _).mono ?_; rintro e w9 ⟨rfl, hw9⟩; have hs9 := hw9.symm; clear hw9; subst hs9) | fail)
        exact ⟨⟨k + 1, by omega, by go_num, HR, trivial⟩, by simp [intOf]; omega⟩
    · have hkq : k = n := by omega
      subst hkq
      have HR : Hid (IdxR K k (.returned (.int .i64 (-1)))) := ⟨-1, rfl, by rw [HE.out]; rfl⟩
      clear kE HN HS hL HE
      go_wp2
      go_ret
      exact ⟨HR.out, rfl⟩
set_option maxHeartbeats 1000000 in
theorem conRow (a : Option Addr) (n c : Nat) (K : Nat → Nat) (F : Nat → Nat → Int) (w : World) (hn : n ≤ 1048576) (hA : RR w a n K F) :
    Calls Try.prog 59 #[.slice a n c, .func (.func 58) #[] #[]] w fun e w' => e = .returned (.bool (!(rowsB K n))) ∧ w' = w := by
  have hI := idxRow a n c K F w hn hA
  go_enter Try.func59, Try.ntmps59
  go_wp2_with fail
  refine hI.mono ?_
  rintro e w1 ⟨⟨x, rfl, hd⟩, hw1⟩
  have hs1 := hw1.symm
  clear hw1 hI
  subst hs1
  have HD : Hid (decide (0 ≤ x) = !(rowsB K n)) := hd
  clear hd
  go_wp2
  go_ret
  exact ⟨ret_bool HD.out, rfl⟩
set_option maxHeartbeats 1000000 in
theorem iTable (a : Option Addr) (n c : Nat) (K : Nat → Nat) (F : Nat → Nat → Int) (w : World) (hn : n ≤ 1048576) (hA : RR w a n K F) :
    Calls Try.prog 37 #[.slice a n c] w fun e w' => e = .returned (.bool (decide (n ≤ 12) && rowsB K n)) ∧ w' = w := by
  have kC := fun w hA => conRow a n c K F w hn hA
  by_cases h6 : n ≤ 12
  · rw [decide_eq_true h6, Bool.true_and]
    have j6 : (n : Int) ≤ 12 := by omega
    generalize rowsB K n = P at *
    go_enter Try.func37, Try.ntmps37
    go_wp2_with fail
    refine (kC _ hA).mono ?_
    rintro e w1 ⟨rfl, hw1⟩
    have hs1 := hw1.symm
    clear hw1
    subst hs1
    go_wp2
    go_ret
    exact ⟨by cases P <;> rfl, rfl⟩
  · rw [decide_eq_false h6, Bool.false_and]
    have j6 : ¬ (n : Int) ≤ 12 := by omega
    clear kC
    go_enter Try.func37, Try.ntmps37
    go_wp2
    go_ret
    exact ⟨rfl, rfl⟩
set_option maxRecDepth 20000 in
set_option maxHeartbeats 8000000 in
theorem iRunFlat (a x : Option Addr) (n c q r : Nat) (K : Nat → Nat) (F : Nat → Nat → Int) (h : Nat → Int) (leaf : Int) (w : World) (hn : n ≤ 1048576) (hq : q ≤ 1048576) (hA : RR w a n K F) (hh : IL w x q h) :
    Calls Try.prog 12 #[.slice a n c, .int .i64 leaf, .slice x q r] w fun e w' => AnsQb w w' e (runN (rfQ n K F leaf q h) q) (rfK F h leaf) (rfQ n K F leaf q h) ∧ Below w.heap.size w w' := by
  obtain ⟨i0, hi, hzz⟩ := Option.map_eq_some_iff.1 infoI
  simp only [Prod.mk.injEq] at hzz
  obtain ⟨hz0, hz1, hz2⟩ := hzz
  have kT := iTable a n c K F w hn hA
  have kV := iEvents x q r h w hq hh
  have kH := fun X w hA => hasList_any a n c K F X w hA
  cases hT : (decide (n ≤ 12) && rowsB K n) with
  | false =>
    have hr : rfQ n K F leaf q h = false := by unfold rfQ; rw [hT]; rfl
    rw [hr]
    rw [hT] at kT
    clear hr hT kV kH
    go_enter Try.func12, Try.ntmps12
    go_wp2_with fail
    refine (kT).mono ?_
    rintro e w2 ⟨rfl, hw2⟩
    have hs2 := hw2.symm
    clear hw2
    subst hs2
    go_wp2
    go_ret2
    exact ⟨ansQb_no rfl, Below.refl _ _⟩
  | true =>
  rw [hT] at kT
  have hn12 : n ≤ 12 := by simp only [Bool.and_eq_true, decide_eq_true_eq] at hT; exact hT.1
  have HRow : Hid (rowsB K n = true) := by simp only [Bool.and_eq_true, decide_eq_true_eq] at hT; exact hT.2
  clear hT
  have kL := kH leaf w hA
  cases hHas : hasB n K leaf with
  | false =>
    have hr : rfQ n K F leaf q h = false := rfQ_leaf hHas
    rw [hr]
    rw [hHas] at kL
    clear hr kV kH hHas
    go_enter Try.func12, Try.ntmps12
    go_wp2_with fail
    refine (kT).mono ?_
    rintro e w2 ⟨rfl, hw2⟩
    have hs2 := hw2.symm
    clear hw2
    subst hs2
    go_wp2_with fail
    refine (kL).mono ?_
    rintro e w2 ⟨rfl, hw2⟩
    have hs2 := hw2.symm
    clear hw2
    subst hs2
    go_wp2
    go_ret2
    exact ⟨ansQb_no rfl, Below.refl _ _⟩
  | true =>
  rw [hHas] at kL
  cases hV : evsB q h with
  | false =>
    have hr : rfQ n K F leaf q h = false := rfQ_evs hV
    rw [hr]
    rw [hV] at kV
    clear hr kH hHas hV
    go_enter Try.func12, Try.ntmps12
    go_wp2_with fail
    refine (kT).mono ?_
    rintro e w2 ⟨rfl, hw2⟩
    have hs2 := hw2.symm
    clear hw2
    subst hs2
    go_wp2_with fail
    refine (kL).mono ?_
    rintro e w2 ⟨rfl, hw2⟩
    have hs2 := hw2.symm
    clear hw2
    subst hs2
    go_wp2_with fail
    refine (kV).mono ?_
    rintro e w2 ⟨rfl, hw2⟩
    have hs2 := hw2.symm
    clear hw2
    subst hs2
    go_wp2
    go_ret2
    exact ⟨ansQb_no rfl, Below.refl _ _⟩
  | true =>
  rw [hV] at kV
  have HEvB : Hid (evsB q h = true) := hV
  have hq60 : q ≤ 60 := by unfold evsB at hV; simp only [Bool.and_eq_true, decide_eq_true_eq] at hV; exact hV.1
  have HEv : Hid (evsK h q = true) := by unfold evsB at hV; simp only [Bool.and_eq_true, decide_eq_true_eq] at hV; exact hV.2
  clear hV
  obtain ⟨S, rfl, hS, hKS⟩ := hasB_parts hHas
  have HA0 : Hid (rfA n K F h (S : Int) 0 = true) := hHas
  clear hHas hKS
  go_enter Try.func12, Try.ntmps12
  go_wp2_with fail
  refine (kT).mono ?_
  rintro e w2 ⟨rfl, hw2⟩
  have hs2 := hw2.symm
  clear hw2
  subst hs2
  go_wp2_with fail
  refine (kL).mono ?_
  rintro e w2 ⟨rfl, hw2⟩
  have hs2 := hw2.symm
  clear hw2
  subst hs2
  go_wp2_with fail
  refine (kV).mono ?_
  rintro e w2 ⟨rfl, hw2⟩
  have hs2 := hw2.symm
  clear hw2
  subst hs2
  have hown0 := own_one w w.heap.size (S : Int) (rfK F h (S : Int)) rfl (Nat.le_refl _)
  have hB3 := (Below.refl w.heap.size w).alloc (Nat.le_refl _) (.cells #[.int .i64 (S : Int)] 3)
  go_wp2_with fail
  go_loopw [1, 8, 29] (fun lf v i wr => ∃ k : Nat, k ≤ q ∧ i = .int .i64 (k : Int) ∧ lf = .int .i64 (rfK F h (S : Int) k) ∧ Hid (rfA n K F h (S : Int) k = true) ∧ Own wr w.heap.size v (k + 1) (rfK F h (S : Int)) ∧ Below w.heap.size w wr) (fun _ _ i _ => q - (intOf i).toNat)
  case atStart => exact ⟨0, Nat.zero_le _, rfl, rfl, HA0, hown0, hB3⟩
  case round =>
    obtain ⟨k, hk, rfl, rfl, HA, hown, hB⟩ := hrel
    have hbase : w.heap.size ≤ wr.heap.size := hB.size
    clear hown0 hB3 HA0
    by_cases hlt : k < q
    · have hat := rfA_at HA.out k (Nat.le_refl _)
      obtain ⟨Y, eY, hY, hKY⟩ := hasB_parts hat
      have HX : Hid (rfK F h (S : Int) k = (Y : Int)) := eY
      rw [eY]
      have hK6 : K Y = 6 := by have h9 := rowsB_at HRow.out Y hY; unfold rowB at h9; simp at h9; omega
      have he := evsK_at HEv.out k hlt
      have he2 : 0 ≤ h k ∧ h k < 6 := by unfold evtB at he; simpa using he
      obtain ⟨E, hE⟩ : ∃ E : Nat, h k = (E : Int) := ⟨(h k).toNat, by omega⟩
      have hE6 : E < 6 := by omega
      obtain ⟨A, C, hL⟩ := hA.below hB
      obtain ⟨b, off, rfl, hbw, hcell⟩ := hL.out (by omega)
      have y0 := hcell Y hY
      have hrow := hL.row Y hY
      rw [hK6] at y0 hrow
      obtain ⟨b1, off1, eA, hb1, hc1⟩ := hrow (by omega)
      rw [eA] at y0
      have y1 := hc1 E hE6
      obtain ⟨gb, go_, rfl, gl_, hc⟩ := (hh.below hB) (by omega)
      have y2 := hc k hlt
      rw [hE] at y2
      have HX2 : Hid (F Y E = rfK F h (S : Int) (k + 1)) := by
        show F Y E = F (rfK F h (S : Int) k).toNat (h k).toNat
        rw [HX.out, hE, Int.toNat_natCast, Int.toNat_natCast]
      have HNo : Hid (hasB n K (F Y E) = false → rfQ n K F (S : Int) q h = false) := fun h9 => rfQ_run (rfA_no (show k + 1 ≤ q by omega) (by rw [← HX2.out]; exact h9))
      have HYes : Hid (hasB n K (F Y E) = true → rfA n K F h (S : Int) (k + 1) = true) := fun h9 => by
        show (rfA n K F h (S : Int) k && hasB n K (rfK F h (S : Int) (k + 1))) = true
        rw [HA.out, ← HX2.out, h9]; rfl
      have hYn : (Y : Int) < (n : Int) := by omega
      have hY0 : (0 : Int) ≤ (Y : Int) := by omega
      have hE0 : (0 : Int) ≤ (E : Int) := by omega
      have hE1 : (E : Int) < 6 := by omega
      have j0 : (0 : Int) ≤ (k : Int) := by omega
      have j1 : (k : Int) < (q : Int) := by omega
      have kH2 := fun X => kH X wr (hA.below hB)
      clear hat eY he he2 hE hL hcell hrow eA hb1 hc1 hc HX HA hKY hK6
      generalize F Y E = Z at *
      cases z2 : hasB n K Z with
      | false =>
        have HQ : Hid (rfQ n K F (S : Int) q h = false) := HNo.out z2
        have kH3 := kH2 Z
        rw [z2] at kH3
        clear HNo HYes HX2 hown HRow HEv kH kH2 z2
        go_wp2_with fail
        refine kH3.mono ?_
        rintro e w2 ⟨rfl, hw2⟩
        have hs2 := hw2.symm
        clear hw2
        subst hs2
        go_wp2
        go_ret2
        exact ⟨ansQb_no HQ.out, hB⟩
      | true =>
      have HA2 : Hid (rfA n K F h (S : Int) (k + 1) = true) := HYes.out z2
      have kH3 := kH2 Z
      rw [z2] at kH3
      clear HNo HYes kH kH2 z2
      go_wp2_with fail
      refine kH3.mono ?_
      rintro e w2 ⟨rfl, hw2⟩
      have hs2 := hw2.symm
      clear hw2 kH3
      subst hs2
      go_wp2_with (at_builtin; refine wpList_append_own _ rfl _ _ 27 rfl w.heap.size 3 i0 (.int .i64 0) 1 8 Try.underlying27 hi hz0 hz1 hz2 rfl (by decide) _ _ _ rfl (World.ownsRow.alloc hown _) ⟨wr.heap.size, 0, none⟩ 1 1 [.int .i64 Z] rfl rfl (cell_one_new _ _ _) (fun x hx => by simp at hx; subst hx; rfl) (by unfold maxLen; omega) (by omega) (by simp; omega) ?_; intro v' w6 hown' hgrow6 _)
      have hB6 := (hB.alloc hB.size (.cells #[.int .i64 Z] 3)).grown hgrow6 (by simp; omega) (fun q hq => (World.ownsRow.lt hown q hq).1)
      exact ⟨⟨k + 1, by omega, by go_num, by rw [HX2.out], HA2, by unfold Own; rw [vL_succ, ← HX2.out]; exact hown', hB6⟩, by simp [intOf]; omega⟩
    · have hkq : k = q := by omega
      subst hkq
      obtain ⟨aa, cc, rfl⟩ := hown.shape
      have HZ3 : Hid (AnsQb w wr (.returned (.tuple #[.slice aa (k + 1) cc, .bool true])) (runN (rfQ n K F (S : Int) k h) k) (rfK F h (S : Int)) (rfQ n K F (S : Int) k h)) := ansQb_some (rfQ_mk hn12 HRow.out HEvB.out HA.out) (Nat.le_refl _) hown
      clear HA hown HRow HEv HEvB
      go_wp2
      go_ret2
      exact ⟨HZ3.out, hB⟩
end Go.Proofs.YtjefakfongehdaaR
