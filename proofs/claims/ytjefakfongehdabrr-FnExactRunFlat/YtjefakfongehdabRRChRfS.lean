/- RunFlat, as the model goes. -/
import Derived.Test.YtjefakfongehdabRRChRfM
import Derived.Test.YtjefakfongehdabRRChEvS
namespace Go.Proofs.YtjefakfongehdabRR
open Go.RowKit
set_option maxRecDepth 20000 in
set_option maxHeartbeats 8000000 in
theorem sRunFlat (a x : Option Addr) (n c q r : Nat) (K : Nat → Nat) (F : Nat → Nat → Int) (h : Nat → Int) (leaf : Int) (w : World) (hn : n ≤ 1048576) (hq : q ≤ 1048576) (hA : RR w a n K F) (hh : IL w x q h) :
    Calls Try.prog 16 #[.slice a n c, .int .i64 leaf, .slice x q r] w fun e w' => AnsQb w w' e (runN (rfQ n K F leaf q h) q) (rfK F h leaf) (rfQ n K F leaf q h) ∧ Below w.heap.size w w' := by
  obtain ⟨i0, hi, hzz⟩ := Option.map_eq_some_iff.1 infoI
  simp only [Prod.mk.injEq] at hzz
  obtain ⟨hz0, hz1, hz2⟩ := hzz
  by_cases h12 : 12 < n
  · have j12 : (12 : Int) < (n : Int) := by omega
    have hr : rfQ n K F leaf q h = false := rfQ_size h12
    rw [hr]
    clear hr
    go_enter Try.func16, Try.ntmps16
    go_wp2
    go_ret2
    exact ⟨ansQb_no rfl, (Below.refl _ _)⟩
  have j12 : ¬ (12 : Int) < (n : Int) := by omega
  have hn12 : n ≤ 12 := by omega
  have kV := sEvents x q r h w hq hh
  cases hV : evsB q h with
  | false =>
    rw [hV] at kV
    have hr : rfQ n K F leaf q h = false := rfQ_evs hV
    rw [hr]
    clear hr
    go_enter Try.func16, Try.ntmps16
    go_wp2_with fail
    refine (kV).mono ?_
    rintro e w2 ⟨rfl, hw2⟩
    have hs2 := hw2.symm
    clear hw2
    subst hs2
    go_wp2
    go_ret2
    exact ⟨ansQb_no rfl, (Below.refl _ _)⟩
  | true =>
  rw [hV] at kV
  have HEvB : Hid (evsB q h = true) := hV
  have hq60 : q ≤ 60 := by unfold evsB at hV; simp only [Bool.and_eq_true, decide_eq_true_eq] at hV; exact hV.1
  have HEv : Hid (evsK h q = true) := by unfold evsB at hV; simp only [Bool.and_eq_true, decide_eq_true_eq] at hV; exact hV.2
  clear hV
  by_cases l0 : leaf < 0
  · have hr : rfQ n K F leaf q h = false := rfQ_leaf (hasB_low l0)
    rw [hr]
    clear hr
    go_enter Try.func16, Try.ntmps16
    go_wp2_with fail
    refine (kV).mono ?_
    rintro e w2 ⟨rfl, hw2⟩
    have hs2 := hw2.symm
    clear hw2
    subst hs2
    go_wp2
    go_ret2
    exact ⟨ansQb_no rfl, Below.refl _ _⟩
  by_cases l1 : (n : Int) ≤ leaf
  · have hr : rfQ n K F leaf q h = false := rfQ_leaf (hasB_high l1)
    rw [hr]
    clear hr
    go_enter Try.func16, Try.ntmps16
    go_wp2_with fail
    refine (kV).mono ?_
    rintro e w2 ⟨rfl, hw2⟩
    have hs2 := hw2.symm
    clear hw2
    subst hs2
    go_wp2
    go_ret2
    exact ⟨ansQb_no rfl, Below.refl _ _⟩
  obtain ⟨S, rfl⟩ : ∃ S : Nat, leaf = (S : Int) := ⟨leaf.toNat, by omega⟩
  have hS : S < n := by omega
  obtain ⟨A, C, hL⟩ := hA
  have hA : RR w a n K F := ⟨A, C, hL⟩
  obtain ⟨b, off, rfl, hbw, hcell⟩ := hL.out (by omega)
  have y0 := hcell S hS
  have HCell : Hid (∀ i, i < n → w.cell? ⟨b, off + i, none⟩ = some (.slice (A i) (K i) (C i))) := hcell
  clear hcell hL
  by_cases l2 : K S = 0
  · have hr : rfQ n K F (S : Int) q h = false := rfQ_leaf (hasB_zero l2)
    rw [hr]
    rw [l2] at y0
    clear hr l2
    go_enter Try.func16, Try.ntmps16
    go_wp2_with fail
    refine (kV).mono ?_
    rintro e w2 ⟨rfl, hw2⟩
    have hs2 := hw2.symm
    clear hw2
    subst hs2
    go_wp2
    go_ret2
    exact ⟨ansQb_no rfl, Below.refl _ _⟩
  have HA0 : Hid (rfA n K F h (S : Int) 0 = true) := hasB_mk hS (by omega)
  have l2' : ((K S : Int) == 0) = false := by simpa using l2
  obtain ⟨KS, eKS⟩ : ∃ KS, K S = KS := ⟨_, rfl⟩
  rw [eKS] at y0 l2'
  clear l2 eKS
  go_enter Try.func16, Try.ntmps16
  go_wp2_with fail
  refine (kV).mono ?_
  rintro e w2 ⟨rfl, hw2⟩
  have hs2 := hw2.symm
  clear hw2
  subst hs2
  go_wp2_with fail
  go_loopw [41] (fun i wr => ∃ k : Nat, k ≤ n ∧ i = .int .i64 (k : Int) ∧ Hid (rowsB K k = true) ∧ wr = w) (fun i _ => n - (intOf i).toNat)
  case atStart => exact ⟨0, Nat.zero_le _, rfl, (rfl : rowsB K 0 = true), rfl⟩
  case round =>
    obtain ⟨k, hk, rfl, HR, hw⟩ := hrel
    have hw' := hw.symm
    clear hw
    subst hw'
    by_cases hlt : k < n
    · have y1 := HCell.out k hlt
      have j0 : (0 : Int) ≤ (k : Int) := by omega
      have j1 : (k : Int) < (n : Int) := by omega
      have HR2 : Hid (rowB (K k) = true → rowsB K (k + 1) = true) := fun h9 => by
        show (rowsB K k && rowB (K k)) = true
        rw [HR.out, h9]; rfl
      have HNo : Hid (rowB (K k) = false → rfQ n K F (S : Int) q h = false) := fun h9 => rfQ_rows (rowsB_no hlt h9)
      clear HR y0 l2' HCell HA0 HEv HEvB
      by_cases k0 : K k = 0
      · have HR3 : Hid (rowsB K (k + 1) = true) := HR2.out (by unfold rowB; simp [k0])
        rw [k0] at y1
        clear HR2 HNo k0
        go_wp2
        exact ⟨⟨k + 1, by omega, by go_num, HR3, trivial⟩, by simp [intOf]; omega⟩
      by_cases k6 : K k = 6
      · have HR3 : Hid (rowsB K (k + 1) = true) := HR2.out (by unfold rowB; simp [k6])
        rw [k6] at y1
        clear HR2 HNo k0 k6
        go_wp2
        exact ⟨⟨k + 1, by omega, by go_num, HR3, trivial⟩, by simp [intOf]; omega⟩
      have HQ : Hid (rfQ n K F (S : Int) q h = false) := HNo.out (by unfold rowB; simp [k0, k6])
      have k0' : ((K k : Int) != 0) = true := by simpa using k0
      have k6' : ((K k : Int) != 6) = true := by simp; omega
      clear HR2 HNo k6
      generalize K k = KK at *
      go_wp2
      go_ret2
      exact ⟨ansQb_no HQ.out, Below.refl _ _⟩
    · have hkn : n = k := by omega
      subst hkn
      have HRow : Hid (rowsB K n = true) := HR
      clear HR y0 l2' HCell hlt
      have hown0 := own_one w w.heap.size (S : Int) (rfK F h (S : Int)) rfl (Nat.le_refl _)
      have hB3 := (Below.refl w.heap.size w).alloc (Nat.le_refl _) (.cells #[.int .i64 (S : Int)] 3)
      go_wp2_with fail
      go_loopw [1, 10, 58] (fun lf v i wr => ∃ k : Nat, k ≤ q ∧ i = .int .i64 (k : Int) ∧ lf = .int .i64 (rfK F h (S : Int) k) ∧ Hid (rfA n K F h (S : Int) k = true) ∧ Own wr w.heap.size v (k + 1) (rfK F h (S : Int)) ∧ Below w.heap.size w wr) (fun _ _ i _ => q - (intOf i).toNat)
      case atStart => exact ⟨0, Nat.zero_le _, rfl, rfl, HA0, hown0, hB3⟩
      case round =>
        obtain ⟨k, hk, rfl, rfl, HA, hown, hB⟩ := hrel
        have hbase : w.heap.size ≤ wr.heap.size := hB.size
        clear hown0 hB3 HA0
        by_cases hlt : k < q
        · have hat := rfA_at HA.out k (Nat.le_refl _)
          obtain ⟨Y, eY, hY, hKY⟩ := hasB_parts hat
          have HX : Hid (rfK F h (S : Int) k = (Y : Int)) := eY
          rw [eY]
          have hK6 : K Y = 6 := by have h9 := rowsB_at HRow.out Y hY; unfold rowB at h9; simp at h9; omega
          have he := evsK_at HEv.out k hlt
          have he2 : 0 ≤ h k ∧ h k < 6 := by unfold evtB at he; simpa using he
          obtain ⟨E, hE⟩ : ∃ E : Nat, h k = (E : Int) := ⟨(h k).toNat, by omega⟩
          have hE6 : E < 6 := by omega
          obtain ⟨A, C, hL⟩ := hA.below hB
          obtain ⟨b2, off2, ea, hbw2, hcell⟩ := hL.out (by omega)
          obtain ⟨rfl, rfl⟩ : b2 = b ∧ off2 = off := by cases ea; exact ⟨rfl, rfl⟩
          clear ea
          have y0 := hcell Y hY
          have hrow := hL.row Y hY
          rw [hK6] at y0 hrow
          obtain ⟨b1, off1, eA, hb1, hc1⟩ := hrow (by omega)
          rw [eA] at y0
          have y1 := hc1 E hE6
          obtain ⟨gb, go_, rfl, gl_, hc⟩ := (hh.below hB) (by omega)
          have y2 := hc k hlt
          rw [hE] at y2
          have HX2 : Hid (F Y E = rfK F h (S : Int) (k + 1)) := by
            show F Y E = F (rfK F h (S : Int) k).toNat (h k).toNat
            rw [HX.out, hE, Int.toNat_natCast, Int.toNat_natCast]
          have HNo : Hid (hasB n K (F Y E) = false → rfQ n K F (S : Int) q h = false) := fun h9 => rfQ_run (rfA_no (show k + 1 ≤ q by omega) (by rw [← HX2.out]; exact h9))
          have HYes : Hid (hasB n K (F Y E) = true → rfA n K F h (S : Int) (k + 1) = true) := fun h9 => by
            show (rfA n K F h (S : Int) k && hasB n K (rfK F h (S : Int) (k + 1))) = true
            rw [HA.out, ← HX2.out, h9]; rfl
          have hYn : (Y : Int) < (n : Int) := by omega
          have hY0 : (0 : Int) ≤ (Y : Int) := by omega
          have hE0 : (0 : Int) ≤ (E : Int) := by omega
          have hE1 : (E : Int) < 6 := by omega
          have j0 : (0 : Int) ≤ (k : Int) := by omega
          have j1 : (k : Int) < (q : Int) := by omega
          have HCell : Hid (∀ i, i < n → wr.cell? ⟨b2, off2 + i, none⟩ = some (.slice (A i) (K i) (C i))) := hcell
          clear hat eY he he2 hE hL hcell hrow eA hb1 hc1 hc HX HA hKY hK6
          generalize F Y E = Z at *
          by_cases z0 : Z < 0
          · have HQ : Hid (rfQ n K F (S : Int) q h = false) := HNo.out (hasB_low z0)
            clear HNo HYes HX2 hown HCell HRow HEv
            go_wp2
            go_ret2
            exact ⟨ansQb_no HQ.out, hB⟩
          by_cases z1 : (n : Int) ≤ Z
          · have HQ : Hid (rfQ n K F (S : Int) q h = false) := HNo.out (hasB_high z1)
            clear HNo HYes HX2 hown HCell HRow HEv
            go_wp2
            go_ret2
            exact ⟨ansQb_no HQ.out, hB⟩
          obtain ⟨V, rfl⟩ : ∃ V : Nat, Z = (V : Int) := ⟨Z.toNat, by omega⟩
          have hV : V < n := by omega
          have y3 := HCell.out V hV
          have hV0 : (0 : Int) ≤ (V : Int) := by omega
          have hV1 : (V : Int) < (n : Int) := by omega
          by_cases z2 : K V = 0
          · have HQ : Hid (rfQ n K F (S : Int) q h = false) := HNo.out (hasB_zero z2)
            rw [z2] at y3
            clear HNo HYes HX2 hown HCell HRow HEv z2
            go_wp2
            go_ret2
            exact ⟨ansQb_no HQ.out, hB⟩
          have HA2 : Hid (rfA n K F h (S : Int) (k + 1) = true) := HYes.out (hasB_mk hV (by omega))
          have z2' : ((K V : Int) == 0) = false := by simpa using z2
          clear HNo HYes HCell
          generalize K V = KV at *
          go_wp2_with (at_builtin; refine wpList_append_own _ rfl _ _ 40 rfl w.heap.size 3 i0 (.int .i64 0) 1 8 Try.underlying40 hi hz0 hz1 hz2 rfl (by decide) _ _ _ rfl (World.ownsRow.alloc hown _) ⟨wr.heap.size, 0, none⟩ 1 1 [.int .i64 (V : Int)] rfl rfl (cell_one_new _ _ _) (fun x hx => by simp at hx; subst hx; rfl) (by unfold maxLen; omega) (by omega) (by simp; omega) ?_; intro v' w6 hown' hgrow6 _)
          have hB6 := (hB.alloc hB.size (.cells #[.int .i64 (V : Int)] 3)).grown hgrow6 (by simp; omega) (fun q hq => (World.ownsRow.lt hown q hq).1)
          exact ⟨⟨_, _, _, _, _, _, ⟨k + 1, by omega, by go_num, by rw [HX2.out], HA2, by unfold Own; rw [vL_succ, ← HX2.out]; exact hown', hB6⟩, rfl, rfl, rfl, rfl, rfl, rfl⟩, by simp [intOf]; omega⟩
        · have hkq : k = q := by omega
          subst hkq
          obtain ⟨aa, cc, rfl⟩ := hown.shape
          have HZ3 : Hid (AnsQb w wr (.returned (.tuple #[.slice aa (k + 1) cc, .bool true])) (runN (rfQ n K F (S : Int) k h) k) (rfK F h (S : Int)) (rfQ n K F (S : Int) k h)) := ansQb_some (rfQ_mk hn12 HRow.out HEvB.out HA.out) (Nat.le_refl _) hown
          clear HA hown HRow HEv HEvB
          go_wp2
          go_ret2
          exact ⟨HZ3.out, hB⟩
end Go.Proofs.YtjefakfongehdabRR
