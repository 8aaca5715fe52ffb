/- Topics, as the program looks at them. -/
import Derived.Test.YthhaemdpnphhoaaDoorTpQ
import Derived.Test.YthhaemdpnphhoaaDoorTpG
import Derived.Test.YthhaemdpnphhoaaDoorTpShelf
import Derived.Deep.Cut
namespace Go.Proofs.YthhaemdpnphhoaaDoor
open Go.RowKit
theorem split_stroke (s : ByteArray) (w : World) (hM : Mx w) (hs : s.size ≤ 1048576) :
    Calls Tryd.prog 21 #[.string s, .string ⟨#[47]⟩] w fun e w' => e = .returned (.slice (some ⟨w.heap.size, 0, none⟩) ((prt (bl s)).map mkT).length ((prt (bl s)).map mkT).length) ∧ w' = w.alloc (.cells (((prt (bl s)).map mkT).map Value.string).toArray 9) := by
  have h := split_any s ⟨#[47]⟩ w hM (by omega) (by decide)
  have hl := Lib.splitB_all ⟨#[47]⟩ (by decide) 0 _ s rfl
  rw [← hl, splitB_prt] at h
  exact h
theorem pre_stroke (s : ByteArray) : Lib.hasPrefix (bl s) [47] = decide (0 < s.size ∧ bt s 0 = 47) := by
  have hl := bl_len s
  rw [Bool.eq_iff_iff, decide_eq_true_eq]
  cases e : bl s with
  | nil => rw [e] at hl; simp at hl; simp [Lib.hasPrefix, List.isPrefixOf]; omega
  | cons c r =>
    have h0 : 0 < s.size := by rw [← hl, e]; simp
    have hb : bt s 0 = (c.toNat : Int) := by
      rw [bt_of s 0 h0]
      have : s[0] = (bl s)[0]'(by rw [bl_len]; exact h0) := rfl
      rw [this]
      simp [e]
    rw [hb]
    simp only [Lib.hasPrefix, List.isPrefixOf, Bool.and_true, beq_iff_eq]
    constructor
    · intro h; exact ⟨h0, by rw [← h]; rfl⟩
    · rintro ⟨_, h⟩; exact (UInt8.toNat_inj.1 (by simp; omega)).symm
theorem rest_stroke {s : ByteArray} (h : Lib.hasPrefix (bl s) [47] = true) : bl (mkT (Lib.trimPrefix (bl s) [47])) = (bl s).drop 1 := by
  simp [Lib.trimPrefix, h]
set_option maxRecDepth 20000 in
set_option maxHeartbeats 4000000 in
theorem iTopic (s : ByteArray) (w : World) (hM : Mx w) (hs : s.size ≤ 1048576) :
    Calls Tryd.prog 10 #[.string s] w fun e w' => e = .returned (.bool (gtB s)) ∧ Below w.heap.size w w' := by
  have hc := fun w => Tryd.strings_CutPrefix s ⟨#[47]⟩ w
  have hP := pre_stroke s
  have hc' : ∀ w, Calls Tryd.prog 20 #[.string s, .string ⟨#[47]⟩] w fun e w' => e = .returned (.tuple #[.string (mkT (Lib.trimPrefix (bl s) [47])), .bool (decide (0 < s.size ∧ bt s 0 = 47))]) ∧ w' = w := fun w => by rw [← hP]; exact hc w
  clear hc
  by_cases h0 : 0 < s.size ∧ bt s 0 = 47
  case neg =>
    have e : gtB s = false := by
      unfold gtB
      rw [tp_none (by omega)]
      simp
    rw [e]
    rw [decide_eq_false h0] at hc'
    clear e hP
    generalize mkT (Lib.trimPrefix (bl s) [47]) = R at *
    go_enter Tryd.func10, Tryd.ntmps10
    go_wp2_with (go_at_call 20; refine (hc' _).mono ?_; rintro e w' ⟨rfl, rfl⟩)
    go_ret
    exact ⟨rfl, Below.refl _ _⟩
  rw [decide_eq_true h0] at hc' hP
  have hR := rest_stroke hP
  have hT := tp_stroke h0.1 h0.2
  rw [← hR] at hT
  have hRs : (mkT (Lib.trimPrefix (bl s) [47])).size ≤ 1048576 := by
    have := bl_len (mkT (Lib.trimPrefix (bl s) [47]))
    rw [← this, hR, List.length_drop, bl_len]; omega
  generalize mkT (Lib.trimPrefix (bl s) [47]) = R at *
  have hsp := fun w hM => split_stroke R w hM hRs
  rw [← hT] at hsp
  have hsz : ∀ x ∈ tpP s, x.size ≤ 1048576 := tp_small hs
  have hlen := tp_len (s := s)
  have hne : tpP s ≠ [] := by rw [hT]; simp; exact prt_ne _
  have hg : gtB s = (decide (s.size ≤ 60) && !(tpP s).isEmpty && (tpP s).all gpB) := rfl
  rw [hg]
  clear hg hT hR hP h0
  generalize tpP s = L at *
  have e0 : L.isEmpty = false := by cases L with | nil => exact absurd rfl hne | cons a b => rfl
  rw [e0]
  clear e0 hne
  by_cases h6 : 60 < s.size
  · rw [decide_eq_false (by omega : ¬ s.size ≤ 60)]
    have j : (60 : Int) < (s.size : Int) := by omega
    go_enter Tryd.func10, Tryd.ntmps10
    go_wp2_with (go_at_call 20; refine (hc' _).mono ?_; rintro e w' ⟨rfl, rfl⟩)
    go_ret
    exact ⟨by simp, Below.refl _ _⟩
  rw [decide_eq_true (by omega : s.size ≤ 60)]
  have j : ¬ (60 : Int) < (s.size : Int) := by omega
  have HA : Hid ((true && !false && L.all gpB) = L.all gpB) := by show _ = _; simp
  have HF : Hid (∀ k, (hk : k < L.length) → gpB L[k] = false → L.all gpB = false) := fun k hk h => by
    cases e : L.all gpB with
    | false => rfl
    | true => rw [List.all_eq_true.1 e _ (List.getElem_mem hk)] at h; cases h
  have HT : Hid ((∀ k, (hk : k < L.length) → gpB L[k] = true) → L.all gpB = true) := fun h => List.all_eq_true.2 fun x hx => by
    obtain ⟨k, hk, rfl⟩ := List.mem_iff_getElem.1 hx
    exact h k hk
  have HZ : Hid (∀ x ∈ L, x.size ≤ 1048576) := hsz
  clear hsz
  rw [HA.out]
  generalize hV : L.all gpB = V at *
  clear hV HA
  have hsp2 := hsp w hM
  have hT0 := tl_new w L 9
  have hB0 : Below w.heap.size w (w.alloc (.cells (L.map Value.string).toArray 9)) := (Below.refl _ _).alloc (Nat.le_refl _) _
  clear hsp
  generalize hw1 : w.alloc (.cells (L.map Value.string).toArray 9) = w1 at *
  clear hw1
  go_enter Tryd.func10, Tryd.ntmps10
  go_wp2_with (first | (go_at_call 20; refine (hc' _).mono ?_; rintro e w' ⟨rfl, hw9⟩; have hs9 := hw9.symm; clear hw9; subst hs9) | (go_at_call 21; refine hsp2.mono ?_; rintro e w' ⟨rfl, rfl⟩) | fail)
  clear hsp2 hc'
  go_loopw [22] (fun i wr => ∃ k : Nat, k ≤ L.length ∧ i = .int .i64 (k : Int) ∧ Hid (∀ j, (hj : j < L.length) → j < k → gpB L[j] = true) ∧ TL wr (some ⟨w.heap.size, 0, none⟩) L ∧ Below w.heap.size w wr) (fun i _ => L.length - (intOf i).toNat)
  case atStart => exact ⟨0, Nat.zero_le _, rfl, fun j _ h => by omega, hT0, hB0⟩
  case round =>
    obtain ⟨k, hk, rfl, HE, hT1, hB1⟩ := hrel
    by_cases hlt : k < L.length
    · obtain ⟨b, off, e, hb, hc⟩ := tl_at hT1 hlt
      cases e
      rw [Nat.zero_add] at hc
      have i1 : (k : Int) < (L.length : Int) := by omega
      have hsp := fun w => iPart L[k] w (HZ.out _ (List.getElem_mem hlt))
      have HF2 : Hid (gpB L[k] = false → V = false) := HF.out k hlt
      have HE2 : Hid (gpB L[k] = true → ∀ j, (hj : j < L.length) → j < k + 1 → gpB L[j] = true) := fun h j hj hjk => by
        rcases Nat.lt_or_eq_of_le (Nat.le_of_lt_succ hjk) with h1 | rfl
        · exact HE.out j hj h1
        · exact h
      clear HE HF HT HZ
      generalize L[k] = x at *
      cases hx : gpB x with
      | true =>
        have HE3 : Hid (∀ j, (hj : j < L.length) → j < k + 1 → gpB L[j] = true) := HE2.out hx
        rw [hx] at hsp
        clear HE2 HF2 hx
        go_wp2_with (go_at_call 22; refine (hsp _).mono ?_; rintro e w2 ⟨rfl, hb2⟩)
        exact ⟨⟨k + 1, by omega, by go_num, HE3, hT1.on hb2, stepA hB1 hb2⟩, by simp [intOf]; omega⟩
      | false =>
        have hv : V = false := HF2.out hx
        subst hv
        rw [hx] at hsp
        clear HE2 HF2 hx
        go_wp2_with (go_at_call 22; refine (hsp _).mono ?_; rintro e w2 ⟨rfl, hb2⟩)
        go_ret
        exact ⟨rfl, stepA hB1 hb2⟩
    · have e : k = L.length := by omega
      subst e
      have i1 : ¬ (L.length : Int) < (L.length : Int) := by omega
      have hv : V = true := HT.out fun k hk => HE.out k hk hk
      subst hv
      go_wp2
      go_ret
      exact ⟨rfl, hB1⟩
end Go.Proofs.YthhaemdpnphhoaaDoor
