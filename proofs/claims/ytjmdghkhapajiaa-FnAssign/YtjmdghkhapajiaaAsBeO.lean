/- What is offered for each task, as the program lays it. -/
import Derived.Test.YtjmdghkhapajiaaAsBeM
import Derived.BigQuiet
import Derived.Deep.Cut
namespace Go.Proofs.Ytjmdghkhapajiaa
open Go.RowKit
theorem infoOf : (Try.prog.info? 70).map (fun i => (i.zero, i.size, i.bytes)) = some (some .nilIface, 1, 16) := by kernel_rfl
def AnsOf (w w' : World) (e : Ending) (n : Nat) (O : Nat → Option Int) : Prop := ∃ a c, e = .returned (.slice a n c) ∧ VQ w' w.heap.size w'.heap.size a n (fun t => ofv (O t))
set_option maxHeartbeats 8000000 in
set_option maxRecDepth 20000 in
theorem offers_any (a : Option Addr) (n c : Nat) (f : Nat → Int) (M : Nat) (b : Option Addr) (N d : Nat) (R : Nat → Int) (w : World) (hn : n ≤ 6) (hM : M < 64) (hA : IL w a n f) (hR : IL w b N R) (hf : ∀ t, t < n → 0 ≤ f t ∧ f t ≤ 100000)
    (hN : ∀ t, t < n → M.testBit t = false → M ||| 2 ^ t < N ∧ 0 ≤ R (M ||| 2 ^ t) ∧ R (M ||| 2 ^ t) ≤ 1000000) :
    Calls Try.prog 36 #[.slice a n c, .int .i64 (M : Int), .slice b N d] w fun e w' => AnsOf w w' e n (ofT f M R) ∧ Below w.heap.size w w' := by
  obtain ⟨i0', hi, hzz⟩ := Option.map_eq_some_iff.1 infoOf
  simp only [Prod.mk.injEq] at hzz
  obtain ⟨hz0, hz1, hz2⟩ := hzz
  obtain ⟨wm, hrun, hown, hgrow⟩ := run_make_own (P := Try.prog) w w.heap.size 56 70 i0' _ 1 Try.underlying56 hi hz0 hz1 .i64 .i64 n (by rw [hz2]; omega) (by unfold maxLen; omega) (Nat.le_refl _)
  have HB0 : Hid (Below w.heap.size w wm) := (Below.refl w.heap.size w).grown hgrow (Nat.le_refl _) (fun q hq => by cases hq)
  have HO0 : Hid (OwnV 70 wm w.heap.size (.slice (some ⟨w.heap.size, 0, none⟩) 0 n) 0 (fun t => ofv (ofT f M R t))) := hown
  clear hown hgrow
  go_enter Try.func36, Try.ntmps36
  go_wp2_with fail
  clear hrun
  go_loopw [7, 15] (fun v i wr => ∃ t : Nat, t ≤ n ∧ i = .int .i64 (t : Int) ∧ OwnV 70 wr w.heap.size v t (fun t => ofv (ofT f M R t)) ∧ Below w.heap.size w wr) (fun _ i _ => n - (intOf i).toNat)
  case atStart => exact ⟨0, Nat.zero_le _, rfl, HO0.out, HB0.out⟩
  case round =>
    obtain ⟨t, ht, rfl, hown, hB⟩ := hrel
    clear HO0 HB0
    have i0 : (0 : Int) ≤ (t : Int) := by omega
    have hsz := hB.size
    by_cases hlt : t < n
    · have i1 : (t : Int) < (n : Int) := by omega
      have ht6 : t < 6 := by omega
      obtain ⟨gb, go_, rfl, gl_, x0⟩ := il_at1 (hA.below hB) (i := t) (by omega)
      have v0 := hf t hlt
      have kT := fun w => taken_any M t w hM ht6
      cases e : M.testBit t with
      | true =>
        rw [e] at kT
        have HO : Hid (ofv (ofT f M R t) = .iface 74 (.agg #[])) := by show ofv (ofT f M R t) = _; unfold ofT; rw [if_pos e]; rfl
        clear hN hA hR hf e
        generalize f t = X at *
        go_upto_region 6 with (first | (go_at_call 50; refine (kT _).mono ?_; rintro e w9 ⟨rfl, hw9⟩; have hs' := hw9.symm; clear hw9 kT; subst hs') | fail)
        go_wp2_with (at_builtin; refine wpList_append_own _ rfl _ _ 56 rfl w.heap.size 70 i0' .nilIface 1 16 Try.underlying56 hi hz0 hz1 hz2 rfl (by decide) _ _ _ rfl (World.ownsRow.alloc hown _) ⟨wr.heap.size, 0, none⟩ 1 1 [.iface 74 (.agg #[])] rfl rfl (cell_one_new _ _ _) (fun x hx => by simp at hx; subst hx; rfl) (by unfold maxLen; omega) (by omega) (by simp; omega) ?_; intro vN w6 hown6 hgrow6 _)
        have hB6 := (hB.alloc hB.size (.cells #[.iface 74 (.agg #[])] 70)).grown hgrow6 (by simp; omega) (fun q hq => (World.ownsRow.lt hown q hq).1)
        exact ⟨⟨t + 1, by omega, by go_num, ownV_put hown6 HO.out.symm, hB6⟩, by simp [intOf]; omega⟩
      | false =>
        rw [e] at kT
        obtain ⟨n1, n2, n3⟩ := hN t hlt e
        have hor := or_bit M t hM ht6
        have hwr := bit_in t ht6
        have i4 : (t : Int) < 6 := by omega
        have HO : Hid (ofv (ofT f M R t) = .iface 75 (.int .i64 (f t + R (M ||| 2 ^ t)))) := by show ofv (ofT f M R t) = _; unfold ofT; rw [if_neg (by rw [e]; decide)]; rfl
        obtain ⟨rb, ro, rfl, rl_, y0⟩ := il_at1 (hR.below hB) (i := M ||| 2 ^ t) n1
        generalize M ||| 2 ^ t = Y at *
        have i2 : (0 : Int) ≤ (Y : Int) := by omega
        have i3 : (Y : Int) < (N : Int) := by omega
        clear hN hA hR hf e
        generalize f t = X at *
        generalize R Y = Z at *
        go_upto_region 7 with (first | (go_at_call 50; refine (kT _).mono ?_; rintro e w9 ⟨rfl, hw9⟩; have hs' := hw9.symm; clear hw9 kT; subst hs') | fail)
        go_wp2_with (at_builtin; refine wpList_append_own _ rfl _ _ 56 rfl w.heap.size 70 i0' .nilIface 1 16 Try.underlying56 hi hz0 hz1 hz2 rfl (by decide) _ _ _ rfl (World.ownsRow.alloc hown _) ⟨wr.heap.size, 0, none⟩ 1 1 [.iface 75 (.int .i64 (X + Z))] rfl rfl (cell_one_new _ _ _) (fun x hx => by simp at hx; subst hx; rfl) (by unfold maxLen; omega) (by omega) (by simp; omega) ?_; intro vN w6 hown6 hgrow6 _)
        have hB6 := (hB.alloc hB.size (.cells #[.iface 75 (.int .i64 (X + Z))] 70)).grown hgrow6 (by simp; omega) (fun q hq => (World.ownsRow.lt hown q hq).1)
        exact ⟨⟨t + 1, by omega, by go_num, ownV_put hown6 HO.out.symm, hB6⟩, by simp [intOf]; omega⟩
    · have hte : t = n := by omega
      subst hte
      obtain ⟨sa, sc, rfl⟩ := hown.shape
      go_wp2
      go_ret
      exact ⟨⟨sa, sc, rfl, hown.vq⟩, hB⟩
end Go.Proofs.Ytjmdghkhapajiaa
