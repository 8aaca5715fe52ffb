/- What the others ask for a task, as the program lays it. -/
import Derived.Test.YtjmdghkhapajiaaHoM
import Derived.BigQuiet
import Derived.Deep.Cut
namespace Go.Proofs.Ytjmdghkhapajiaa
open Go.RowKit
theorem infoOf2 : (Try.prog.info? 70).map (fun i => (i.zero, i.size, i.bytes)) = some (some .nilIface, 1, 16) := by kernel_rfl
def AnsOf2 (w w' : World) (e : Ending) (n : Nat) (O : Nat → Option Int) : Prop := ∃ a c, e = .returned (.slice a n c) ∧ VQ w' w.heap.size w'.heap.size a n (fun t => ofv (O t))
set_option maxHeartbeats 8000000 in
set_option maxRecDepth 20000 in
theorem others_any (a : Option Addr) (n c : Nat) (A : Nat → Option Addr) (K C : Nat → Nat) (F : Nat → Nat → Int) (t go : Nat) (w : World) (gp : GP n K F) (ht : t < n) (hA : LL w a n A K C F) :
    Calls Try.prog 43 #[.slice a n c, .int .i64 (t : Int), .int .i64 (go : Int)] w fun e w' => AnsOf2 w w' e n (hoO F t go) ∧ Below w.heap.size w w' := by
  obtain ⟨i0', hi, hzz⟩ := Option.map_eq_some_iff.1 infoOf2
  simp only [Prod.mk.injEq] at hzz
  obtain ⟨hz0, hz1, hz2⟩ := hzz
  have hn := gp.hi
  obtain ⟨wm, hrun, hown, hgrow⟩ := run_make_own (P := Try.prog) w w.heap.size 56 70 i0' _ 1 Try.underlying56 hi hz0 hz1 .i64 .i64 n (by rw [hz2]; omega) (by unfold maxLen; omega) (Nat.le_refl _)
  have HB0 : Hid (Below w.heap.size w wm) := (Below.refl w.heap.size w).grown hgrow (Nat.le_refl _) (fun q hq => by cases hq)
  have HO0 : Hid (OwnV 70 wm w.heap.size (.slice (some ⟨w.heap.size, 0, none⟩) 0 n) 0 (fun i => ofv (hoO F t go i))) := hown
  have t0 : (0 : Int) ≤ (t : Int) := by omega
  have t1 : (t : Int) < (n : Int) := by omega
  clear hown hgrow
  go_enter Try.func43, Try.ntmps43
  go_wp2_with fail
  clear hrun
  go_loopw [7, 15] (fun v i wr => ∃ k : Nat, k ≤ n ∧ i = .int .i64 (k : Int) ∧ OwnV 70 wr w.heap.size v k (fun i => ofv (hoO F t go i)) ∧ Below w.heap.size w wr) (fun _ i _ => n - (intOf i).toNat)
  case atStart => exact ⟨0, Nat.zero_le _, rfl, HO0.out, HB0.out⟩
  case round =>
    obtain ⟨k, hk, rfl, hown, hB⟩ := hrel
    clear HO0 HB0
    have i0 : (0 : Int) ≤ (k : Int) := by omega
    have hsz := hB.size
    by_cases hlt : k < n
    · have i1 : (k : Int) < (n : Int) := by omega
      obtain ⟨pb, po, rfl, pl_, x0⟩ := ll_at1 (hA.below hB) hlt
      have hrow := (hA.below hB).row k hlt
      rw [gp.len k hlt] at x0 hrow
      obtain ⟨rb, ro, ra, rl_, y0⟩ := il_at1 hrow ht
      rw [ra] at x0
      generalize A k = Ak at *
      generalize C k = Ck at *
      by_cases e : k = go
      · subst e
        have HO : Hid (ofv (hoO F t k k) = .iface 74 (.agg #[])) := by show ofv (hoO F t k k) = _; rw [hoO_gone]; rfl
        have e1 : ((k : Int) == (k : Int)) = true := by simp
        clear hA hrow ra
        go_upto_region 6 with fail
        go_wp2_with (at_builtin; refine wpList_append_own _ rfl _ _ 56 rfl w.heap.size 70 i0' .nilIface 1 16 Try.underlying56 hi hz0 hz1 hz2 rfl (by decide) _ _ _ rfl (World.ownsRow.alloc hown _) ⟨wr.heap.size, 0, none⟩ 1 1 [.iface 74 (.agg #[])] rfl rfl (cell_one_new _ _ _) (fun x hx => by simp at hx; subst hx; rfl) (by unfold maxLen; omega) (by omega) (by simp; omega) ?_; intro vN w6 hown6 hgrow6 _)
        have hB6 := (hB.alloc hB.size (.cells #[.iface 74 (.agg #[])] 70)).grown hgrow6 (by simp; omega) (fun q hq => (World.ownsRow.lt hown q hq).1)
        exact ⟨⟨k + 1, by omega, by go_num, ownV_put hown6 HO.out.symm, hB6⟩, by simp [intOf]; omega⟩
      · have HO : Hid (ofv (hoO F t go k) = .iface 75 (.int .i64 (F k t))) := by show ofv (hoO F t go k) = _; rw [hoO_at _ _ _ e]; rfl
        have e1 : ((k : Int) == (go : Int)) = false := by simp; omega
        clear hA hrow ra e
        generalize F k t = X at *
        go_upto_region 7 with fail
        go_wp2_with (at_builtin; refine wpList_append_own _ rfl _ _ 56 rfl w.heap.size 70 i0' .nilIface 1 16 Try.underlying56 hi hz0 hz1 hz2 rfl (by decide) _ _ _ rfl (World.ownsRow.alloc hown _) ⟨wr.heap.size, 0, none⟩ 1 1 [.iface 75 (.int .i64 X)] rfl rfl (cell_one_new _ _ _) (fun x hx => by simp at hx; subst hx; rfl) (by unfold maxLen; omega) (by omega) (by simp; omega) ?_; intro vN w6 hown6 hgrow6 _)
        have hB6 := (hB.alloc hB.size (.cells #[.iface 75 (.int .i64 X)] 70)).grown hgrow6 (by simp; omega) (fun q hq => (World.ownsRow.lt hown q hq).1)
        exact ⟨⟨k + 1, by omega, by go_num, ownV_put hown6 HO.out.symm, hB6⟩, by simp [intOf]; omega⟩
    · have hte : k = n := by omega
      subst hte
      obtain ⟨sa, sc, rfl⟩ := hown.shape
      go_wp2
      go_ret
      exact ⟨⟨sa, sc, rfl, hown.vq⟩, hB⟩
end Go.Proofs.Ytjmdghkhapajiaa
