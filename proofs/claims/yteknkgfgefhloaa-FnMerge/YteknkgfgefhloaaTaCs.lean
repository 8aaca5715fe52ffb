/- slices.Grow and slices.Concat of structs of three ints. -/
import Derived.Test.YteknkgfgefhloaaTaSt
import Derived.Lib.AppendZeros
import Derived.Laws.AppendOwnNone
namespace Go.Proofs.Yteknkgfgefhloaa
open Go.RowKit
theorem zcStamped_size (n : Nat) : (Builtin.zeroCells (Value.cells (.agg #[.int .i64 0, .int .i64 0, .int .i64 0])) n).size = n * 3 := by
  have h : (Value.cells (.agg #[.int .i64 0, .int .i64 0, .int .i64 0])).size = 3 := rfl
  simp [Builtin.zeroCells, h]
set_option maxRecDepth 20000 in
set_option maxHeartbeats 2000000 in
theorem iGrowStamped (n : Nat) (w : World) (hn : n ≤ 2097152) :
    Calls Try.prog 58 #[.slice none 0 0, .int .i64 (n : Int)] w fun e w' => (∃ v, e = .returned v ∧ OwnS w' w.heap.size v 0 (fun _ => 0)) ∧ Below w.heap.size w w' := by
  obtain ⟨i0, hi, hzz⟩ := Option.map_eq_some_iff.1 infoStamped
  simp only [Prod.mk.injEq] at hzz
  obtain ⟨hz0, hz1, hz2⟩ := hzz
  by_cases h0 : n = 0
  · subst h0
    go_enter Try.func58, Try.ntmps58
    go_wp2
    go_ret
    exact ⟨⟨_, rfl, ⟨rfl, .inl ⟨rfl, rfl⟩⟩⟩, Below.refl _ _⟩
  · have hr := fun ty => Lib.run_append_nil_zeros (P := Try.prog) w 23 3 ty 29 i0 (.agg #[.int .i64 0, .int .i64 0, .int .i64 0]) .i64 .i64 Try.underlying23 Try.underlying3 hi hz0 n (by omega) (by omega) (by omega) (by rw [hz2]; omega)
    have g1 := grownCap_ge w n 0 29
    have g2 := grownCap_le_maxLen w n 0 29 (by unfold maxLen; omega)
    have j0 : ¬ (n : Int) < 0 := by omega
    have j1 : (0 : Int) < (n : Int) := by omega
    generalize grownCap w n 0 29 = cp at *
    have hb : Below w.heap.size w (w.drew.alloc (.cells (Builtin.zeroCells (Value.cells (.agg #[.int .i64 0, .int .i64 0, .int .i64 0])) n ++ Builtin.zeroCells (Value.cells (.agg #[.int .i64 0, .int .i64 0, .int .i64 0])) (cp - n)) 29)) := ((Below.refl _ _).drew).alloc (Nat.le_refl _) _
    go_enter Try.func58, Try.ntmps58
    go_wp2_with (at_builtin; refine Lib.wpList_append_run _ rfl _ _ _ _ rfl _ _ rfl rfl _ _ (hr _) ?_)
    go_ret
    have hcs : (Builtin.zeroCells (Value.cells (.agg #[.int .i64 0, .int .i64 0, .int .i64 0])) n ++ Builtin.zeroCells (Value.cells (.agg #[.int .i64 0, .int .i64 0, .int .i64 0])) (cp - n)).size = cp * 3 := by
      rw [Array.size_append, zcStamped_size, zcStamped_size]; omega
    exact ⟨⟨_, rfl, ⟨rfl, .inr ⟨w.heap.size, cp, _, rfl, Nat.le_refl _, by show (w.heap.push _)[w.heap.size]? = _; simp; rfl, Nat.zero_le _, g2, hcs, by simp [vL]⟩⟩⟩, hb⟩
def ccStampedN (n1 n2 k : Nat) : Nat := if k = 0 then 0 else if k = 1 then n1 else n1 + n2
def ccStampedF (n1 : Nat) (f1 f2 : Nat → Int) (k : Nat) : Nat → Int := if k = 0 then (fun _ => 0) else if k = 1 then f1 else apF f1 (n1 * 3) f2
def CcStamped (w : World) (base : Nat) (v : Value) (n1 n2 : Nat) (f1 f2 : Nat → Int) (k : Nat) : Prop := OwnS w base v (ccStampedN n1 n2 k) (ccStampedF n1 f1 f2 k)
set_option maxRecDepth 20000 in
set_option maxHeartbeats 2000000 in
/-- of two lists, neither of them without an address unless it is nil -/
theorem iConcatStamped (cb : Nat) (v1 v2 : Option Addr) (n1 c1 n2 c2 : Nat) (f1 f2 : Nat → Int) (w : World) (h1 : n1 ≤ 1048576) (h2 : n2 ≤ 1048576) (hcb : cb < w.heap.size) (x0 : w.cell? ⟨cb, 0, none⟩ = some (.slice v1 n1 c1)) (x1 : w.cell? ⟨cb, 1, none⟩ = some (.slice v2 n2 c2))
    (k1 : (v1 = none ∧ n1 = 0 ∧ c1 = 0) ∨ ∃ b o, v1 = some ⟨b, o, none⟩) (k2 : (v2 = none ∧ n2 = 0 ∧ c2 = 0) ∨ ∃ b o, v2 = some ⟨b, o, none⟩) (s1 : IL w v1 (n1 * 3) f1) (s2 : IL w v2 (n2 * 3) f2) :
    Calls Try.prog 39 #[.slice (some ⟨cb, 0, none⟩) 2 2] w fun e w' => (∃ v, e = .returned v ∧ OwnS w' w.heap.size v (n1 + n2) (apF f1 (n1 * 3) f2)) ∧ Below w.heap.size w w' := by
  obtain ⟨i0, hi, hzz⟩ := Option.map_eq_some_iff.1 infoStamped
  simp only [Prod.mk.injEq] at hzz
  obtain ⟨hz0, hz1, hz2⟩ := hzz
  have kG := fun n w hn => iGrowStamped n w hn
  go_enter Try.func39, Try.ntmps39
  go_wp2_with fail
  go_loopw [3, 11] (fun s i wr => ∃ k : Nat, k ≤ 2 ∧ i = .int .i64 (k : Int) ∧ s = .int .i64 ((if k = 0 then 0 else if k = 1 then n1 else n1 + n2 : Nat) : Int) ∧ wr = w) (fun _ i _ => 2 - (intOf i).toNat)
  case atStart => exact ⟨0, Nat.zero_le _, rfl, rfl, rfl⟩
  case round =>
    obtain ⟨k, hk, rfl, rfl, hw⟩ := hrel
    have hw' := hw.symm
    clear hw
    subst hw'
    by_cases hlt : k < 2
    · have hk2 : k = 0 ∨ k = 1 := by omega
      rcases hk2 with rfl | rfl
      · have j1 : ¬ (n1 : Int) < 0 := by omega
        go_wp2
        exact ⟨⟨1, by omega, by go_num, by simp, trivial⟩, by simp [intOf]⟩
      · have j1 : ¬ (n1 : Int) + (n2 : Int) < 0 := by omega
        go_wp2
        exact ⟨⟨2, by omega, by go_num, by simp, trivial⟩, by simp [intOf]⟩
    · have e2 : k = 2 := by omega
      subst e2
      have kG2 := kG (n1 + n2) w (by omega)
      have hcast : ((n1 + n2 : Nat) : Int) = (n1 : Int) + (n2 : Int) := by omega
      simp only [hcast] at kG2
      clear hcast kG
      go_wp2_with fail
      refine kG2.mono ?_
      rintro e w5 ⟨⟨v0, rfl, hO5⟩, hb5⟩
      clear kG2
      go_wp2_with fail
      go_loopw [6, 27] (fun v i wr => ∃ k : Nat, k ≤ 2 ∧ i = .int .i64 (k : Int) ∧ CcStamped wr w.heap.size v n1 n2 f1 f2 k ∧ Below w.heap.size w wr) (fun _ i _ => 2 - (intOf i).toNat)
      case atStart => exact ⟨0, Nat.zero_le _, rfl, hO5, hb5⟩
      case round =>
        obtain ⟨k, hk, rfl, hO, hB⟩ := hrel
        clear hO5 hb5
        by_cases hlt : k < 2
        · have hk2 : k = 0 ∨ k = 1 := by omega
          rcases hk2 with rfl | rfl
          · have hO0 : OwnS wr w.heap.size _ 0 (fun _ => 0) := hO
            clear hO
            have y := (hB.cell (p := ⟨cb, 0, none⟩) hcb).trans x0
            have sW := s1.below hB
            rcases k1 with ⟨e1, e2, e3⟩ | ⟨b, o, rfl⟩
            · have y' : wr.cell? ⟨cb, 0, none⟩ = some (.slice none 0 0) := by rw [y, e1, e2, e3]
              have HE : Hid (n1 = 0) := e2
              clear y e1 e2 e3 sW
              go_wp2_with (at_builtin; refine wpList_append_own_none rfl _ _ 23 rfl w.heap.size 29 i0 3 Try.underlying23 hi _ _ _ rfl hO0 rfl ?_)
              exact ⟨⟨1, by omega, by go_num, by show OwnS _ _ _ n1 f1; have he := HE.out; rw [he]; exact hO0, hB⟩, by simp [intOf]⟩
            · have hnw := il_news sW
              go_wp2_with (at_builtin; refine wpList_append_own _ rfl _ _ 23 rfl w.heap.size 29 i0 (.agg #[.int .i64 0, .int .i64 0, .int .i64 0]) 3 24 Try.underlying23 hi hz0 hz1 hz2 rfl (by decide) _ _ _ rfl hO0 ⟨b, o, none⟩ n1 c1 (vL f1 (n1 * 3)) rfl (by rw [vL_len]) hnw (vL_one f1 _) (by unfold maxLen; omega) (by omega) hB.size ?_; intro v' w6 hown' hgrow3 _)
              have hO6 : OwnS w6 w.heap.size v' n1 f1 := own_app0S hown'
              have hB6 := hB.grown hgrow3 hB.size (fun q hq => (World.ownsRow.lt hO0 q hq).1)
              exact ⟨⟨1, by omega, by go_num, hO6, hB6⟩, by simp [intOf]⟩
          · have hO0 : OwnS wr w.heap.size _ n1 f1 := hO
            clear hO
            have y := (hB.cell (p := ⟨cb, 1, none⟩) hcb).trans x1
            have sW := s2.below hB
            rcases k2 with ⟨e1, e2, e3⟩ | ⟨b, o, rfl⟩
            · have y' : wr.cell? ⟨cb, 1, none⟩ = some (.slice none 0 0) := by rw [y, e1, e2, e3]
              have HE : Hid (n2 = 0) := e2
              clear y e1 e2 e3 sW
              go_wp2_with (at_builtin; refine wpList_append_own_none rfl _ _ 23 rfl w.heap.size 29 i0 3 Try.underlying23 hi _ _ _ rfl hO0 rfl ?_)
              exact ⟨⟨2, by omega, by go_num, by show OwnS _ _ _ (n1 + n2) (apF f1 (n1 * 3) f2); have he := HE.out; rw [he, Nat.add_zero]; exact own_cgS hO0 (fun i hi => by rw [apF, if_pos hi]), hB⟩, by simp [intOf]⟩
            · have hnw := il_news sW
              go_wp2_with (at_builtin; refine wpList_append_own _ rfl _ _ 23 rfl w.heap.size 29 i0 (.agg #[.int .i64 0, .int .i64 0, .int .i64 0]) 3 24 Try.underlying23 hi hz0 hz1 hz2 rfl (by decide) _ _ _ rfl hO0 ⟨b, o, none⟩ n2 c2 (vL f2 (n2 * 3)) rfl (by rw [vL_len]) hnw (vL_one f2 _) (by unfold maxLen; omega) (by omega) hB.size ?_; intro v' w6 hown' hgrow3 _)
              have hO6 : OwnS w6 w.heap.size v' (n1 + n2) (apF f1 (n1 * 3) f2) := own_appS hown'
              have hB6 := hB.grown hgrow3 hB.size (fun q hq => (World.ownsRow.lt hO0 q hq).1)
              exact ⟨⟨2, by omega, by go_num, hO6, hB6⟩, by simp [intOf]⟩
        · have e2 : k = 2 := by omega
          subst e2
          have hO0 : OwnS wr w.heap.size _ (n1 + n2) (apF f1 (n1 * 3) f2) := hO
          clear hO
          go_wp2
          go_ret
          exact ⟨⟨_, rfl, hO0⟩, hB⟩
end Go.Proofs.Yteknkgfgefhloaa
