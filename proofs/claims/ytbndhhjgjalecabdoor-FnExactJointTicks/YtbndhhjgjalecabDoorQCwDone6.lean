/- The law FnExactJointTicks holds for every argument; no condition. -/
import Derived.Test.YtbndhhjgjalecabDoorQCwLaw6
import Derived.Test.YtbndhhjgjalecabDoorQCwJnI
import Derived.Test.YtbndhhjgjalecabDoorQCwOpT
import Derived.Test.YtbndhhjgjalecabDoorTie
import Derived.Test.YtbndhhjgjalecabDoorCards
import Derived.SevenTiedAt
import Derived.LaidMore
import Derived.Lib.LaidTab
import Derived.Stop.Joined
import Derived.Stop.LaidErr
import Derived.WalkSmall
import Derived.MakeChecks
namespace Go.Proofs.YtbndhhjgjalecabDoor.CwE6
open Go.ChangeShapes Go.WideShapes Go.ChangeAt Go.RowKit
set_option linter.unusedVariables false

theorem own : ownKnob Tryd.prog.godebug = none := by kernel_rfl
theorem laidOut : laidOutB Tryd.prog = true := by kernel_rfl

theorem gX : Tryd.prog.globalNamed "loop.example/g00047/impl.wayX" = some 0 := by kernel_rfl
theorem gY : Tryd.prog.globalNamed "loop.example/g00047/impl.wayY" = some 1 := by kernel_rfl
theorem tX : (Tryd.prog.globals[0]?).map (·.type) = some 73 := by kernel_rfl
theorem tY : (Tryd.prog.globals[1]?).map (·.type) = some 73 := by kernel_rfl
theorem door_met (os : Os) (args : Array Value) : laidMetH Tryd.prog Rows.fnExactJointTicksRow.laid ((World.doorLaid Tryd.prog 400 os).forCall (fun _ _ => 0) ⟨#[], args, []⟩).memory :=
  laidMetH_of_parts3 (fuel := 8) (laidMet_of_run' 8 (by kernel_rfl) (by kernel_rfl)) (by kernel_rfl) (by kernel_rfl)
theorem of_laid {W : World} (h : laidMetH Tryd.prog Rows.fnExactJointTicksRow.laid W) : Tab W := by
  rw [MakeChecks.laidMetH_plain _ _ _ (by kernel_rfl)] at h
  have h1 : laidMet Tryd.prog (("loop.example/g00047/impl.wayX", Lib.tabData .i64 [1, 0, -1, 0]) :: [("loop.example/g00047/impl.wayY", Lib.tabData .i64 [0, 1, 0, -1])]) W := h
  have hX := Lib.tabIs_of_head gX tX Tryd.underlying73 Tryd.underlying3 (by kernel_rfl) (by kernel_rfl) h1
  have hY := Lib.tabIs_of_head gY tY Tryd.underlying73 Tryd.underlying3 (by kernel_rfl) (by kernel_rfl) h1.tail
  have cx := hX.cell gX
  have cy := hY.cell gY
  exact ⟨fun i hi => cx i hi, fun i hi => cy i hi, World.block_lt_of_cell? _ _ (cx 0 (by decide)), World.block_lt_of_cell? _ _ (cy 0 (by decide))⟩

set_option maxRecDepth 100000 in
theorem lifted (os : Os) (started : os.Started) (H : Type) (enc : TypeId × Value → H) :
    ReturnsInHanded {} Tryd.checked os 3 .any (fun w args => (Rows.fnExactJointTicksSpec.pre enc Tryd.prog Tryd.f3 [] false w args ∧ laidMetH Tryd.prog Rows.fnExactJointTicksRow.laid w) ∧ sizedMet enc Tryd.prog Tryd.f3 (OpenSpec.ofChange Rows.fnExactJointTicksSpec) false w args)
      (Rows.fnExactJointTicksSpec.post enc Tryd.prog Tryd.f3 false true false false) := by
  refine returnsInHanded_of_change_and (C := Tryd.checked) (X := fun w _ => laidMetH Tryd.prog Rows.fnExactJointTicksRow.laid w) (fun _ _ _ hh h => h.of_heap hh) own started (by kernel_rfl) Tryd.func3
    (ChangeSpec.witness_shaped (enc := enc) (C := Tryd.checked) (os := os) (X := fun w _ => laidMetH Tryd.prog Rows.fnExactJointTicksRow.laid w) false (World.doorLaid Tryd.prog 400 os) #[cel 0 none 0 0, tpv 0 0, tpv 0 0] 8 rfl (World.shaped_of_RefB (by kernel_rfl) (by kernel_rfl)) (by kernel_rfl) (by kernel_rfl) (by kernel_rfl) (door_met os _)) ?_
  intro W base args ds gs before hval0 hW _ _ hL _
  have hval : ∀ (j : Nat) t v, Tryd.f3.params[j]? = some t → args[j]? = some v → Value.okWide Tryd.prog W .any base t v := hval0
  have hW' := hW
  obtain ⟨p, q, hA0, hV, rfl, hfz, hnd⟩ := hW
  have hA : DataW.TrodAll enc Tryd.prog W 0 (fun _ => true) true Tryd.f3.params.toList args.toList ds p := hA0
  rw [Tryd.params3] at hA hval
  obtain ⟨v0, vs0, d0', ds0, p0, q0, hargs, rfl, rfl, h0, r0⟩ := trodAll_cons hA
  obtain ⟨v1, vs1, d1', ds1, p1, q1, rfl, rfl, rfl, h1, r1⟩ := trodAll_cons r0
  obtain ⟨v2, vs2, d2', ds2, p2, q2, rfl, rfl, rfl, h2, r2⟩ := trodAll_cons r1
  obtain ⟨rfl, rfl, rfl⟩ := trodAll_nil r2
  obtain rfl : args = #[v0, v1, v2] := by cases args; simp_all
  have hV' : DataW.TrodVars enc Tryd.prog W (fun _ => true) ["loop.example/g00047/impl.wayX", "loop.example/g00047/impl.wayY"] gs q := hV
  obtain ⟨g0, t0, cs0', f0', e0', q0', g1, t1, cs1', f1', e1', q1', rfl, hg0, ht0, hv0, hd0, hg1, ht1, hv1, hd1, rfl⟩ := trodVars_two hV'
  obtain rfl := Option.some.inj (gX.symm.trans hg0)
  obtain rfl := Option.some.inj (tX.symm.trans ht0)
  obtain rfl := Option.some.inj (gY.symm.trans hg1)
  obtain rfl := Option.some.inj (tY.symm.trans ht1)
  have hTab := of_laid hL
  have trX : DataW.Trod enc Tryd.prog W 0 (fun _ => true) true 73 (.agg cs0') e0' q0' := ⟨f0', by simpa [Value.cells] using hd0⟩
  have trY : DataW.Trod enc Tryd.prog W 0 (fun _ => true) true 73 (.agg cs1') e1' q1' := ⟨f1', by simpa [Value.cells] using hd1⟩
  have ltX : ∀ x ∈ q0', x.block < W.heap.size := by obtain ⟨m, hm⟩ := trX; exact DataW.trod_lt m _ _ _ hm
  have ltY : ∀ x ∈ q1', x.block < W.heap.size := by obtain ⟨m, hm⟩ := trY; exact DataW.trod_lt m _ _ _ hm
  have k0 := h0
  have lt0 : ∀ x ∈ p0, x.block < W.heap.size := by obtain ⟨m, hm⟩ := k0; exact DataW.trod_lt m _ _ _ hm
  obtain ⟨cs0, e0, _⟩ := okWide_struct Tryd.underlying24 (hval 0 24 v0 rfl rfl)
  obtain ⟨W0, a0, n0, c0, f0, ev0, hn0, hF0⟩ : ∃ W0 a n c f, v0 = cel W0 a n c ∧ n ≤ 9223372036854775807 ∧ IL W a n f := by
    obtain ⟨fuel, hf⟩ := h0
    exact open_cel e0 hf
  subst ev0
  have k1 := h1
  have lt1 : ∀ x ∈ p1, x.block < W.heap.size := by obtain ⟨m, hm⟩ := k1; exact DataW.trod_lt m _ _ _ hm
  obtain ⟨cs1, e1, _⟩ := okWide_struct Tryd.underlying26 (hval 1 26 v1 rfl rfl)
  obtain ⟨s1, t1, ev1⟩ : ∃ a b, v1 = tpv a b := by
    obtain ⟨fuel, hf⟩ := h1
    exact open_trip e1 hf
  subst ev1
  have k2 := h2
  have lt2 : ∀ x ∈ p2, x.block < W.heap.size := by obtain ⟨m, hm⟩ := k2; exact DataW.trod_lt m _ _ _ hm
  obtain ⟨cs2, e2, _⟩ := okWide_struct Tryd.underlying26 (hval 2 26 v2 rfl rfl)
  obtain ⟨s2, t2, ev2⟩ : ∃ a b, v2 = tpv a b := by
    obtain ⟨fuel, hf⟩ := h2
    exact open_trip e2 hf
  subst ev2
  clear hA0 hval0
  have walk : Calls Tryd.prog 3 #[cel W0 a0 n0 c0, tpv s1 t1, tpv s2 t2] W fun e w' => e = .returned (.bool true) ∧ Below W.heap.size W w' := jointAll W0 a0 n0 c0 f0 s1 t1 s2 t2 W hn0 hF0 hTab (fun h1 a c w hT h => iJoint W0 a n0 c f0 s1 t1 s2 t2 w h1 hT h)
  refine walk.mono fun e W' ⟨he, bel⟩ => ?_
  subst he
  obtain ⟨mX, hmX⟩ := Below.trod laidOut (by kernel_rfl) (of_decide_eq_true (by kernel_rfl)) trX bel ltX
  obtain ⟨mY, hmY⟩ := Below.trod laidOut (by kernel_rfl) (of_decide_eq_true (by kernel_rfl)) trY bel ltY
  have vs : DataW.TrodVars enc Tryd.prog W' (fun b => decide (b < W.heap.size)) ["loop.example/g00047/impl.wayX", "loop.example/g00047/impl.wayY"] [e0', e1'] _ :=
    ⟨0, 73, cs0', mX, _, _, gX, tX, var?_below bel gX hTab.l0 hv0, by simpa [Value.cells] using hmX, ⟨1, 73, cs1', mY, _, _, gY, tY, var?_below bel gY hTab.l1 hv1, by simpa [Value.cells] using hmY, rfl, rfl⟩, rfl⟩
  exact ⟨_, rfl, _, _, _, [], _, _, hW', trodAll_mk1 (shut_bool Tryd.underlying4 _), (trodAll_cons_mk (Below.trod laidOut (by kernel_rfl) (of_decide_eq_true (by kernel_rfl)) k0 bel lt0) (trodAll_cons_mk (Below.trod laidOut (by kernel_rfl) (of_decide_eq_true (by kernel_rfl)) k1 bel lt1) (trodAll_cons_mk (Below.trod laidOut (by kernel_rfl) (of_decide_eq_true (by kernel_rfl)) k2 bel lt2) trodAll_mk0))), vs, bel.frame _, fun h => by cases h⟩

theorem over : Rows.fnExactJointTicksRow.holds Tryd.pinned (OpenSpec.ofChange Rows.fnExactJointTicksSpec) :=
  OpenClaim.holds_of_wide 3 Tryd.f3 rfl rfl rfl rfl rfl rfl rfl ⟨rfl, rfl, rfl, rfl, rfl⟩ rfl rfl rfl rfl rfl (by kernel_rfl) Tryd.func3 (by kernel_rfl)
    (of_decide_eq_true (by kernel_rfl)) (by unfold Func.isWrapper; first | (rw [if_pos (by decide +kernel)]; kernel_rfl) | (rw [if_neg (by decide +kernel)]; exact ⟨rfl, rfl⟩))
    (fun os started H enc _ => lifted os started H enc)
end Go.Proofs.YtbndhhjgjalecabDoor.CwE6
namespace Go.Proofs.YtbndhhjgjalecabDoor
theorem fnExactJointTicksCard_holds : Rows.FnExactJointTicksCardSaid :=
  Claim7.holds_tied_plain_at .later [] [.data, .data] true (true, "691feea08ce970c91381291a474ac36892296c01a963868b2ef4f2cfe35303c9") false
    CwE6.over (fun _ h => by cases h) (by kernel_rfl) (fun _ h => by cases h) fnExactJointTicks_row_tie rfl ⟨rfl, rfl⟩ (by kernel_rfl) rfl
    (fun f fn hf hfn => by
      obtain rfl : f = 3 := Option.some.inj ((show Tryd.prog.funcNamed "loop.example/g00047/laws.FnExactJointTicks" = some 3 by kernel_rfl).symm.trans hf) |>.symm
      obtain rfl : fn = Tryd.f3 := (Option.some.inj (Tryd.func3.symm.trans hfn)).symm
      exact ⟨by kernel_rfl, fun j t ht => by
        rw [Tryd.params3] at ht
        have hm : t ∈ [24, 26, 26] := by simpa using Array.mem_of_getElem? ht
        have hall : ([24, 26, 26].all fun u => !Tryd.prog.wantsStandIn u) = true := by kernel_rfl
        exact (show Tryd.prog.wantsStandIn t = false by simpa using List.all_eq_true.1 hall t hm)⟩)
    (by kernel_rfl)
end Go.Proofs.YtbndhhjgjalecabDoor
