/- The law FnCrowd holds for every argument; no condition. -/
import Derived.Test.YtbndhhjgjalecaaDoorQCwFnA
import Derived.Test.YtbndhhjgjalecaaDoorQCwPnI
import Derived.Test.YtbndhhjgjalecaaDoorQCwKi
import Derived.Test.YtbndhhjgjalecaaDoorQCwAtI
import Derived.Test.YtbndhhjgjalecaaDoorQInOpen
import Derived.Test.YtbndhhjgjalecaaDoorTie
import Derived.Test.YtbndhhjgjalecaaDoorCards
import Derived.SevenTiedAt
import Derived.LaidMore
import Derived.Lib.LaidTab
import Derived.Stop.Joined
import Derived.Stop.LaidErr
import Derived.WalkSmall
import Derived.MakeChecks
namespace Go.Proofs.YtbndhhjgjalecaaDoor.CwE8
open Go.ChangeShapes Go.WideShapes Go.ChangeAt Go.RowKit
set_option linter.unusedVariables false

theorem own : ownKnob Tryd.prog.godebug = none := by kernel_rfl
theorem laidOut : laidOutB Tryd.prog = true := by kernel_rfl

theorem gX : Tryd.prog.globalNamed "loop.example/g00047/impl.wayX" = some 0 := by kernel_rfl
theorem gY : Tryd.prog.globalNamed "loop.example/g00047/impl.wayY" = some 1 := by kernel_rfl
theorem tX : (Tryd.prog.globals[0]?).map (·.type) = some 137 := by kernel_rfl
theorem tY : (Tryd.prog.globals[1]?).map (·.type) = some 137 := by kernel_rfl
theorem door_met (os : Os) (args : Array Value) : laidMetH Tryd.prog Rows.fnCrowdRow.laid ((World.doorLaid Tryd.prog 400 os).forCall (fun _ _ => 0) ⟨#[], args, []⟩).memory :=
  laidMetH_of_parts3 (fuel := 8) (laidMet_of_run' 8 (by kernel_rfl) (by kernel_rfl)) (by kernel_rfl) (by kernel_rfl)
theorem of_laid {W : World} (h : laidMetH Tryd.prog Rows.fnCrowdRow.laid W) : Tab W := by
  rw [MakeChecks.laidMetH_plain _ _ _ (by kernel_rfl)] at h
  have h1 : laidMet Tryd.prog (("loop.example/g00047/impl.wayX", Lib.tabData .i64 [1, 0, -1, 0]) :: [("loop.example/g00047/impl.wayY", Lib.tabData .i64 [0, 1, 0, -1])]) W := h
  have hX := Lib.tabIs_of_head gX tX Tryd.underlying137 Tryd.underlying3 (by kernel_rfl) (by kernel_rfl) h1
  have hY := Lib.tabIs_of_head gY tY Tryd.underlying137 Tryd.underlying3 (by kernel_rfl) (by kernel_rfl) h1.tail
  have cx := hX.cell gX
  have cy := hY.cell gY
  exact ⟨fun i hi => cx i hi, fun i hi => cy i hi, World.block_lt_of_cell? _ _ (cx 0 (by decide)), World.block_lt_of_cell? _ _ (cy 0 (by decide))⟩

set_option maxRecDepth 100000 in
theorem lifted (os : Os) (started : os.Started) (H : Type) (enc : TypeId × Value → H) :
    ReturnsInHanded {} Tryd.checked os 3 .any (fun w args => (Rows.fnCrowdSpec.pre enc Tryd.prog Tryd.f3 [] false w args ∧ laidMetH Tryd.prog Rows.fnCrowdRow.laid w) ∧ sizedMet enc Tryd.prog Tryd.f3 (OpenSpec.ofChange Rows.fnCrowdSpec) false w args)
      (Rows.fnCrowdSpec.post enc Tryd.prog Tryd.f3 false true false false) := by
  refine returnsInHanded_of_change_and (C := Tryd.checked) (X := fun w _ => laidMetH Tryd.prog Rows.fnCrowdRow.laid w) (fun _ _ _ hh h => h.of_heap hh) own started (by kernel_rfl) Tryd.func3
    (ChangeSpec.witness_shaped (enc := enc) (C := Tryd.checked) (os := os) (X := fun w _ => laidMetH Tryd.prog Rows.fnCrowdRow.laid w) false (World.doorLaid Tryd.prog 400 os) #[.slice none 0 0] 8 rfl (World.shaped_of_RefB (by kernel_rfl) (by kernel_rfl)) (by kernel_rfl) (by kernel_rfl) (by kernel_rfl) (door_met os _)) ?_
  intro W base args ds gs before hval0 hW _ _ hL _
  have hval : ∀ (j : Nat) t v, Tryd.f3.params[j]? = some t → args[j]? = some v → Value.okWide Tryd.prog W .any base t v := hval0
  have hW' := hW
  obtain ⟨p, q, hA0, hV, rfl, hfz, hnd⟩ := hW
  have hA : DataW.TrodAll enc Tryd.prog W 0 (fun _ => true) true Tryd.f3.params.toList args.toList ds p := hA0
  rw [Tryd.params3] at hA hval
  obtain ⟨v0, vs0, d0', ds0, p0, q0, hargs, rfl, rfl, h0, r0⟩ := trodAll_cons hA
  obtain ⟨rfl, rfl, rfl⟩ := trodAll_nil r0
  obtain rfl : args = #[v0] := by cases args; simp_all
  have hV' : DataW.TrodVars enc Tryd.prog W (fun _ => true) ["loop.example/g00047/impl.wayX", "loop.example/g00047/impl.wayY"] gs q := hV
  obtain ⟨g0, t0, cs0', f0', e0', q0', g1, t1, cs1', f1', e1', q1', rfl, hg0, ht0, hv0, hd0, hg1, ht1, hv1, hd1, rfl⟩ := trodVars_two hV'
  obtain rfl := Option.some.inj (gX.symm.trans hg0)
  obtain rfl := Option.some.inj (tX.symm.trans ht0)
  obtain rfl := Option.some.inj (gY.symm.trans hg1)
  obtain rfl := Option.some.inj (tY.symm.trans ht1)
  have hTab := of_laid hL
  have trX : DataW.Trod enc Tryd.prog W 0 (fun _ => true) true 137 (.agg cs0') e0' q0' := ⟨f0', by simpa [Value.cells] using hd0⟩
  have trY : DataW.Trod enc Tryd.prog W 0 (fun _ => true) true 137 (.agg cs1') e1' q1' := ⟨f1', by simpa [Value.cells] using hd1⟩
  have ltX : ∀ x ∈ q0', x.block < W.heap.size := by obtain ⟨m, hm⟩ := trX; exact DataW.trod_lt m _ _ _ hm
  have ltY : ∀ x ∈ q1', x.block < W.heap.size := by obtain ⟨m, hm⟩ := trY; exact DataW.trod_lt m _ _ _ hm
  have k0 := h0
  have lt0 : ∀ x ∈ p0, x.block < W.heap.size := by obtain ⟨m, hm⟩ := k0; exact DataW.trod_lt m _ _ _ hm
  obtain ⟨a0, len0, cap0, rfl⟩ := okWide_slice Tryd.underlying22 (hval 0 22 v0 rfl rfl)
  obtain ⟨hm0, hF0⟩ : len0 ≤ 9223372036854775807 ∧ BL W a0 len0 := by
    obtain ⟨fuel, hf⟩ := h0
    obtain ⟨a, l, c, hcs, h1, h2⟩ := open_bl Tryd.underlying22 Tryd.underlying5 (by kernel_rfl) hf
    simp [Value.cells] at hcs
    obtain ⟨rfl, rfl, rfl⟩ := hcs
    exact ⟨h1, h2⟩
  clear hA0 hval0
  have walk : Calls Tryd.prog 3 #[.slice a0 len0 cap0] W fun e w' => e = .returned (.bool true) ∧ Below W.heap.size W w' := crowdAll a0 len0 cap0 W hTab hm0 hF0 (fun W a b n c m d f g tk w hT hd hn hm hf hg => iPlan W a b n c m d f g tk w hn hm hd hT hf hg) (fun W a b p n c m d N e0 f g K F w hT hd he hn hm hN hK hf hg hp => iGoodP W a b p n c m d N e0 f g K F w hn hm hN hK hT hd he hf hg hp) (fun W a n c f s t w hT hn hf => iAlone W a n c f s t w hn hT hf) (fun W a n c f s t u v w hT hn hf => iJoint W a n c f s t u v w hn hT hf)
  refine walk.mono fun e W' ⟨he, bel⟩ => ?_
  subst he
  obtain ⟨mX, hmX⟩ := Below.trod laidOut (by kernel_rfl) (of_decide_eq_true (by kernel_rfl)) trX bel ltX
  obtain ⟨mY, hmY⟩ := Below.trod laidOut (by kernel_rfl) (of_decide_eq_true (by kernel_rfl)) trY bel ltY
  have vs : DataW.TrodVars enc Tryd.prog W' (fun b => decide (b < W.heap.size)) ["loop.example/g00047/impl.wayX", "loop.example/g00047/impl.wayY"] [e0', e1'] _ :=
    ⟨0, 137, cs0', mX, _, _, gX, tX, var?_below bel gX hTab.l0 hv0, by simpa [Value.cells] using hmX, ⟨1, 137, cs1', mY, _, _, gY, tY, var?_below bel gY hTab.l1 hv1, by simpa [Value.cells] using hmY, rfl, rfl⟩, rfl⟩
  exact ⟨_, rfl, _, _, _, [], _, _, hW', trodAll_mk1 (shut_bool Tryd.underlying4 _), (trodAll_cons_mk (Below.trod laidOut (by kernel_rfl) (of_decide_eq_true (by kernel_rfl)) k0 bel lt0) trodAll_mk0), vs, bel.frame _, fun h => by cases h⟩

theorem over : Rows.fnCrowdRow.holds Tryd.pinned (OpenSpec.ofChange Rows.fnCrowdSpec) :=
  OpenClaim.holds_of_wide 3 Tryd.f3 rfl rfl rfl rfl rfl rfl rfl ⟨rfl, rfl, rfl, rfl, rfl⟩ rfl rfl rfl rfl rfl (by kernel_rfl) Tryd.func3 (by kernel_rfl)
    (of_decide_eq_true (by kernel_rfl)) (by unfold Func.isWrapper; first | (rw [if_pos (by decide +kernel)]; kernel_rfl) | (rw [if_neg (by decide +kernel)]; exact ⟨rfl, rfl⟩))
    (fun os started H enc _ => lifted os started H enc)
end Go.Proofs.YtbndhhjgjalecaaDoor.CwE8
namespace Go.Proofs.YtbndhhjgjalecaaDoor
theorem fnCrowdCard_holds : Rows.FnCrowdCardSaid :=
  Claim7.holds_tied_plain_at .later [] [.data, .data] true (true, "683b4144e22b824ff5b6dd1868873019f12758f3daa4b1bb7d8967991c3f02fa") false
    CwE8.over (fun _ h => by cases h) (by kernel_rfl) (fun _ h => by cases h) fnCrowd_row_tie rfl ⟨rfl, rfl⟩ (by kernel_rfl) rfl
    (fun f fn hf hfn => by
      obtain rfl : f = 3 := Option.some.inj ((show Tryd.prog.funcNamed "loop.example/g00047/laws.FnCrowd" = some 3 by kernel_rfl).symm.trans hf) |>.symm
      obtain rfl : fn = Tryd.f3 := (Option.some.inj (Tryd.func3.symm.trans hfn)).symm
      exact ⟨by kernel_rfl, fun j t ht => by
        rw [Tryd.params3] at ht
        have hm : t ∈ [22] := by simpa using Array.mem_of_getElem? ht
        have hall : ([22].all fun u => !Tryd.prog.wantsStandIn u) = true := by kernel_rfl
        exact (show Tryd.prog.wantsStandIn t = false by simpa using List.all_eq_true.1 hall t hm)⟩)
    (by kernel_rfl)
end Go.Proofs.YtbndhhjgjalecaaDoor
