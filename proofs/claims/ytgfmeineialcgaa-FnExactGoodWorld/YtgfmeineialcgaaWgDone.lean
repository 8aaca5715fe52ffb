/- The law FnExactGoodWorld holds for every argument; no condition. -/
import Derived.Test.YtgfmeineialcgaaWgLaw
import Derived.Test.YtgfmeineialcgaaWgOpen
namespace Go.Proofs.Ytgfmeineialcgaa.goodWDone
open Go.ChangeShapes Go.WideShapes Go.ChangeAt Go.RowKit
set_option linter.unusedVariables false

theorem own : ownKnob Try.prog.godebug = none := by kernel_rfl
theorem laidOut : laidOutB Try.prog = true := by kernel_rfl

set_option maxRecDepth 100000 in
theorem lifted (os : Os) (started : os.Started) (H : Type) (enc : TypeId × Value → H) :
    ReturnsInHanded {} Try.checked os 3 .any (Rows.fnExactGoodWorldSpec.pre6 enc Try.prog Try.f3 Rows.fnExactGoodWorldRow.domain false) (Rows.fnExactGoodWorldSpec.post enc Try.prog Try.f3 false true false false) := by
  refine returnsInHanded_of_change (C := Try.checked) own started (by kernel_rfl) Try.func3
    (ChangeSpec.witness6 (enc := enc) (C := Try.checked) false ⟨#[], #[wvl 0 none 0 0 0 0 0], []⟩ 8 (by kernel_rfl) (by kernel_rfl) (by kernel_rfl) (by kernel_rfl)) ?_
  intro W base args ds gs before hval0 hW hcnd _
  have hval : ∀ (j : Nat) t v, Try.f3.params[j]? = some t → args[j]? = some v → Value.okWide Try.prog W .any base t v := hval0
  have hW' := hW
  obtain ⟨p, q, hA0, hV, rfl, hfz, hnd⟩ := hW
  have hA : DataW.TrodAll enc Try.prog W 0 (fun _ => true) true Try.f3.params.toList args.toList ds p := hA0
  rw [Try.params3] at hA hval
  obtain ⟨v0, vs0, d0', ds0, p0, q0, hargs, rfl, rfl, h0, r0⟩ := trodAll_cons hA
  obtain ⟨rfl, rfl, rfl⟩ := trodAll_nil r0
  obtain rfl : args = #[v0] := by cases args; simp_all
  obtain ⟨rfl, rfl⟩ := trodVars_none hV
  have k0 := h0
  have lt0 : ∀ x ∈ p0, x.block < W.heap.size := by obtain ⟨m, hm⟩ := k0; exact DataW.trod_lt m _ _ _ hm
  obtain ⟨cs0, e0, _⟩ := okWide_struct Try.underlying26 (hval 0 26 v0 rfl rfl)
  obtain ⟨W0, a0, n0, c0, t0, s0, d0, f0, ev0, hn0, hF0⟩ : ∃ W0 a n c t s d f, v0 = wvl W0 a n c t s d ∧ n ≤ 9223372036854775807 ∧ IL W a n f := by
    obtain ⟨fuel, hf⟩ := h0
    exact open_world e0 hf
  subst ev0
  clear hA0 hval0
  have walk : Calls Try.prog 3 #[wvl W0 a0 n0 c0 t0 s0 d0] W fun e w' => e = .returned (.bool true) ∧ Below W.heap.size W w' := goodWAll W0 a0 n0 c0 t0 s0 d0 f0 W hn0 hF0
  refine walk.mono fun e W' ⟨he, bel⟩ => ?_
  subst he
  exact ⟨_, rfl, _, _, _, [], _, [], hW', trodAll_mk1 (shut_bool Try.underlying4 _), (trodAll_cons_mk (Below.trod laidOut (by kernel_rfl) (of_decide_eq_true (by kernel_rfl)) k0 bel lt0) trodAll_mk0), rfl, bel.frame _, fun h => by cases h⟩

theorem over : Rows.fnExactGoodWorldRow.holds Try.pinned (OpenSpec.ofChange Rows.fnExactGoodWorldSpec) :=
  OpenClaim.holds_of_wide 3 Try.f3 rfl rfl rfl rfl rfl rfl rfl ⟨rfl, rfl, rfl, rfl, rfl⟩ rfl rfl rfl rfl rfl (by kernel_rfl) Try.func3 (by kernel_rfl)
    (of_decide_eq_true (by kernel_rfl)) (by unfold Func.isWrapper; first | (rw [if_pos (by decide +kernel)]; kernel_rfl) | (rw [if_neg (by decide +kernel)]; exact ⟨rfl, rfl⟩))
    (fun os started H enc _ => lifted os started H enc)
end Go.Proofs.Ytgfmeineialcgaa.goodWDone
namespace Go.Proofs.Ytgfmeineialcgaa
theorem fnExactGoodWorld_holds : Rows.FnExactGoodWorldSaid := goodWDone.over
end Go.Proofs.Ytgfmeineialcgaa
