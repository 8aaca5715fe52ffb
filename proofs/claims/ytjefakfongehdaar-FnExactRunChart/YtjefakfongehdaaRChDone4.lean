/- The law FnExactRunChart holds for every argument; no condition. -/
import Derived.Test.YtjefakfongehdaaRChLaw4
import Derived.Test.YtjefakfongehdaaRChRunI
import Derived.Test.YtjefakfongehdaaRChOpen
import Derived.Test.YtjefakfongehdaaRInOpen
import Derived.ProofKit
namespace Go.Proofs.YtjefakfongehdaaR.ChE4
open Go.ChangeShapes Go.WideShapes Go.ChangeAt Go.RowKit
set_option linter.unusedVariables false

theorem own : ownKnob Try.prog.godebug = none := by kernel_rfl
theorem laidOut : laidOutB Try.prog = true := by kernel_rfl

set_option maxRecDepth 100000 in
theorem lifted (os : Os) (started : os.Started) (H : Type) (enc : TypeId × Value → H) :
    ReturnsInHanded {} Try.checked os 7 .any (Rows.fnExactRunChartSpec.pre6 enc Try.prog Try.f7 Rows.fnExactRunChartRow.domain false) (Rows.fnExactRunChartSpec.post enc Try.prog Try.f7 false true false false) := by
  refine returnsInHanded_of_change (C := Try.checked) own started (by kernel_rfl) Try.func7
    (ChangeSpec.witness6 (enc := enc) (C := Try.checked) false ⟨#[], #[chv none 0 0 none 0 0, .slice none 0 0], []⟩ 8 (by kernel_rfl) (by kernel_rfl) (by kernel_rfl) (by kernel_rfl)) ?_
  intro W base args ds gs before hval0 hW hcnd _
  have hval : ∀ (j : Nat) t v, Try.f7.params[j]? = some t → args[j]? = some v → Value.okWide Try.prog W .any base t v := hval0
  have hW' := hW
  obtain ⟨p, q, hA0, hV, rfl, hfz, hnd⟩ := hW
  have hA : DataW.TrodAll enc Try.prog W 0 (fun _ => true) true Try.f7.params.toList args.toList ds p := hA0
  rw [Try.params7] at hA hval
  obtain ⟨v0, vs0, d0', ds0, p0, q0, hargs, rfl, rfl, h0, r0⟩ := trodAll_cons hA
  obtain ⟨v1, vs1, d1', ds1, p1, q1, rfl, rfl, rfl, h1, r1⟩ := trodAll_cons r0
  obtain ⟨rfl, rfl, rfl⟩ := trodAll_nil r1
  obtain rfl : args = #[v0, v1] := by cases args; simp_all
  obtain ⟨rfl, rfl⟩ := trodVars_none hV
  have k0 := h0
  have lt0 : ∀ x ∈ p0, x.block < W.heap.size := by obtain ⟨m, hm⟩ := k0; exact DataW.trod_lt m _ _ _ hm
  obtain ⟨cs0, e0, _⟩ := okWide_struct Try.underlying43 (hval 0 43 v0 rfl rfl)
  obtain ⟨a0, n0, c0, b0, m0, d0, f0, g0, ev0, hn0, hm0, hF0, hG0⟩ : ∃ a n c b m d f g, v0 = chv a n c b m d ∧ n ≤ 9223372036854775807 ∧ m ≤ 9223372036854775807 ∧ IL W a (n * 2) f ∧ IL W b (m * 3) g := by
    obtain ⟨fuel, hf⟩ := h0
    exact open_chart e0 hf
  subst ev0
  have k1 := h1
  have lt1 : ∀ x ∈ p1, x.block < W.heap.size := by obtain ⟨m, hm⟩ := k1; exact DataW.trod_lt m _ _ _ hm
  obtain ⟨a1, len1, cap1, rfl⟩ := okWide_slice Try.underlying27 (hval 1 27 v1 rfl rfl)
  obtain ⟨f1, hm1, hF1⟩ : ∃ f, len1 ≤ 9223372036854775807 ∧ IL W a1 len1 f := by
    obtain ⟨fuel, hf⟩ := h1
    obtain ⟨a, l, c, f, hcs, h1, h2⟩ := open_il Try.underlying27 Try.underlying3 (by kernel_rfl) hf
    simp [Value.cells] at hcs
    obtain ⟨rfl, rfl, rfl⟩ := hcs
    exact ⟨f, h1, h2⟩
  clear hA0 hval0
  have walk : Calls Try.prog 7 #[chv a0 n0 c0 b0 m0 d0, .slice a1 len1 cap1] W fun e w' => e = .returned (.bool true) ∧ Below W.heap.size W w' := runAll a0 b0 a1 n0 c0 m0 d0 len1 cap1 f0 g0 f1 W hn0 hm0 hF0 hG0 hF1 (fun h1 h2 h3 a b x c d r w hc h4 h5 h6 => iRunChart a b x n0 c m0 d len1 r f0 g0 f1 w h1 h2 h3 hc h4 h5 h6)
  refine walk.mono fun e W' ⟨he, bel⟩ => ?_
  subst he
  exact ⟨_, rfl, _, _, _, [], _, [], hW', trodAll_mk1 (shut_bool Try.underlying4 _), (trodAll_cons_mk (Below.trod laidOut (by kernel_rfl) (of_decide_eq_true (by kernel_rfl)) k0 bel lt0) (trodAll_cons_mk (Below.trod laidOut (by kernel_rfl) (of_decide_eq_true (by kernel_rfl)) k1 bel lt1) trodAll_mk0)), rfl, bel.frame _, fun h => by cases h⟩

theorem over : Rows.fnExactRunChartRow.holds Try.pinned (OpenSpec.ofChange Rows.fnExactRunChartSpec) :=
  OpenClaim.holds_of_wide 7 Try.f7 rfl rfl rfl rfl rfl rfl rfl ⟨rfl, rfl, rfl, rfl, rfl⟩ rfl rfl rfl rfl rfl (by kernel_rfl) Try.func7 (by kernel_rfl)
    (of_decide_eq_true (by kernel_rfl)) (by unfold Func.isWrapper; first | (rw [if_pos (by decide +kernel)]; kernel_rfl) | (rw [if_neg (by decide +kernel)]; exact ⟨rfl, rfl⟩))
    (fun os started H enc _ => lifted os started H enc)
end Go.Proofs.YtjefakfongehdaaR.ChE4
namespace Go.Proofs.YtjefakfongehdaaR
theorem fnExactRunChart_holds : Rows.FnExactRunChartSaid := ChE4.over
end Go.Proofs.YtjefakfongehdaaR
