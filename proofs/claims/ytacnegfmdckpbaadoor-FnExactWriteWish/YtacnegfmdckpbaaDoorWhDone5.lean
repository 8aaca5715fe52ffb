/- The law FnExactWriteWish holds for every argument; no condition. -/
import Derived.Test.YtacnegfmdckpbaaDoorWhLaw5
import Derived.Test.YtacnegfmdckpbaaDoorWhWtI
import Derived.Test.YtacnegfmdckpbaaDoorWhOpn
import Derived.Test.YtacnegfmdckpbaaDoorU8Shelf
import Derived.Test.YtacnegfmdckpbaaDoorTie
import Derived.Test.YtacnegfmdckpbaaDoorCards
import Derived.SevenTiedAt
import Derived.Lay
import Derived.Lib.LaidU8
import Derived.Stop.Joined
import Derived.MakeChecks
namespace Go.Proofs.YtacnegfmdckpbaaDoor.WhE5
open Go.ChangeShapes Go.WideShapes Go.ChangeAt Go.RowKit
set_option linter.unusedVariables false

theorem own : ownKnob Tryd.prog.godebug = none := by kernel_rfl
theorem laidOut : laidOutB Tryd.prog = true := by kernel_rfl

theorem xU : U8Extra Tryd.prog Tryd.lays260_ren := ⟨by kernel_rfl, by kernel_rfl, by kernel_rfl, by kernel_rfl, by kernel_rfl, by kernel_rfl, by kernel_rfl⟩
theorem of_laid {W : World} (h : laidMetH Tryd.prog Rows.fnExactWriteWishRow.laid W) : U8 W := by
  rw [MakeChecks.laidMetH_plain _ _ _ (by kernel_rfl)] at h
  have e3 : Pinned.utf8First = Lib.firstData := by kernel_rfl
  have e4 : (Rows.laid_unicode_utf8_acceptRanges : DataW Unit) = Lib.acceptData := by kernel_rfl
  have h4 := Lib.laidMet.reads h (n := "unicode/utf8.acceptRanges") (d := Rows.laid_unicode_utf8_acceptRanges) (List.Mem.head _)
  have h3 := Lib.laidMet.reads h (n := "unicode/utf8.first") (d := Pinned.utf8First) (List.Mem.tail _ (List.Mem.head _))
  rw [e3] at h3
  rw [e4] at h4
  exact utf8Tabs_of_reads Tryd.lays260 xU h3 h4

set_option maxRecDepth 100000 in
theorem lifted (os : Os) (started : os.Started) (H : Type) (enc : TypeId × Value → H) :
    ReturnsInHanded {} Tryd.checked os 6 .any (fun w args => (Rows.fnExactWriteWishSpec.pre enc Tryd.prog Tryd.f6 [] false w args ∧ laidMetH Tryd.prog Rows.fnExactWriteWishRow.laid w) ∧ sizedMet enc Tryd.prog Tryd.f6 (OpenSpec.ofChange Rows.fnExactWriteWishSpec) false w args)
      (Rows.fnExactWriteWishSpec.post enc Tryd.prog Tryd.f6 false true false false) := by
  refine returnsInHanded_of_change_and (C := Tryd.checked) (X := fun w _ => laidMetH Tryd.prog Rows.fnExactWriteWishRow.laid w) (fun _ _ _ hh h => h.of_heap hh) own started (by kernel_rfl) Tryd.func6
    (ChangeSpec.witness_shaped (enc := enc) (C := Tryd.checked) (os := os) (X := fun w _ => laidMetH Tryd.prog Rows.fnExactWriteWishRow.laid w) false (World.laidAll Tryd.prog os Rows.fnExactWriteWishRow.laid) #[wsv none 0 0 none 0 0] 8 (World.laidAll_os _ _ _)
      (World.shaped_of_ZipB (by kernel_rfl) (by kernel_rfl)) (by kernel_rfl) (by kernel_rfl) (by kernel_rfl)
      (by rw [MakeChecks.laidMetH_plain _ _ _ (by kernel_rfl)]; exact laidMet_laidAll _ (by kernel_rfl) (by kernel_rfl))) ?_
  intro W base args ds gs before hval0 hW _ _ hL _
  have hval : ∀ (j : Nat) t v, Tryd.f6.params[j]? = some t → args[j]? = some v → Value.okWide Tryd.prog W .any base t v := hval0
  have hW' := hW
  obtain ⟨p, q, hA0, hV, rfl, hfz, hnd⟩ := hW
  have hA : DataW.TrodAll enc Tryd.prog W 0 (fun _ => true) true Tryd.f6.params.toList args.toList ds p := hA0
  rw [Tryd.params6] at hA hval
  obtain ⟨v0, vs0, d0', ds0, p0, q0, hargs, rfl, rfl, h0, r0⟩ := trodAll_cons hA
  obtain ⟨rfl, rfl, rfl⟩ := trodAll_nil r0
  obtain rfl : args = #[v0] := by cases args; simp_all
  obtain ⟨rfl, rfl⟩ := trodVars_none hV
  have hU := of_laid hL
  have k0 := h0
  have lt0 : ∀ x ∈ p0, x.block < W.heap.size := by obtain ⟨m, hm⟩ := k0; exact DataW.trod_lt m _ _ _ hm
  obtain ⟨cs0, e0, _⟩ := okWide_struct Tryd.underlying52 (hval 0 52 v0 rfl rfl)
  obtain ⟨a0, n0, c0, b0, m0, d0, f0, g0, ev0, hn0, hm0, hs0, ht0, hF0, hG0⟩ : ∃ a n c b m d f g, v0 = wsv a n c b m d ∧ n ≤ 9223372036854775807 ∧ m ≤ 9223372036854775807 ∧ (∀ i, i < n → (f i).size ≤ 9223372036854775807) ∧ (∀ i, i < m → (g i).size ≤ 9223372036854775807) ∧ SL W a n f ∧ SL W b m g := by
    obtain ⟨fuel, hf⟩ := h0
    exact open_wish e0 hf
  subst ev0
  clear hA0 hval0
  have walk : Calls Tryd.prog 6 #[wsv a0 n0 c0 b0 m0 d0] W fun e w' => e = .returned (.bool true) ∧ Below W.heap.size W w' := writeAll a0 n0 c0 f0 b0 m0 d0 g0 W hn0 hm0 hs0 ht0 hF0 hG0 hU (fun h1 h2 h3 h4 ra rc aa ac w k1 k2 hr ha hU => iWrite ra n0 rc f0 aa m0 ac g0 w h1 h2 k1 k2 h3 h4 hr ha hU)
  refine walk.mono fun e W' ⟨he, bel⟩ => ?_
  subst he
  exact ⟨_, rfl, _, _, _, [], _, [], hW', trodAll_mk1 (shut_bool Tryd.underlying4 _), (trodAll_cons_mk (Below.trod laidOut (by kernel_rfl) (of_decide_eq_true (by kernel_rfl)) k0 bel lt0) trodAll_mk0), rfl, bel.frame _, fun h => by cases h⟩

theorem over : Rows.fnExactWriteWishRow.holds Tryd.pinned (OpenSpec.ofChange Rows.fnExactWriteWishSpec) :=
  OpenClaim.holds_of_wide 6 Tryd.f6 rfl rfl rfl rfl rfl rfl rfl ⟨rfl, rfl, rfl, rfl, rfl⟩ rfl rfl rfl rfl rfl (by kernel_rfl) Tryd.func6 (by kernel_rfl)
    (of_decide_eq_true (by kernel_rfl)) (by unfold Func.isWrapper; first | (rw [if_pos (by decide +kernel)]; kernel_rfl) | (rw [if_neg (by decide +kernel)]; exact ⟨rfl, rfl⟩))
    (fun os started H enc _ => lifted os started H enc)
end Go.Proofs.YtacnegfmdckpbaaDoor.WhE5
namespace Go.Proofs.YtacnegfmdckpbaaDoor
theorem fnExactWriteWishCard_holds : Rows.FnExactWriteWishCardSaid :=
  Claim7.holds_tied_plain_at .later [] [.data, .pinned] true (true, "969950be3340f3c1d1d4e4b2c4b88b29feddee461a6cbbd486f535cd6ea7001b") true
    WhE5.over (fun _ h => by cases h) (by kernel_rfl) (fun _ h => by cases h) fnExactWriteWish_row_tie rfl ⟨rfl, rfl⟩ (by kernel_rfl) rfl
    (fun f fn hf hfn => by
      obtain rfl : f = 6 := Option.some.inj ((show Tryd.prog.funcNamed "loop.example/g00047/laws.FnExactWriteWish" = some 6 by kernel_rfl).symm.trans hf) |>.symm
      obtain rfl : fn = Tryd.f6 := (Option.some.inj (Tryd.func6.symm.trans hfn)).symm
      exact ⟨by kernel_rfl, fun j t ht => by
        rw [Tryd.params6] at ht
        have hm : t ∈ [52] := by simpa using Array.mem_of_getElem? ht
        have hall : ([52].all fun u => !Tryd.prog.wantsStandIn u) = true := by kernel_rfl
        exact (show Tryd.prog.wantsStandIn t = false by simpa using List.all_eq_true.1 hall t hm)⟩)
    (by kernel_rfl)
end Go.Proofs.YtacnegfmdckpbaaDoor
