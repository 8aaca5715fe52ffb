/- The law FnExactPlayBoard holds for every argument; no condition. -/
import Derived.Test.YtacnegfmdckpbabDoorWhLaw8
import Derived.Test.YtacnegfmdckpbabDoorWhPyI
import Derived.Test.YtacnegfmdckpbabDoorWhOpn
import Derived.Test.YtacnegfmdckpbabDoorU8Shelf
import Derived.Test.YtacnegfmdckpbabDoorTie
import Derived.Test.YtacnegfmdckpbabDoorCards
import Derived.SevenTiedAt
import Derived.Lay
import Derived.Lib.LaidU8
import Derived.Stop.Joined
import Derived.MakeChecks
namespace Go.Proofs.YtacnegfmdckpbabDoor.WhE8
open Go.ChangeShapes Go.WideShapes Go.ChangeAt Go.RowKit
set_option linter.unusedVariables false

theorem own : ownKnob Tryd.prog.godebug = none := by kernel_rfl
theorem laidOut : laidOutB Tryd.prog = true := by kernel_rfl

theorem xU : U8Extra Tryd.prog Tryd.lays260_ren := ⟨by kernel_rfl, by kernel_rfl, by kernel_rfl, by kernel_rfl, by kernel_rfl, by kernel_rfl, by kernel_rfl⟩
theorem of_laid {W : World} (h : laidMetH Tryd.prog Rows.fnExactPlayBoardRow.laid W) : U8 W := by
  rw [MakeChecks.laidMetH_plain _ _ _ (by kernel_rfl)] at h
  have e3 : Pinned.utf8First = Lib.firstData := by kernel_rfl
  have e4 : (Rows.laid_unicode_utf8_acceptRanges : DataW Unit) = Lib.acceptData := by kernel_rfl
  have h4 := Lib.laidMet.reads h (n := "unicode/utf8.acceptRanges") (d := Rows.laid_unicode_utf8_acceptRanges) (List.Mem.head _)
  have h3 := Lib.laidMet.reads h (n := "unicode/utf8.first") (d := Pinned.utf8First) (List.Mem.tail _ (List.Mem.head _))
  rw [e3] at h3
  rw [e4] at h4
  exact utf8Tabs_of_reads Tryd.lays260 xU h3 h4

set_option maxRecDepth 100000 in
theorem lifted (os : Os) (started : os.Started) (H : Type) (enc : TypeId × Value → H) :
    ReturnsInHanded {} Tryd.checked os 4 .any (fun w args => (Rows.fnExactPlayBoardSpec.pre enc Tryd.prog Tryd.f4 [] false w args ∧ laidMetH Tryd.prog Rows.fnExactPlayBoardRow.laid w) ∧ sizedMet enc Tryd.prog Tryd.f4 (OpenSpec.ofChange Rows.fnExactPlayBoardSpec) false w args)
      (Rows.fnExactPlayBoardSpec.post enc Tryd.prog Tryd.f4 false true false false) := by
  refine returnsInHanded_of_change_and (C := Tryd.checked) (X := fun w _ => laidMetH Tryd.prog Rows.fnExactPlayBoardRow.laid w) (fun _ _ _ hh h => h.of_heap hh) own started (by kernel_rfl) Tryd.func4
    (ChangeSpec.witness_shaped (enc := enc) (C := Tryd.checked) (os := os) (X := fun w _ => laidMetH Tryd.prog Rows.fnExactPlayBoardRow.laid w) false (World.laidAll Tryd.prog os Rows.fnExactPlayBoardRow.laid) #[bdv none 0 0 none 0 0 none 0 0, .slice none 0 0, .int .i64 0, .slice none 0 0] 8 (World.laidAll_os _ _ _)
      (World.shaped_of_ZipB (by kernel_rfl) (by kernel_rfl)) (by kernel_rfl) (by kernel_rfl) (by kernel_rfl)
      (by rw [MakeChecks.laidMetH_plain _ _ _ (by kernel_rfl)]; exact laidMet_laidAll _ (by kernel_rfl) (by kernel_rfl))) ?_
  intro W base args ds gs before hval0 hW _ _ hL _
  have hval : ∀ (j : Nat) t v, Tryd.f4.params[j]? = some t → args[j]? = some v → Value.okWide Tryd.prog W .any base t v := hval0
  have hW' := hW
  obtain ⟨p, q, hA0, hV, rfl, hfz, hnd⟩ := hW
  have hA : DataW.TrodAll enc Tryd.prog W 0 (fun _ => true) true Tryd.f4.params.toList args.toList ds p := hA0
  rw [Tryd.params4] at hA hval
  obtain ⟨v0, vs0, d0', ds0, p0, q0, hargs, rfl, rfl, h0, r0⟩ := trodAll_cons hA
  obtain ⟨v1, vs1, d1', ds1, p1, q1, rfl, rfl, rfl, h1, r1⟩ := trodAll_cons r0
  obtain ⟨v2, vs2, d2', ds2, p2, q2, rfl, rfl, rfl, h2, r2⟩ := trodAll_cons r1
  obtain ⟨v3, vs3, d3', ds3, p3, q3, rfl, rfl, rfl, h3, r3⟩ := trodAll_cons r2
  obtain ⟨rfl, rfl, rfl⟩ := trodAll_nil r3
  obtain rfl : args = #[v0, v1, v2, v3] := by cases args; simp_all
  obtain ⟨rfl, rfl⟩ := trodVars_none hV
  have hU := of_laid hL
  have k0 := h0
  have lt0 : ∀ x ∈ p0, x.block < W.heap.size := by obtain ⟨m, hm⟩ := k0; exact DataW.trod_lt m _ _ _ hm
  obtain ⟨cs0, e0, _⟩ := okWide_struct Tryd.underlying26 (hval 0 26 v0 rfl rfl)
  obtain ⟨a0, n0, c0, b0, m0, d0, y0, pp0, qq0, f0, g0, K0, R0, ev0, hn0, hm0, hp0, hs0, hK0, hB0⟩ : ∃ a n c b m d y p q f g K R, v0 = bdv a n c b m d y p q ∧ n ≤ 9223372036854775807 ∧ m ≤ 9223372036854775807 ∧ p ≤ 9223372036854775807 ∧ (∀ i, i < n → (f i).size ≤ 9223372036854775807) ∧ (∀ i, i < p → K i ≤ 9223372036854775807) ∧ BD W a n f b m g y p K R := by
    obtain ⟨fuel, hf⟩ := h0
    exact open_board e0 hf
  subst ev0
  have k1 := h1
  have lt1 : ∀ x ∈ p1, x.block < W.heap.size := by obtain ⟨m, hm⟩ := k1; exact DataW.trod_lt m _ _ _ hm
  obtain ⟨a1, len1, cap1, rfl⟩ := okWide_slice Tryd.underlying31 (hval 1 31 v1 rfl rfl)
  obtain ⟨f1, hm1, hF1⟩ : ∃ f, len1 ≤ 9223372036854775807 ∧ IL W a1 len1 f := by
    obtain ⟨fuel, hf⟩ := h1
    obtain ⟨a, l, c, f, hcs, h1, h2⟩ := open_il Tryd.underlying31 Tryd.underlying3 (by kernel_rfl) hf
    simp [Value.cells] at hcs
    obtain ⟨rfl, rfl, rfl⟩ := hcs
    exact ⟨f, h1, h2⟩
  obtain ⟨x2, rfl, rfl, rfl, w2⟩ := open_int Tryd.underlying3 (hval 2 3 v2 rfl rfl) h2
  have k3 := h3
  have lt3 : ∀ x ∈ p3, x.block < W.heap.size := by obtain ⟨m, hm⟩ := k3; exact DataW.trod_lt m _ _ _ hm
  obtain ⟨a3, len3, cap3, rfl⟩ := okWide_slice Tryd.underlying31 (hval 3 31 v3 rfl rfl)
  obtain ⟨f3, hm3, hF3⟩ : ∃ f, len3 ≤ 9223372036854775807 ∧ IL W a3 len3 f := by
    obtain ⟨fuel, hf⟩ := h3
    obtain ⟨a, l, c, f, hcs, h1, h2⟩ := open_il Tryd.underlying31 Tryd.underlying3 (by kernel_rfl) hf
    simp [Value.cells] at hcs
    obtain ⟨rfl, rfl, rfl⟩ := hcs
    exact ⟨f, h1, h2⟩
  clear hA0 hval0
  have walk : Calls Tryd.prog 4 #[bdv a0 n0 c0 b0 m0 d0 y0 pp0 qq0, .slice a1 len1 cap1, .int .i64 x2, .slice a3 len3 cap3] W fun e w' => e = .returned (.bool true) ∧ Below W.heap.size W w' := playAll a0 n0 c0 b0 m0 d0 y0 pp0 qq0 f0 g0 K0 R0 a1 len1 cap1 f1 x2 a3 len3 cap3 f3 W hn0 hm0 hp0 hs0 hK0 hB0 hF1 hF3 hU (fun h1 h2 h3 h4 h5 h6 h7 a c b d x q pa pc ta tc w _ _ _ _ _ hB hP ht hU => iPlay a n0 c b m0 d x pp0 q f0 g0 K0 R0 pa len1 pc f1 x2 ta len3 tc f3 w h1 h2 h3 h4 h5 h7 hB hP ht hU)
  refine walk.mono fun e W' ⟨he, bel⟩ => ?_
  subst he
  exact ⟨_, rfl, _, _, _, [], _, [], hW', trodAll_mk1 (shut_bool Tryd.underlying4 _), (trodAll_cons_mk (Below.trod laidOut (by kernel_rfl) (of_decide_eq_true (by kernel_rfl)) k0 bel lt0) (trodAll_cons_mk (Below.trod laidOut (by kernel_rfl) (of_decide_eq_true (by kernel_rfl)) k1 bel lt1) (trodAll_cons_mk (shut_int Tryd.underlying3 w2) (trodAll_cons_mk (Below.trod laidOut (by kernel_rfl) (of_decide_eq_true (by kernel_rfl)) k3 bel lt3) trodAll_mk0)))), rfl, bel.frame _, fun h => by cases h⟩

theorem over : Rows.fnExactPlayBoardRow.holds Tryd.pinned (OpenSpec.ofChange Rows.fnExactPlayBoardSpec) :=
  OpenClaim.holds_of_wide 4 Tryd.f4 rfl rfl rfl rfl rfl rfl rfl ⟨rfl, rfl, rfl, rfl, rfl⟩ rfl rfl rfl rfl rfl (by kernel_rfl) Tryd.func4 (by kernel_rfl)
    (of_decide_eq_true (by kernel_rfl)) (by unfold Func.isWrapper; first | (rw [if_pos (by decide +kernel)]; kernel_rfl) | (rw [if_neg (by decide +kernel)]; exact ⟨rfl, rfl⟩))
    (fun os started H enc _ => lifted os started H enc)
end Go.Proofs.YtacnegfmdckpbabDoor.WhE8
namespace Go.Proofs.YtacnegfmdckpbabDoor
theorem fnExactPlayBoardCard_holds : Rows.FnExactPlayBoardCardSaid :=
  Claim7.holds_tied_plain_at .later [] [.data, .pinned] true (true, "a2ce18fecc4a40bed61ce35aff3b11b0a046fb48d0fdc92d4ce19a60cc8349c7") false
    WhE8.over (fun _ h => by cases h) (by kernel_rfl) (fun _ h => by cases h) fnExactPlayBoard_row_tie rfl ⟨rfl, rfl⟩ (by kernel_rfl) rfl
    (fun f fn hf hfn => by
      obtain rfl : f = 4 := Option.some.inj ((show Tryd.prog.funcNamed "loop.example/g00047/laws.FnExactPlayBoard" = some 4 by kernel_rfl).symm.trans hf) |>.symm
      obtain rfl : fn = Tryd.f4 := (Option.some.inj (Tryd.func4.symm.trans hfn)).symm
      exact ⟨by kernel_rfl, fun j t ht => by
        rw [Tryd.params4] at ht
        have hm : t ∈ [26, 31, 3, 31] := by simpa using Array.mem_of_getElem? ht
        have hall : ([26, 31, 3, 31].all fun u => !Tryd.prog.wantsStandIn u) = true := by kernel_rfl
        exact (show Tryd.prog.wantsStandIn t = false by simpa using List.all_eq_true.1 hall t hm)⟩)
    (by kernel_rfl)
end Go.Proofs.YtacnegfmdckpbabDoor
