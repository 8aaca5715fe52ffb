/- The law FnWish holds for every argument; no condition. -/
import Derived.Test.YtmlfijapndkfhaaDoorQFwLaw
import Derived.Test.YtmlfijapndkfhaaDoorQByOpen
import Derived.Test.YtmlfijapndkfhaaDoorQU8Shelf
import Derived.Test.YtmlfijapndkfhaaDoorTie
import Derived.Test.YtmlfijapndkfhaaDoorCards
import Derived.SevenTiedAt
import Derived.Lay
import Derived.OpenVars
import Derived.LaidLaws
import Derived.LaidHandle
import Derived.Lib.LaidU8
import Derived.Stop.Joined
import Derived.MakeChecks
namespace Go.Proofs.YtmlfijapndkfhaaDoor.FwE
open Go.ChangeShapes Go.WideShapes Go.ChangeAt Go.RowKit
set_option linter.unusedVariables false

theorem own : ownKnob Tryd.prog.godebug = none := by kernel_rfl
theorem laidOut : laidOutB Tryd.prog = true := by kernel_rfl

theorem xU : U8Extra Tryd.prog Tryd.lays260_ren := ⟨by kernel_rfl, by kernel_rfl, by kernel_rfl, by kernel_rfl, by kernel_rfl, by kernel_rfl, by kernel_rfl⟩
theorem star : "*" ++ "errors.errorString" = "*errors.errorString" := by decide
theorem rowS (u : TypeId) (h : Tryd.prog.typeName? 3 u = some "*errors.errorString") : u = 142 :=
  typeName_ptr_named (nm := "errors.errorString") (by rw [star]; kernel_rfl) (by kernel_rfl) (by decide) u (by rw [star]; exact h)
theorem gE : Tryd.prog.globalNamed "errors.errorType" = some 5 := by kernel_rfl
theorem g1 : Tryd.prog.globalNamed "loop.example/g00047/impl.errWishWord" = some 3 := by kernel_rfl
theorem g2 : Tryd.prog.globalNamed "loop.example/g00047/impl.errWishName" = some 2 := by kernel_rfl
theorem g3 : Tryd.prog.globalNamed "loop.example/g00047/impl.errWishRune" = some 1 := by kernel_rfl
theorem g4 : Tryd.prog.globalNamed "loop.example/g00047/impl.errWishTwice" = some 4 := by kernel_rfl
theorem g5 : Tryd.prog.globalNamed "loop.example/g00047/impl.errWishLong" = some 0 := by kernel_rfl
theorem y1 : (Tryd.prog.globals[3]?).map (·.type) = some 50 := by kernel_rfl
theorem y2 : (Tryd.prog.globals[2]?).map (·.type) = some 50 := by kernel_rfl
theorem y3 : (Tryd.prog.globals[1]?).map (·.type) = some 50 := by kernel_rfl
theorem y4 : (Tryd.prog.globals[4]?).map (·.type) = some 50 := by kernel_rfl
theorem y5 : (Tryd.prog.globals[0]?).map (·.type) = some 50 := by kernel_rfl
theorem gA0 : Tryd.prog.globalNamed "unicode/utf8.acceptRanges" = some 8 := by kernel_rfl
theorem cS : Tryd.prog.cellsOf 164 = 1 := by kernel_rfl
theorem cT : Tryd.prog.cellsOf 9 = 1 := by kernel_rfl
theorem rt : (Tryd.prog.cutTypes.find? (·.1 == "internal/reflectlite.rtype")).map (·.2) = some 123 := by kernel_rfl
theorem oneRow : ((List.range Tryd.prog.types.size).filter fun t => Tryd.prog.rowNamed t [101, 114, 114, 111, 114]) = [50] := by kernel_rfl
/-- the row's list: the data; the handle -/
abbrev dat : List (String × DataW Unit) := [("unicode/utf8.acceptRanges", Rows.laid_unicode_utf8_acceptRanges), ("loop.example/g00047/impl.errWishWord", Rows.laid_loop_example_g00047_impl_errWishWord), ("loop.example/g00047/impl.errWishName", Rows.laid_loop_example_g00047_impl_errWishName), ("loop.example/g00047/impl.errWishRune", Rows.laid_loop_example_g00047_impl_errWishRune), ("loop.example/g00047/impl.errWishTwice", Rows.laid_loop_example_g00047_impl_errWishTwice), ("loop.example/g00047/impl.errWishLong", Rows.laid_loop_example_g00047_impl_errWishLong), ("unicode/utf8.first", Rows.laid_unicode_utf8_first)]
abbrev hdl : List (String × DataW Unit) := [("errors.errorType", Rows.laid_errors_errorType)]
theorem isDat : (Rows.fnWishRow.laid.filter fun x => x.2.handleName?.isNone) = dat := by kernel_rfl
theorem isHdl : (Rows.fnWishRow.laid.filter fun x => x.2.handleName?.isSome) = hdl := by kernel_rfl
theorem parts {W : World} (h : laidMetH Tryd.prog Rows.fnWishRow.laid W) : laidMet Tryd.prog dat W ∧ handlesMet Tryd.prog hdl W := by
  unfold laidMetH at h
  rw [isHdl, isDat] at h
  exact h
theorem u8_of {W : World} (h : laidMet Tryd.prog dat W) : U8 W := by
  have e3 : Pinned.utf8First = Lib.firstData := by kernel_rfl
  have e4 : (Rows.laid_unicode_utf8_acceptRanges : DataW Unit) = Lib.acceptData := by kernel_rfl
  have h4 := Lib.laidMet.reads h (n := "unicode/utf8.acceptRanges") (d := Rows.laid_unicode_utf8_acceptRanges) (List.Mem.head _)
  have h3 := Lib.laidMet.reads h (n := "unicode/utf8.first") (d := Pinned.utf8First) (List.Mem.tail _ (List.Mem.tail _ (List.Mem.tail _ (List.Mem.tail _ (List.Mem.tail _ (List.Mem.tail _ (List.Mem.head _)))))))
  rw [e3] at h3
  rw [e4] at h4
  exact utf8Tabs_of_reads Tryd.lays260 xU h3 h4
theorem handle_of {W : World} (h : handlesMet Tryd.prog hdl W) : W.cell? ⟨5, 0, none⟩ = some (avR 50) := by
  obtain ⟨name, u, ty, e1, e2, e3, e4, e5⟩ := h _ (List.mem_singleton.2 rfl)
  have en : name = [101, 114, 114, 111, 114] := (Option.some.inj e1).symm
  subst en
  obtain rfl := Option.some.inj (rt.symm.trans e2)
  have hm : ty ∈ (List.range Tryd.prog.types.size).filter fun t => Tryd.prog.rowNamed t [101, 114, 114, 111, 114] := List.mem_filter.2 ⟨List.mem_range.2 e3, e4⟩
  rw [oneRow] at hm
  obtain rfl := List.mem_singleton.1 hm
  have hh : typeHandle Tryd.prog 50 = .pointer (some ⟨9, 50, none⟩) := by kernel_rfl
  rw [hh] at e5
  simpa using World.var?_cell gE e5 0
set_option maxRecDepth 100000 in
theorem se_of {W : World} (h : laidMet Tryd.prog dat W) (hh : handlesMet Tryd.prog hdl W) : ∃ a : Nat → Addr, Se W a := by
  have hE := handle_of hh
  obtain ⟨ps, ⟨gA, tA, csA, fA, pA, qA, hgA, htA, hvA, hdA, ⟨g1', t1, cs1, f1, p1, q1, hg1, ht1, hv1, hd1, ⟨g2', t2, cs2, f2, p2, q2, hg2, ht2, hv2, hd2, ⟨g3', t3, cs3, f3, p3, q3, hg3, ht3, hv3, hd3, ⟨g4', t4, cs4, f4, p4, q4, hg4, ht4, hv4, hd4, ⟨g5', t5, cs5, f5, p5, q5, hg5, ht5, hv5, hd5, _, e5⟩, e4⟩, e3⟩, e2⟩, e1⟩, eA⟩, hnd, hrows⟩ := h
  obtain rfl := Option.some.inj (g1.symm.trans hg1)
  obtain rfl := Option.some.inj (g2.symm.trans hg2)
  obtain rfl := Option.some.inj (g3.symm.trans hg3)
  obtain rfl := Option.some.inj (g4.symm.trans hg4)
  obtain rfl := Option.some.inj (g5.symm.trans hg5)
  obtain rfl := Option.some.inj (y1.symm.trans ht1)
  obtain rfl := Option.some.inj (y2.symm.trans ht2)
  obtain rfl := Option.some.inj (y3.symm.trans ht3)
  obtain rfl := Option.some.inj (y4.symm.trans ht4)
  obtain rfl := Option.some.inj (y5.symm.trans ht5)
  have hl : 6 < W.heap.size := by
    obtain rfl := Option.some.inj (gA0.symm.trans hgA)
    unfold World.var? at hvA
    rw [gA0] at hvA
    simp only [Option.bind_some] at hvA
    cases hq : W.heap[8]? with
    | none => rw [hq] at hvA; cases hvA
    | some o => have := (Array.getElem?_eq_some_iff.1 hq).1; omega
  subst e5
  subst e4
  subst e3
  subst e2
  subst e1
  subst eA
  obtain ⟨l1⟩ := cs1
  obtain ⟨l2⟩ := cs2
  obtain ⟨l3⟩ := cs3
  obtain ⟨l4⟩ := cs4
  obtain ⟨l5⟩ := cs5
  have ok1 : ∀ u v, l1 = [.iface u v] → Value.okWide Tryd.prog W .any 0 u v := fun u v e => by
    subst e
    exact (hrows 3 0 (by simp [MemPlace.row])).2 u v (by simpa using World.var?_cell g1 hv1 0)
  have ok2 : ∀ u v, l2 = [.iface u v] → Value.okWide Tryd.prog W .any 0 u v := fun u v e => by
    subst e
    exact (hrows 2 0 (by simp [MemPlace.row])).2 u v (by simpa using World.var?_cell g2 hv2 0)
  have ok3 : ∀ u v, l3 = [.iface u v] → Value.okWide Tryd.prog W .any 0 u v := fun u v e => by
    subst e
    exact (hrows 1 0 (by simp [MemPlace.row])).2 u v (by simpa using World.var?_cell g3 hv3 0)
  have ok4 : ∀ u v, l4 = [.iface u v] → Value.okWide Tryd.prog W .any 0 u v := fun u v e => by
    subst e
    exact (hrows 4 0 (by simp [MemPlace.row])).2 u v (by simpa using World.var?_cell g4 hv4 0)
  have ok5 : ∀ u v, l5 = [.iface u v] → Value.okWide Tryd.prog W .any 0 u v := fun u v e => by
    subst e
    exact (hrows 0 0 (by simp [MemPlace.row])).2 u v (by simpa using World.var?_cell g5 hv5 0)
  obtain ⟨a1, s1, rfl, hc1, hs1, hz1, rfl⟩ := errorString_of_trod Tryd.underlying50 rowS Tryd.underlying142 Tryd.underlying164 rfl rfl Tryd.underlying9 cS cT hd1 ok1
  obtain ⟨a2, s2, rfl, hc2, hs2, hz2, rfl⟩ := errorString_of_trod Tryd.underlying50 rowS Tryd.underlying142 Tryd.underlying164 rfl rfl Tryd.underlying9 cS cT hd2 ok2
  obtain ⟨a3, s3, rfl, hc3, hs3, hz3, rfl⟩ := errorString_of_trod Tryd.underlying50 rowS Tryd.underlying142 Tryd.underlying164 rfl rfl Tryd.underlying9 cS cT hd3 ok3
  obtain ⟨a4, s4, rfl, hc4, hs4, hz4, rfl⟩ := errorString_of_trod Tryd.underlying50 rowS Tryd.underlying142 Tryd.underlying164 rfl rfl Tryd.underlying9 cS cT hd4 ok4
  obtain ⟨a5, s5, rfl, hc5, hs5, hz5, rfl⟩ := errorString_of_trod Tryd.underlying50 rowS Tryd.underlying142 Tryd.underlying164 rfl rfl Tryd.underlying9 cS cT hd5 ok5
  obtain ⟨c1, u1, hb1⟩ := (hrows a1.block a1.off (by simp [MemPlace.row])).1
  obtain ⟨c2, u2, hb2⟩ := (hrows a2.block a2.off (by simp [MemPlace.row])).1
  obtain ⟨c3, u3, hb3⟩ := (hrows a3.block a3.off (by simp [MemPlace.row])).1
  obtain ⟨c4, u4, hb4⟩ := (hrows a4.block a4.off (by simp [MemPlace.row])).1
  obtain ⟨c5, u5, hb5⟩ := (hrows a5.block a5.off (by simp [MemPlace.row])).1
  have n12 : a1 ≠ a2 := by rintro rfl; simp [MemPlace.row, List.nodup_append] at hnd
  have n13 : a1 ≠ a3 := by rintro rfl; simp [MemPlace.row, List.nodup_append] at hnd
  have n14 : a1 ≠ a4 := by rintro rfl; simp [MemPlace.row, List.nodup_append] at hnd
  have n15 : a1 ≠ a5 := by rintro rfl; simp [MemPlace.row, List.nodup_append] at hnd
  have n23 : a2 ≠ a3 := by rintro rfl; simp [MemPlace.row, List.nodup_append] at hnd
  have n24 : a2 ≠ a4 := by rintro rfl; simp [MemPlace.row, List.nodup_append] at hnd
  have n25 : a2 ≠ a5 := by rintro rfl; simp [MemPlace.row, List.nodup_append] at hnd
  have n34 : a3 ≠ a4 := by rintro rfl; simp [MemPlace.row, List.nodup_append] at hnd
  have n35 : a3 ≠ a5 := by rintro rfl; simp [MemPlace.row, List.nodup_append] at hnd
  have n45 : a4 ≠ a5 := by rintro rfl; simp [MemPlace.row, List.nodup_append] at hnd
  refine ⟨fun k => match k with | 1 => a1 | 2 => a2 | 3 => a3 | 4 => a4 | _ => a5, by simpa using World.var?_cell g1 hv1 0, by simpa using World.var?_cell g2 hv2 0, by simpa using World.var?_cell g3 hv3 0, by simpa using World.var?_cell g4 hv4 0, by simpa using World.var?_cell g5 hv5 0, hE, ?_, ?_, ?_⟩
  · exact hl
  · intro i j h1 h2 h3 h4 hne
    match i, j, h1, h2, h3, h4 with
    | 1, 1, _, _, _, _ => exact absurd rfl hne
    | 1, 2, _, _, _, _ => exact n12
    | 1, 3, _, _, _, _ => exact n13
    | 1, 4, _, _, _, _ => exact n14
    | 1, 5, _, _, _, _ => exact n15
    | 2, 1, _, _, _, _ => exact n12.symm
    | 2, 2, _, _, _, _ => exact absurd rfl hne
    | 2, 3, _, _, _, _ => exact n23
    | 2, 4, _, _, _, _ => exact n24
    | 2, 5, _, _, _, _ => exact n25
    | 3, 1, _, _, _, _ => exact n13.symm
    | 3, 2, _, _, _, _ => exact n23.symm
    | 3, 3, _, _, _, _ => exact absurd rfl hne
    | 3, 4, _, _, _, _ => exact n34
    | 3, 5, _, _, _, _ => exact n35
    | 4, 1, _, _, _, _ => exact n14.symm
    | 4, 2, _, _, _, _ => exact n24.symm
    | 4, 3, _, _, _, _ => exact n34.symm
    | 4, 4, _, _, _, _ => exact absurd rfl hne
    | 4, 5, _, _, _, _ => exact n45
    | 5, 1, _, _, _, _ => exact n15.symm
    | 5, 2, _, _, _, _ => exact n25.symm
    | 5, 3, _, _, _, _ => exact n35.symm
    | 5, 4, _, _, _, _ => exact n45.symm
    | 5, 5, _, _, _, _ => exact absurd rfl hne
  · intro i h1 h2
    match i, h1, h2 with
    | 1, _, _ => exact ⟨c1, u1, hb1⟩
    | 2, _, _ => exact ⟨c2, u2, hb2⟩
    | 3, _, _ => exact ⟨c3, u3, hb3⟩
    | 4, _, _ => exact ⟨c4, u4, hb4⟩
    | 5, _, _ => exact ⟨c5, u5, hb5⟩
/-- a start that fits -/
noncomputable def laidW (os : Os) : World :=
  let w0 := World.laidAll Tryd.prog os dat
  { w0 with heap := w0.heap.modify 5 fun
      | .cells _ t frozen => .cells #[avR 50] t frozen
      | o => o }
abbrev vs : List String := ["loop.example/g00047/impl.errWishLong", "loop.example/g00047/impl.errWishRune", "loop.example/g00047/impl.errWishName", "loop.example/g00047/impl.errWishWord", "loop.example/g00047/impl.errWishTwice"]
theorem vars_five {H : Type} {enc : TypeId × Value → H} {W : World} {sp : Nat → Bool} {gs : List (DataW H)} {q : List MemPlace} (h : DataW.TrodVars enc Tryd.prog W sp vs gs q) : ∃ a b c d e, gs = [a, b, c, d, e] := by
  match gs, h with
  | [], h => exact h.elim
  | [_], h => obtain ⟨_, _, _, _, _, _, _, _, _, _, h, _⟩ := h; exact h.elim
  | [_, _], h => obtain ⟨_, _, _, _, _, _, _, _, _, _, ⟨_, _, _, _, _, _, _, _, _, _, h, _⟩, _⟩ := h; exact h.elim
  | [_, _, _], h => obtain ⟨_, _, _, _, _, _, _, _, _, _, ⟨_, _, _, _, _, _, _, _, _, _, ⟨_, _, _, _, _, _, _, _, _, _, h, _⟩, _⟩, _⟩ := h; exact h.elim
  | [_, _, _, _], h => obtain ⟨_, _, _, _, _, _, _, _, _, _, ⟨_, _, _, _, _, _, _, _, _, _, ⟨_, _, _, _, _, _, _, _, _, _, ⟨_, _, _, _, _, _, _, _, _, _, h, _⟩, _⟩, _⟩, _⟩ := h; exact h.elim
  | [a, b, c, d, e], _ => exact ⟨a, b, c, d, e, rfl⟩
  | _ :: _ :: _ :: _ :: _ :: _ :: _, h => obtain ⟨_, _, _, _, _, _, _, _, _, _, ⟨_, _, _, _, _, _, _, _, _, _, ⟨_, _, _, _, _, _, _, _, _, _, ⟨_, _, _, _, _, _, _, _, _, _, ⟨_, _, _, _, _, _, _, _, _, _, h, _⟩, _⟩, _⟩, _⟩, _⟩ := h; exact h.elim
set_option maxRecDepth 100000 in
theorem lifted (os : Os) (started : os.Started) (H : Type) (enc : TypeId × Value → H) :
    ReturnsInHanded {} Tryd.checked os 3 .any (fun w args => (Rows.fnWishSpec.pre enc Tryd.prog Tryd.f3 [] false w args ∧ laidMetH Tryd.prog Rows.fnWishRow.laid w) ∧ sizedMet enc Tryd.prog Tryd.f3 (OpenSpec.ofChange Rows.fnWishSpec) false w args)
      (Rows.fnWishSpec.post enc Tryd.prog Tryd.f3 false true false false) := by
  refine returnsInHanded_of_change_and (C := Tryd.checked) (X := fun w _ => laidMetH Tryd.prog Rows.fnWishRow.laid w) (fun _ _ _ hh h => h.of_heap hh) own started (by kernel_rfl) Tryd.func3
    (ChangeSpec.witness_shaped (enc := enc) (C := Tryd.checked) (os := os) (X := fun w _ => laidMetH Tryd.prog Rows.fnWishRow.laid w) false (laidW os) #[.slice none 0 0, .slice none 0 0] 8 (World.laidAll_os _ _ _)
      (World.shaped_of_ZipB (by kernel_rfl) (by kernel_rfl)) (by kernel_rfl) (by kernel_rfl) (by kernel_rfl)
      (laidMetH_of_parts (by rw [isDat]; exact laidMet_of_run' 400 (by kernel_rfl) (by kernel_rfl)) (by kernel_rfl))) ?_
  intro W base args ds gs before hval0 hW _ _ hL _
  have hval : ∀ (j : Nat) t v, Tryd.f3.params[j]? = some t → args[j]? = some v → Value.okWide Tryd.prog W .any base t v := hval0
  have hW' := hW
  obtain ⟨p, q, hA0, hV0, rfl, hfz, hnd⟩ := hW
  have hA : DataW.TrodAll enc Tryd.prog W 0 (fun _ => true) true Tryd.f3.params.toList args.toList ds p := hA0
  have hV : DataW.TrodVars enc Tryd.prog W (fun _ => true) vs gs q := hV0
  rw [Tryd.params3] at hA hval
  obtain ⟨v0, vs0, d0', ds0, p0, q0, hargs, rfl, rfl, h0, r0⟩ := trodAll_cons hA
  obtain ⟨v1, vs1, d1', ds1, p1, q1, rfl, rfl, rfl, h1, r1⟩ := trodAll_cons r0
  obtain ⟨rfl, rfl, rfl⟩ := trodAll_nil r1
  obtain rfl : args = #[v0, v1] := by cases args; simp_all
  have kk0 := h0
  have lt0 : ∀ x ∈ p0, x.block < W.heap.size := by obtain ⟨m, hm⟩ := kk0; exact DataW.trod_lt m _ _ _ hm
  obtain ⟨a0_, len0, cap0, rfl⟩ := okWide_slice Tryd.underlying22 (hval 0 22 v0 rfl rfl)
  obtain ⟨hm0, hF0⟩ : len0 ≤ 9223372036854775807 ∧ BL W a0_ len0 := by
    obtain ⟨fuel, hf⟩ := h0
    obtain ⟨a, l, c, hcs, h1, h2⟩ := open_bl Tryd.underlying22 Tryd.underlying5 (by kernel_rfl) hf
    simp [Value.cells] at hcs
    obtain ⟨rfl, rfl, rfl⟩ := hcs
    exact ⟨h1, h2⟩
  have kk1 := h1
  have lt1 : ∀ x ∈ p1, x.block < W.heap.size := by obtain ⟨m, hm⟩ := kk1; exact DataW.trod_lt m _ _ _ hm
  obtain ⟨a1_, len1, cap1, rfl⟩ := okWide_slice Tryd.underlying22 (hval 1 22 v1 rfl rfl)
  obtain ⟨hm1, hF1⟩ : len1 ≤ 9223372036854775807 ∧ BL W a1_ len1 := by
    obtain ⟨fuel, hf⟩ := h1
    obtain ⟨a, l, c, hcs, h1, h2⟩ := open_bl Tryd.underlying22 Tryd.underlying5 (by kernel_rfl) hf
    simp [Value.cells] at hcs
    obtain ⟨rfl, rfl, rfl⟩ := hcs
    exact ⟨h1, h2⟩
  obtain ⟨b1, b2, b3, b4, b5, rfl⟩ := vars_five hV
  obtain ⟨hD, hH⟩ := parts hL
  have hU := u8_of hD
  obtain ⟨a, hSe⟩ := se_of hD hH
  clear hA0 hval0
  have walk : Calls Tryd.prog 3 #[.slice a0_ len0 cap0, .slice a1_ len1 cap1] W fun e w' => e = .returned (.bool true) ∧ Below W.heap.size W w' := wishFn a0_ len0 cap0 a1_ len1 cap1 a W hF0 hF1 hSe hU
  refine walk.mono fun e W' ⟨he, bel⟩ => ?_
  subst he
  have hV' := Below.trodVars laidOut bel (by kernel_rfl) hV
  exact ⟨_, rfl, _, _, _, [], _, q, hW', trodAll_mk1 (shut_bool Tryd.underlying4 _), (trodAll_cons_mk (Below.trod laidOut (by kernel_rfl) (of_decide_eq_true (by kernel_rfl)) kk0 bel lt0) (trodAll_cons_mk (Below.trod laidOut (by kernel_rfl) (of_decide_eq_true (by kernel_rfl)) kk1 bel lt1) trodAll_mk0)), hV', bel.frame _, fun h => by cases h⟩

theorem over : Rows.fnWishRow.holds Tryd.pinned (OpenSpec.ofChange Rows.fnWishSpec) :=
  OpenClaim.holds_of_wide 3 Tryd.f3 rfl rfl rfl rfl rfl rfl rfl ⟨rfl, rfl, rfl, rfl, rfl⟩ rfl rfl rfl rfl rfl (by kernel_rfl) Tryd.func3 (by kernel_rfl)
    (of_decide_eq_true (by kernel_rfl)) (by unfold Func.isWrapper; first | (rw [if_pos (by decide +kernel)]; kernel_rfl) | (rw [if_neg (by decide +kernel)]; exact ⟨rfl, rfl⟩))
    (fun os started H enc _ => lifted os started H enc)
end Go.Proofs.YtmlfijapndkfhaaDoor.FwE
namespace Go.Proofs.YtmlfijapndkfhaaDoor
theorem fnWishCard_holds : Rows.FnWishCardSaid :=
  Claim7.holds_tied_plain_at .later [] [.data, .handle, .sentinel, .sentinel, .sentinel, .sentinel, .sentinel, .pinned] true (true, "867cf2489897b22ac94be7eea61b04cccc86a6b099fef7cd541511cd56d1511d") true
    FwE.over (fun _ h => by cases h) (by kernel_rfl) (fun _ h => by cases h) fnWish_row_tie rfl ⟨rfl, rfl⟩ (by kernel_rfl) rfl
    (fun f fn hf hfn => by
      obtain rfl : f = 3 := Option.some.inj ((show Tryd.prog.funcNamed "loop.example/g00047/laws.FnWish" = some 3 by kernel_rfl).symm.trans hf) |>.symm
      obtain rfl : fn = Tryd.f3 := (Option.some.inj (Tryd.func3.symm.trans hfn)).symm
      exact ⟨by kernel_rfl, fun j t ht => by
        rw [Tryd.params3] at ht
        have hm : t ∈ [22, 22] := by simpa using Array.mem_of_getElem? ht
        have hall : ([22, 22].all fun u => !Tryd.prog.wantsStandIn u) = true := by kernel_rfl
        exact (show Tryd.prog.wantsStandIn t = false by simpa using List.all_eq_true.1 hall t hm)⟩)
    (by kernel_rfl)
end Go.Proofs.YtmlfijapndkfhaaDoor
