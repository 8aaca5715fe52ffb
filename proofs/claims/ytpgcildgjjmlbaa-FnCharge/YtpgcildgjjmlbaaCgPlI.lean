/- ChargePlan, as the program takes it. -/
import Derived.Test.YtpgcildgjjmlbaaCgGood
import Derived.BigQuiet
import Derived.Deep.Cut
namespace Go.Proofs.Ytpgcildgjjmlbaa
open Go.RowKit
set_option maxHeartbeats 1000000 in
theorem iPlan_no (c : Cg) (t : Int) (w : World) (h : okC c t = false) :
    Calls Try.prog 6 #[cgv c, .int .i64 t] w fun e w' => AnsBb w w' e 0 (plB c) false ∧ Below w.heap.size w w' := by
  have hx : Below w.heap.size w (w.alloc (.cells (cgs c).toArray 24)) := (Below.refl _ _).alloc (Nat.le_refl _) _
  have kG := fun w2 => iGoodC c w2
  have leafs : goodC c = false ∨ (goodC c = true ∧ t < 0) ∨ (goodC c = true ∧ 200 < t) := by
    cases e : goodC c with
    | false => exact .inl rfl
    | true =>
      unfold okC at h; rw [e] at h; simp at h
      by_cases h0 : 0 ≤ t
      · exact .inr (.inr ⟨rfl, by omega⟩)
      · exact .inr (.inl ⟨rfl, by omega⟩)
  rcases leafs with e | ⟨e, j⟩ | ⟨e, j⟩
  · rw [e] at kG
    go_enter Try.func6, Try.ntmps6
    go_wp2_with (first | (go_at_call 16; refine (kG _).mono ?_; rintro e w' ⟨rfl, hb⟩) | fail)
    go_ret2
    exact ⟨ansBb_nil _ _ _ _, stepA hx hb⟩
  · rw [e] at kG
    go_enter Try.func6, Try.ntmps6
    go_wp2_with (first | (go_at_call 16; refine (kG _).mono ?_; rintro e w' ⟨rfl, hb⟩) | fail)
    go_ret2
    exact ⟨ansBb_nil _ _ _ _, stepA hx hb⟩
  · rw [e] at kG
    have j2 : ¬ t < 0 := by omega
    go_enter Try.func6, Try.ntmps6
    go_wp2_with (first | (go_at_call 16; refine (kG _).mono ?_; rintro e w' ⟨rfl, hb⟩) | fail)
    go_ret2
    exact ⟨ansBb_nil _ _ _ _, stepA hx hb⟩
set_option maxHeartbeats 4000000 in
set_option maxRecDepth 20000 in
theorem iPlan_in (c : Cg) (n : Nat) (w : World) (hg : goodC c = true) (hn : n ≤ 200) :
    Calls Try.prog 6 #[cgv c, .int .i64 (n : Int)] w fun e w' => AnsBb w w' e n (plB c) true ∧ Below w.heap.size w w' := by
  obtain ⟨i0, hi, hzz⟩ := Option.map_eq_some_iff.1 infoBo
  simp only [Prod.mk.injEq] at hzz
  obtain ⟨hz0, hz1, hz2⟩ := hzz
  have z := bx_new (w := w) (cgs c) 24 rfl
  have hx : Below w.heap.size w (w.alloc (.cells (cgs c).toArray 24)) := (Below.refl _ _).alloc (Nat.le_refl _) _
  have kG := fun w2 => iGoodC c w2
  rw [hg] at kG
  have j1 : ¬ (n : Int) < 0 := by omega
  have j2 : ¬ (200 : Int) < (n : Int) := by omega
  have hmn := fun x y ts t w => run_least x y ts t w
  go_enter Try.func6, Try.ntmps6
  go_wp2_with fail
  refine (kG _).mono ?_
  rintro e w1 ⟨rfl, hb⟩
  have z1 := z.on hb
  have hB1 := stepA hx hb
  have hs1 := z1.lt
  clear hb z hx kG
  obtain ⟨wm, hrun, hown, hgrow⟩ := run_make_own (P := Try.prog) w1 (w.heap.size + 1) 27 4 i0 _ 1 Try.underlying27 hi hz0 hz1 .i64 .i64 n (by rw [hz2]; omega) (by unfold maxLen; omega) (by omega)
  have hBm : Below w1.heap.size w1 wm := (Below.refl _ w1).grown hgrow (Nat.le_refl _) (fun q hq => by cases hq)
  have HO : Hid (OwnV 4 wm (w.heap.size + 1) (.slice (some ⟨w1.heap.size, 0, none⟩) 0 n) 0 (fun i => .bool (plB c i))) := hown
  have HZ : Hid (Bx wm w.heap.size (cgs c)) := z1.on hBm
  have HB : Hid (Below w.heap.size w wm) := stepA hB1 hBm
  clear hown hgrow z1 hB1 hBm
  go_wp2_with fail
  clear hrun
  go_loopw [6, 7, 23] (fun v q i wr => ∃ k : Nat, k ≤ n ∧ i = .int .i64 k ∧ q = .bool (chS c k).2 ∧ OwnV 4 wr (w.heap.size + 1) v k (fun i => .bool (plB c i)) ∧ Bx wr w.heap.size (cgs ⟨(chS c k).1, c.U, c.G, c.F⟩) ∧ Below w.heap.size w wr) (fun _ _ i _ => n - (intOf i).toNat)
  case atStart => exact ⟨0, Nat.zero_le _, rfl, rfl, HO.out, HZ.out, HB.out⟩
  case round =>
    obtain ⟨k, hk, rfl, rfl, hown, hz, hB⟩ := hrel
    clear HO HZ HB
    obtain ⟨hin0, hin1⟩ := chS_in hg k
    obtain ⟨⟨hF0, hF1⟩, _, ⟨hU0, hU1⟩, ⟨hG0, hG1⟩⟩ := goodC_t hg
    by_cases hlt : k < n
    · have j3 : (k : Int) < (n : Int) := by omega
      obtain ⟨x0, x1, x2, x3⟩ := charge_at hz
      have f0 := hz.fz 0
      obtain ⟨q, hq⟩ : ∃ q, q = (chS c k).2 := ⟨_, rfl⟩
      obtain ⟨l, hl⟩ : ∃ l, l = (chS c k).1 := ⟨_, rfl⟩
      have hp : plB c k = wkB c l q := by rw [hq, hl]; rfl
      have hlv : ∀ b, lvN c (chS c k).1 b = lvN c l b := fun b => by rw [hl]
      rw [← hq]
      rw [← hl] at hin0 hin1 hz x0
      clear hq hl hg
      by_cases a1 : c.U ≤ l
      rotate_left
      · skip
        have HP : Hid (plB c k = false) := by show plB c k = _; rw [hp]; unfold wkB; rw [decide_eq_false a1]; rfl
        have HL : Hid (lvN c (chS c k).1 false = min c.F (l + c.G)) := by show lvN c _ _ = _; rw [hlv]; rfl
        clear hp hlv
        have hown9 := hown.only ((Only.refl w.heap.size wr).set 0 (.int .i64 (min c.F (l + c.G)))) (Nat.lt_succ_self _)
        have hz9 : Bx (wr.setCell ⟨w.heap.size, 0, none⟩ (.int .i64 (min c.F (l + c.G)))) w.heap.size (cgs ⟨min c.F (l + c.G), c.U, c.G, c.F⟩) := hz.set 0 (show 0 < 4 by omega) _
        have hB9 : Below w.heap.size w (wr.setCell ⟨w.heap.size, 0, none⟩ (.int .i64 (min c.F (l + c.G)))) := hB.setCell (p := ⟨_, _, none⟩) (Nat.le_refl _) _
        clear hown hz hB
        go_upto_region 10 with fail
        generalize wr.setCell ⟨w.heap.size, 0, none⟩ (.int .i64 (min c.F (l + c.G))) = w9 at hown9 hz9 hB9 ⊢
        have hs9 := hz9.lt
        go_wp2_with (at_builtin; refine wpList_append_own _ rfl _ _ 27 rfl (w.heap.size + 1) 4 i0 (.bool false) 1 1 Try.underlying27 hi hz0 hz1 hz2 rfl (by decide) _ _ _ rfl (World.ownsRow.alloc hown9 _) ⟨w9.heap.size, 0, none⟩ 1 1 [.bool false] rfl rfl (cell_one_new _ _ _) (fun x hx => by simp at hx; subst hx; rfl) (by unfold maxLen; omega) (by omega) (by simp; omega) ?_; intro vN w6 hown6 hgrow6 _)
        have hBx : Below w9.heap.size w9 (w9.alloc (.cells #[.bool false] 4)) := (Below.refl _ _).alloc (Nat.le_refl _) _
        have hB6 := (hB9.alloc hB9.size (.cells #[.bool false] 4)).grown hgrow6 (by simp; omega) (fun q hq => Nat.le_of_succ_le (World.ownsRow.lt hown9 q hq).1)
        have hz6 := hz9.below (((Below.refl (w.heap.size + 1) w9).alloc (by omega) (.cells #[.bool false] 4)).grown hgrow6 (by simp; omega) (fun q hq => (World.ownsRow.lt hown9 q hq).1)) (Nat.lt_succ_self _)
        refine ⟨⟨k + 1, by omega, by go_num, ?_, ownV_put hown6 ?_, ?_, hB6⟩, by simp [intOf]; omega⟩
        · rw [chS_q, HP.out]; rfl
        · exact congrArg Value.bool HP.out.symm
        · rw [chS_l, HP.out, HL.out]; exact hz6
      cases q with
      | false =>
        have HP : Hid (plB c k = true) := by show plB c k = _; rw [hp]; unfold wkB; rw [decide_eq_true a1]; rfl
        have HL : Hid (lvN c (chS c k).1 true = l - c.U) := by show lvN c _ _ = _; rw [hlv]; rfl
        clear hp hlv
        have hown9 := hown.only ((Only.refl w.heap.size wr).set 0 (.int .i64 (l - c.U))) (Nat.lt_succ_self _)
        have hz9 : Bx (wr.setCell ⟨w.heap.size, 0, none⟩ (.int .i64 (l - c.U))) w.heap.size (cgs ⟨l - c.U, c.U, c.G, c.F⟩) := hz.set 0 (show 0 < 4 by omega) _
        have hB9 : Below w.heap.size w (wr.setCell ⟨w.heap.size, 0, none⟩ (.int .i64 (l - c.U))) := hB.setCell (p := ⟨_, _, none⟩) (Nat.le_refl _) _
        clear hown hz hB
        go_upto_region 10 with fail
        generalize wr.setCell ⟨w.heap.size, 0, none⟩ (.int .i64 (l - c.U)) = w9 at hown9 hz9 hB9 ⊢
        have hs9 := hz9.lt
        go_wp2_with (at_builtin; refine wpList_append_own _ rfl _ _ 27 rfl (w.heap.size + 1) 4 i0 (.bool false) 1 1 Try.underlying27 hi hz0 hz1 hz2 rfl (by decide) _ _ _ rfl (World.ownsRow.alloc hown9 _) ⟨w9.heap.size, 0, none⟩ 1 1 [.bool true] rfl rfl (cell_one_new _ _ _) (fun x hx => by simp at hx; subst hx; rfl) (by unfold maxLen; omega) (by omega) (by simp; omega) ?_; intro vN w6 hown6 hgrow6 _)
        have hBx : Below w9.heap.size w9 (w9.alloc (.cells #[.bool true] 4)) := (Below.refl _ _).alloc (Nat.le_refl _) _
        have hB6 := (hB9.alloc hB9.size (.cells #[.bool true] 4)).grown hgrow6 (by simp; omega) (fun q hq => Nat.le_of_succ_le (World.ownsRow.lt hown9 q hq).1)
        have hz6 := hz9.below (((Below.refl (w.heap.size + 1) w9).alloc (by omega) (.cells #[.bool true] 4)).grown hgrow6 (by simp; omega) (fun q hq => (World.ownsRow.lt hown9 q hq).1)) (Nat.lt_succ_self _)
        refine ⟨⟨k + 1, by omega, by go_num, ?_, ownV_put hown6 ?_, ?_, hB6⟩, by simp [intOf]; omega⟩
        · rw [chS_q, HP.out]; rfl
        · exact congrArg Value.bool HP.out.symm
        · rw [chS_l, HP.out, HL.out]; exact hz6
      | true =>
        by_cases a2 : c.F < l + c.G
        · skip
          have HP : Hid (plB c k = true) := by show plB c k = _; rw [hp]; unfold wkB; rw [decide_eq_true a1, decide_eq_true a2]; rfl
          have HL : Hid (lvN c (chS c k).1 true = l - c.U) := by show lvN c _ _ = _; rw [hlv]; rfl
          clear hp hlv
          have hown9 := hown.only ((Only.refl w.heap.size wr).set 0 (.int .i64 (l - c.U))) (Nat.lt_succ_self _)
          have hz9 : Bx (wr.setCell ⟨w.heap.size, 0, none⟩ (.int .i64 (l - c.U))) w.heap.size (cgs ⟨l - c.U, c.U, c.G, c.F⟩) := hz.set 0 (show 0 < 4 by omega) _
          have hB9 : Below w.heap.size w (wr.setCell ⟨w.heap.size, 0, none⟩ (.int .i64 (l - c.U))) := hB.setCell (p := ⟨_, _, none⟩) (Nat.le_refl _) _
          clear hown hz hB
          go_upto_region 10 with fail
          generalize wr.setCell ⟨w.heap.size, 0, none⟩ (.int .i64 (l - c.U)) = w9 at hown9 hz9 hB9 ⊢
          have hs9 := hz9.lt
          go_wp2_with (at_builtin; refine wpList_append_own _ rfl _ _ 27 rfl (w.heap.size + 1) 4 i0 (.bool false) 1 1 Try.underlying27 hi hz0 hz1 hz2 rfl (by decide) _ _ _ rfl (World.ownsRow.alloc hown9 _) ⟨w9.heap.size, 0, none⟩ 1 1 [.bool true] rfl rfl (cell_one_new _ _ _) (fun x hx => by simp at hx; subst hx; rfl) (by unfold maxLen; omega) (by omega) (by simp; omega) ?_; intro vN w6 hown6 hgrow6 _)
          have hBx : Below w9.heap.size w9 (w9.alloc (.cells #[.bool true] 4)) := (Below.refl _ _).alloc (Nat.le_refl _) _
          have hB6 := (hB9.alloc hB9.size (.cells #[.bool true] 4)).grown hgrow6 (by simp; omega) (fun q hq => Nat.le_of_succ_le (World.ownsRow.lt hown9 q hq).1)
          have hz6 := hz9.below (((Below.refl (w.heap.size + 1) w9).alloc (by omega) (.cells #[.bool true] 4)).grown hgrow6 (by simp; omega) (fun q hq => (World.ownsRow.lt hown9 q hq).1)) (Nat.lt_succ_self _)
          refine ⟨⟨k + 1, by omega, by go_num, ?_, ownV_put hown6 ?_, ?_, hB6⟩, by simp [intOf]; omega⟩
          · rw [chS_q, HP.out]; rfl
          · exact congrArg Value.bool HP.out.symm
          · rw [chS_l, HP.out, HL.out]; exact hz6
        · skip
          have HP : Hid (plB c k = false) := by show plB c k = _; rw [hp]; unfold wkB; rw [decide_eq_true a1, decide_eq_false a2]; rfl
          have HL : Hid (lvN c (chS c k).1 false = min c.F (l + c.G)) := by show lvN c _ _ = _; rw [hlv]; rfl
          clear hp hlv
          have hown9 := hown.only ((Only.refl w.heap.size wr).set 0 (.int .i64 (min c.F (l + c.G)))) (Nat.lt_succ_self _)
          have hz9 : Bx (wr.setCell ⟨w.heap.size, 0, none⟩ (.int .i64 (min c.F (l + c.G)))) w.heap.size (cgs ⟨min c.F (l + c.G), c.U, c.G, c.F⟩) := hz.set 0 (show 0 < 4 by omega) _
          have hB9 : Below w.heap.size w (wr.setCell ⟨w.heap.size, 0, none⟩ (.int .i64 (min c.F (l + c.G)))) := hB.setCell (p := ⟨_, _, none⟩) (Nat.le_refl _) _
          clear hown hz hB
          go_upto_region 10 with fail
          generalize wr.setCell ⟨w.heap.size, 0, none⟩ (.int .i64 (min c.F (l + c.G))) = w9 at hown9 hz9 hB9 ⊢
          have hs9 := hz9.lt
          go_wp2_with (at_builtin; refine wpList_append_own _ rfl _ _ 27 rfl (w.heap.size + 1) 4 i0 (.bool false) 1 1 Try.underlying27 hi hz0 hz1 hz2 rfl (by decide) _ _ _ rfl (World.ownsRow.alloc hown9 _) ⟨w9.heap.size, 0, none⟩ 1 1 [.bool false] rfl rfl (cell_one_new _ _ _) (fun x hx => by simp at hx; subst hx; rfl) (by unfold maxLen; omega) (by omega) (by simp; omega) ?_; intro vN w6 hown6 hgrow6 _)
          have hBx : Below w9.heap.size w9 (w9.alloc (.cells #[.bool false] 4)) := (Below.refl _ _).alloc (Nat.le_refl _) _
          have hB6 := (hB9.alloc hB9.size (.cells #[.bool false] 4)).grown hgrow6 (by simp; omega) (fun q hq => Nat.le_of_succ_le (World.ownsRow.lt hown9 q hq).1)
          have hz6 := hz9.below (((Below.refl (w.heap.size + 1) w9).alloc (by omega) (.cells #[.bool false] 4)).grown hgrow6 (by simp; omega) (fun q hq => (World.ownsRow.lt hown9 q hq).1)) (Nat.lt_succ_self _)
          refine ⟨⟨k + 1, by omega, by go_num, ?_, ownV_put hown6 ?_, ?_, hB6⟩, by simp [intOf]; omega⟩
          · rw [chS_q, HP.out]; rfl
          · exact congrArg Value.bool HP.out.symm
          · rw [chS_l, HP.out, HL.out]; exact hz6
    · have hke : k = n := by omega
      subst hke
      obtain ⟨a, cc, rfl⟩ := hown.shape
      go_wp2
      go_ret2
      have hs := hB.size
      have hv := hown.vq.wide (lo' := w.heap.size) (hi' := wr.heap.size) (by omega) (Nat.le_refl _)
      exact ⟨⟨a, cc, rfl, hv⟩, hB⟩
end Go.Proofs.Ytpgcildgjjmlbaa
