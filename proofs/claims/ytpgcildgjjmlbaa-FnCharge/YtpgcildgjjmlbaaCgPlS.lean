/- ChargePlan, as the model takes it. -/
import Derived.Test.YtpgcildgjjmlbaaCgGood
import Derived.BigQuiet
import Derived.Deep.Cut
namespace Go.Proofs.Ytpgcildgjjmlbaa
open Go.RowKit
set_option maxHeartbeats 4000000 in
set_option maxRecDepth 20000 in
theorem sPlan_no (c : Cg) (t : Int) (w : World) (h : okC c t = false) :
    Calls Try.prog 7 #[cgv c, .int .i64 t] w fun e w' => AnsBb w w' e 0 (plB c) false ∧ Below w.heap.size w w' := by
  have hx : Below w.heap.size w (w.alloc (.cells (cgs c).toArray 24)) := (Below.refl _ _).alloc (Nat.le_refl _) _
  by_cases aF : 1 ≤ c.F
  rotate_left
  · clear h
    go_enter Try.func7, Try.ntmps7
    go_wp2
    go_ret2
    exact ⟨ansBb_nil _ _ _ _, hx⟩
  by_cases bF : c.F ≤ 10000
  rotate_left
  · clear h
    go_enter Try.func7, Try.ntmps7
    go_wp2
    go_ret2
    exact ⟨ansBb_nil _ _ _ _, hx⟩
  by_cases aL : 0 ≤ c.L
  rotate_left
  · clear h
    go_enter Try.func7, Try.ntmps7
    go_wp2
    go_ret2
    exact ⟨ansBb_nil _ _ _ _, hx⟩
  by_cases bL : c.L ≤ c.F
  rotate_left
  · clear h
    go_enter Try.func7, Try.ntmps7
    go_wp2
    go_ret2
    exact ⟨ansBb_nil _ _ _ _, hx⟩
  by_cases aU : 1 ≤ c.U
  rotate_left
  · clear h
    go_enter Try.func7, Try.ntmps7
    go_wp2
    go_ret2
    exact ⟨ansBb_nil _ _ _ _, hx⟩
  by_cases bU : c.U ≤ c.F
  rotate_left
  · clear h
    go_enter Try.func7, Try.ntmps7
    go_wp2
    go_ret2
    exact ⟨ansBb_nil _ _ _ _, hx⟩
  by_cases aG : 1 ≤ c.G
  rotate_left
  · clear h
    go_enter Try.func7, Try.ntmps7
    go_wp2
    go_ret2
    exact ⟨ansBb_nil _ _ _ _, hx⟩
  by_cases bG : c.G ≤ c.F
  rotate_left
  · clear h
    go_enter Try.func7, Try.ntmps7
    go_wp2
    go_ret2
    exact ⟨ansBb_nil _ _ _ _, hx⟩
  by_cases a9 : 0 ≤ t
  rotate_left
  · clear h
    go_enter Try.func7, Try.ntmps7
    go_wp2
    go_ret2
    exact ⟨ansBb_nil _ _ _ _, hx⟩
  by_cases b9 : t ≤ 200
  rotate_left
  · clear h
    go_enter Try.func7, Try.ntmps7
    go_wp2
    go_ret2
    exact ⟨ansBb_nil _ _ _ _, hx⟩
  exact absurd (show okC c t = true by unfold okC goodC; simp <;> omega) (by rw [h]; decide)
set_option maxHeartbeats 4000000 in
set_option maxRecDepth 20000 in
theorem sPlan_in (c : Cg) (n : Nat) (w : World) (hg : goodC c = true) (hn : n ≤ 200) :
    Calls Try.prog 7 #[cgv c, .int .i64 (n : Int)] w fun e w' => AnsBb w w' e n (plB c) true ∧ Below w.heap.size w w' := by
  obtain ⟨i0, hi, hzz⟩ := Option.map_eq_some_iff.1 infoBo
  simp only [Prod.mk.injEq] at hzz
  obtain ⟨hz0, hz1, hz2⟩ := hzz
  have z := bx_new (w := w) (cgs c) 24 rfl
  have hx : Below w.heap.size w (w.alloc (.cells (cgs c).toArray 24)) := (Below.refl _ _).alloc (Nat.le_refl _) _
  obtain ⟨x0, x1, x2, x3⟩ := charge_at z
  obtain ⟨⟨hF0, hF1⟩, ⟨hL0, hL1⟩, ⟨hU0, hU1⟩, ⟨hG0, hG1⟩⟩ := goodC_t hg
  have j1 : (0 : Int) ≤ (n : Int) := by omega
  have j2 : (n : Int) ≤ 200 := by omega
  have HZ : Hid (Bx (w.alloc (.cells (cgs c).toArray 24)) w.heap.size (cgs c)) := z
  have HB : Hid (Below w.heap.size w (w.alloc (.cells (cgs c).toArray 24))) := hx
  clear z hx
  go_enter Try.func7, Try.ntmps7
  go_wp2_with fail
  clear x0 x1 x2 x3
  go_loopw [6, 7] (fun v i wr => ∃ k : Nat, k ≤ n ∧ i = .int .i64 k ∧ OwnV 4 wr (w.heap.size + 1) v k (fun i => .bool (plB c i)) ∧ Bx wr w.heap.size (cgs ⟨(chS c k).1, c.U, c.G, c.F⟩) ∧ Below w.heap.size w wr) (fun _ i _ => n - (intOf i).toNat)
  case atStart => exact ⟨0, Nat.zero_le _, rfl, ownV_none _ _ _ _, HZ.out, HB.out⟩
  case round =>
    obtain ⟨k, hk, rfl, hown, hz, hB⟩ := hrel
    clear HZ HB
    obtain ⟨hin0, hin1⟩ := chS_in hg k
    by_cases hlt : k < n
    · have j3 : (k : Int) < (n : Int) := by omega
      obtain ⟨x0, x1, x2, x3⟩ := charge_at hz
      have f0 := hz.fz 0
      obtain ⟨l, hl⟩ : ∃ l, l = (chS c k).1 := ⟨_, rfl⟩
      have hlv : ∀ b, lvN c (chS c k).1 b = lvN c l b := fun b => by rw [hl]
      by_cases k0 : k = 0
      · have hp : plB c k = wkB c l false := by subst k0; rw [hl]; rfl
        rw [← hl] at hin0 hin1 hz x0
        clear hl hg
        have k1 : (k : Int) = 0 := by omega
        have k2 : decide ((0 : Int) < (k : Int)) = false := decide_eq_false (by omega)
        clear k1
        by_cases a1 : c.U ≤ l
        · have HP : Hid (plB c k = true) := by show plB c k = _; rw [hp]; unfold wkB; rw [decide_eq_true a1]; rfl
          have HL : Hid (lvN c (chS c k).1 true = l - c.U) := by show lvN c _ _ = _; rw [hlv]; rfl
          clear hp hlv
          have hown9 := hown.only ((Only.refl w.heap.size wr).set 0 (.int .i64 (l - c.U))) (Nat.lt_succ_self _)
          have hz9 : Bx (wr.setCell ⟨w.heap.size, 0, none⟩ (.int .i64 (l - c.U))) w.heap.size (cgs ⟨l - c.U, c.U, c.G, c.F⟩) := hz.set 0 (show 0 < 4 by omega) _
          have hB9 : Below w.heap.size w (wr.setCell ⟨w.heap.size, 0, none⟩ (.int .i64 (l - c.U))) := hB.setCell (p := ⟨_, _, none⟩) (Nat.le_refl _) _
          clear hown hz hB
          go_upto_region 13 with (first | (go_at_call 17; refine (l13Cut_pos _ _ _ (by omega)).mono ?_; rintro e w' ⟨rfl, hw'⟩; have hs' := hw'.symm; clear hw'; subst hs') | fail)
          generalize wr.setCell ⟨w.heap.size, 0, none⟩ (.int .i64 (l - c.U)) = w9 at hown9 hz9 hB9 ⊢
          have hs9 := hz9.lt
          go_wp2_with (at_builtin; refine wpList_append_own _ rfl _ _ 27 rfl (w.heap.size + 1) 4 i0 (.bool false) 1 1 Try.underlying27 hi hz0 hz1 hz2 rfl (by decide) _ _ _ rfl (World.ownsRow.alloc hown9 _) ⟨w9.heap.size, 0, none⟩ 1 1 [.bool true] rfl rfl (cell_one_new _ _ _) (fun x hx => by simp at hx; subst hx; rfl) (by unfold maxLen; omega) (by omega) (by simp; omega) ?_; intro vN w6 hown6 hgrow6 _)
          have hBx : Below w9.heap.size w9 (w9.alloc (.cells #[.bool true] 4)) := (Below.refl _ _).alloc (Nat.le_refl _) _
          have hB6 := (hB9.alloc hB9.size (.cells #[.bool true] 4)).grown hgrow6 (by simp; omega) (fun q hq => Nat.le_of_succ_le (World.ownsRow.lt hown9 q hq).1)
          have hz6 := hz9.below (((Below.refl (w.heap.size + 1) w9).alloc (by omega) (.cells #[.bool true] 4)).grown hgrow6 (by simp; omega) (fun q hq => (World.ownsRow.lt hown9 q hq).1)) (Nat.lt_succ_self _)
          refine ⟨⟨k + 1, by omega, by go_num, ownV_put hown6 ?_, ?_, hB6⟩, by simp [intOf]; omega⟩
          · exact congrArg Value.bool HP.out.symm
          · rw [chS_l, HP.out, HL.out]; exact hz6
        · have HP : Hid (plB c k = false) := by show plB c k = _; rw [hp]; unfold wkB; rw [decide_eq_false a1]; rfl
          have HL : Hid (lvN c (chS c k).1 false = min c.F (l + c.G)) := by show lvN c _ _ = _; rw [hlv]; rfl
          clear hp hlv
          have hown9 := hown.only ((Only.refl w.heap.size wr).set 0 (.int .i64 (min c.F (l + c.G)))) (Nat.lt_succ_self _)
          have hz9 : Bx (wr.setCell ⟨w.heap.size, 0, none⟩ (.int .i64 (min c.F (l + c.G)))) w.heap.size (cgs ⟨min c.F (l + c.G), c.U, c.G, c.F⟩) := hz.set 0 (show 0 < 4 by omega) _
          have hB9 : Below w.heap.size w (wr.setCell ⟨w.heap.size, 0, none⟩ (.int .i64 (min c.F (l + c.G)))) := hB.setCell (p := ⟨_, _, none⟩) (Nat.le_refl _) _
          clear hown hz hB
          go_upto_region 13 with (first | (go_at_call 17; refine (l13Cut_pos _ _ _ (by omega)).mono ?_; rintro e w' ⟨rfl, hw'⟩; have hs' := hw'.symm; clear hw'; subst hs') | fail)
          generalize wr.setCell ⟨w.heap.size, 0, none⟩ (.int .i64 (min c.F (l + c.G))) = w9 at hown9 hz9 hB9 ⊢
          have hs9 := hz9.lt
          go_wp2_with (at_builtin; refine wpList_append_own _ rfl _ _ 27 rfl (w.heap.size + 1) 4 i0 (.bool false) 1 1 Try.underlying27 hi hz0 hz1 hz2 rfl (by decide) _ _ _ rfl (World.ownsRow.alloc hown9 _) ⟨w9.heap.size, 0, none⟩ 1 1 [.bool false] rfl rfl (cell_one_new _ _ _) (fun x hx => by simp at hx; subst hx; rfl) (by unfold maxLen; omega) (by omega) (by simp; omega) ?_; intro vN w6 hown6 hgrow6 _)
          have hBx : Below w9.heap.size w9 (w9.alloc (.cells #[.bool false] 4)) := (Below.refl _ _).alloc (Nat.le_refl _) _
          have hB6 := (hB9.alloc hB9.size (.cells #[.bool false] 4)).grown hgrow6 (by simp; omega) (fun q hq => Nat.le_of_succ_le (World.ownsRow.lt hown9 q hq).1)
          have hz6 := hz9.below (((Below.refl (w.heap.size + 1) w9).alloc (by omega) (.cells #[.bool false] 4)).grown hgrow6 (by simp; omega) (fun q hq => (World.ownsRow.lt hown9 q hq).1)) (Nat.lt_succ_self _)
          refine ⟨⟨k + 1, by omega, by go_num, ownV_put hown6 ?_, ?_, hB6⟩, by simp [intOf]; omega⟩
          · exact congrArg Value.bool HP.out.symm
          · rw [chS_l, HP.out, HL.out]; exact hz6
      · have hp : plB c k = wkB c l (!plB c (k - 1)) := by
          obtain ⟨m, rfl⟩ : ∃ m, k = m + 1 := ⟨k - 1, by omega⟩
          rw [hl]; rfl
        rw [← hl] at hin0 hin1 hz x0
        clear hl hg
        obtain ⟨g, gc, rfl, hgb, hP⟩ := hown.some (by omega)
        have y0 := hP.c (k - 1) (by omega)
        generalize plB c (k - 1) = pq at hp y0
        have j4 : (0 : Int) < (k : Int) := by omega
        have j5 : (0 : Int) ≤ (k : Int) - 1 := by omega
        have j6 : (k : Int) - 1 < (k : Int) := by omega
        have j7 : ((k : Int) - 1).toNat = k - 1 := by omega
        clear hP
        by_cases a1 : c.U ≤ l
        rotate_left
        · cases pq with
          | true =>
            have HP : Hid (plB c k = false) := by show plB c k = _; rw [hp]; unfold wkB; rw [decide_eq_false a1]; rfl
            have HL : Hid (lvN c (chS c k).1 false = min c.F (l + c.G)) := by show lvN c _ _ = _; rw [hlv]; rfl
            clear hp hlv
            have hown9 := hown.only ((Only.refl w.heap.size wr).set 0 (.int .i64 (min c.F (l + c.G)))) (Nat.lt_succ_self _)
            have hz9 : Bx (wr.setCell ⟨w.heap.size, 0, none⟩ (.int .i64 (min c.F (l + c.G)))) w.heap.size (cgs ⟨min c.F (l + c.G), c.U, c.G, c.F⟩) := hz.set 0 (show 0 < 4 by omega) _
            have hB9 : Below w.heap.size w (wr.setCell ⟨w.heap.size, 0, none⟩ (.int .i64 (min c.F (l + c.G)))) := hB.setCell (p := ⟨_, _, none⟩) (Nat.le_refl _) _
            clear hown hz hB
            go_upto_region 13 with (first | (go_at_call 17; refine (l13Cut_pos _ _ _ (by omega)).mono ?_; rintro e w' ⟨rfl, hw'⟩; have hs' := hw'.symm; clear hw'; subst hs') | fail)
            generalize wr.setCell ⟨w.heap.size, 0, none⟩ (.int .i64 (min c.F (l + c.G))) = w9 at hown9 hz9 hB9 ⊢
            have hs9 := hz9.lt
            go_wp2_with (at_builtin; refine wpList_append_own _ rfl _ _ 27 rfl (w.heap.size + 1) 4 i0 (.bool false) 1 1 Try.underlying27 hi hz0 hz1 hz2 rfl (by decide) _ _ _ rfl (World.ownsRow.alloc hown9 _) ⟨w9.heap.size, 0, none⟩ 1 1 [.bool false] rfl rfl (cell_one_new _ _ _) (fun x hx => by simp at hx; subst hx; rfl) (by unfold maxLen; omega) (by omega) (by simp; omega) ?_; intro vN w6 hown6 hgrow6 _)
            have hBx : Below w9.heap.size w9 (w9.alloc (.cells #[.bool false] 4)) := (Below.refl _ _).alloc (Nat.le_refl _) _
            have hB6 := (hB9.alloc hB9.size (.cells #[.bool false] 4)).grown hgrow6 (by simp; omega) (fun q hq => Nat.le_of_succ_le (World.ownsRow.lt hown9 q hq).1)
            have hz6 := hz9.below (((Below.refl (w.heap.size + 1) w9).alloc (by omega) (.cells #[.bool false] 4)).grown hgrow6 (by simp; omega) (fun q hq => (World.ownsRow.lt hown9 q hq).1)) (Nat.lt_succ_self _)
            refine ⟨⟨k + 1, by omega, by go_num, ownV_put hown6 ?_, ?_, hB6⟩, by simp [intOf]; omega⟩
            · exact congrArg Value.bool HP.out.symm
            · rw [chS_l, HP.out, HL.out]; exact hz6
          | false =>
            by_cases a2 : c.F < l + c.G
            · have HP : Hid (plB c k = false) := by show plB c k = _; rw [hp]; unfold wkB; rw [decide_eq_false a1]; rfl
              have HL : Hid (lvN c (chS c k).1 false = min c.F (l + c.G)) := by show lvN c _ _ = _; rw [hlv]; rfl
              clear hp hlv
              have hown9 := hown.only ((Only.refl w.heap.size wr).set 0 (.int .i64 (min c.F (l + c.G)))) (Nat.lt_succ_self _)
              have hz9 : Bx (wr.setCell ⟨w.heap.size, 0, none⟩ (.int .i64 (min c.F (l + c.G)))) w.heap.size (cgs ⟨min c.F (l + c.G), c.U, c.G, c.F⟩) := hz.set 0 (show 0 < 4 by omega) _
              have hB9 : Below w.heap.size w (wr.setCell ⟨w.heap.size, 0, none⟩ (.int .i64 (min c.F (l + c.G)))) := hB.setCell (p := ⟨_, _, none⟩) (Nat.le_refl _) _
              clear hown hz hB
              go_upto_region 13 with (first | (go_at_call 17; refine (l13Cut_pos _ _ _ (by omega)).mono ?_; rintro e w' ⟨rfl, hw'⟩; have hs' := hw'.symm; clear hw'; subst hs') | fail)
              generalize wr.setCell ⟨w.heap.size, 0, none⟩ (.int .i64 (min c.F (l + c.G))) = w9 at hown9 hz9 hB9 ⊢
              have hs9 := hz9.lt
              go_wp2_with (at_builtin; refine wpList_append_own _ rfl _ _ 27 rfl (w.heap.size + 1) 4 i0 (.bool false) 1 1 Try.underlying27 hi hz0 hz1 hz2 rfl (by decide) _ _ _ rfl (World.ownsRow.alloc hown9 _) ⟨w9.heap.size, 0, none⟩ 1 1 [.bool false] rfl rfl (cell_one_new _ _ _) (fun x hx => by simp at hx; subst hx; rfl) (by unfold maxLen; omega) (by omega) (by simp; omega) ?_; intro vN w6 hown6 hgrow6 _)
              have hBx : Below w9.heap.size w9 (w9.alloc (.cells #[.bool false] 4)) := (Below.refl _ _).alloc (Nat.le_refl _) _
              have hB6 := (hB9.alloc hB9.size (.cells #[.bool false] 4)).grown hgrow6 (by simp; omega) (fun q hq => Nat.le_of_succ_le (World.ownsRow.lt hown9 q hq).1)
              have hz6 := hz9.below (((Below.refl (w.heap.size + 1) w9).alloc (by omega) (.cells #[.bool false] 4)).grown hgrow6 (by simp; omega) (fun q hq => (World.ownsRow.lt hown9 q hq).1)) (Nat.lt_succ_self _)
              refine ⟨⟨k + 1, by omega, by go_num, ownV_put hown6 ?_, ?_, hB6⟩, by simp [intOf]; omega⟩
              · exact congrArg Value.bool HP.out.symm
              · rw [chS_l, HP.out, HL.out]; exact hz6
            · have HP : Hid (plB c k = false) := by show plB c k = _; rw [hp]; unfold wkB; rw [decide_eq_false a1]; rfl
              have HL : Hid (lvN c (chS c k).1 false = min c.F (l + c.G)) := by show lvN c _ _ = _; rw [hlv]; rfl
              clear hp hlv
              have hown9 := hown.only ((Only.refl w.heap.size wr).set 0 (.int .i64 (min c.F (l + c.G)))) (Nat.lt_succ_self _)
              have hz9 : Bx (wr.setCell ⟨w.heap.size, 0, none⟩ (.int .i64 (min c.F (l + c.G)))) w.heap.size (cgs ⟨min c.F (l + c.G), c.U, c.G, c.F⟩) := hz.set 0 (show 0 < 4 by omega) _
              have hB9 : Below w.heap.size w (wr.setCell ⟨w.heap.size, 0, none⟩ (.int .i64 (min c.F (l + c.G)))) := hB.setCell (p := ⟨_, _, none⟩) (Nat.le_refl _) _
              clear hown hz hB
              go_upto_region 13 with (first | (go_at_call 17; refine (l13Cut_pos _ _ _ (by omega)).mono ?_; rintro e w' ⟨rfl, hw'⟩; have hs' := hw'.symm; clear hw'; subst hs') | fail)
              generalize wr.setCell ⟨w.heap.size, 0, none⟩ (.int .i64 (min c.F (l + c.G))) = w9 at hown9 hz9 hB9 ⊢
              have hs9 := hz9.lt
              go_wp2_with (at_builtin; refine wpList_append_own _ rfl _ _ 27 rfl (w.heap.size + 1) 4 i0 (.bool false) 1 1 Try.underlying27 hi hz0 hz1 hz2 rfl (by decide) _ _ _ rfl (World.ownsRow.alloc hown9 _) ⟨w9.heap.size, 0, none⟩ 1 1 [.bool false] rfl rfl (cell_one_new _ _ _) (fun x hx => by simp at hx; subst hx; rfl) (by unfold maxLen; omega) (by omega) (by simp; omega) ?_; intro vN w6 hown6 hgrow6 _)
              have hBx : Below w9.heap.size w9 (w9.alloc (.cells #[.bool false] 4)) := (Below.refl _ _).alloc (Nat.le_refl _) _
              have hB6 := (hB9.alloc hB9.size (.cells #[.bool false] 4)).grown hgrow6 (by simp; omega) (fun q hq => Nat.le_of_succ_le (World.ownsRow.lt hown9 q hq).1)
              have hz6 := hz9.below (((Below.refl (w.heap.size + 1) w9).alloc (by omega) (.cells #[.bool false] 4)).grown hgrow6 (by simp; omega) (fun q hq => (World.ownsRow.lt hown9 q hq).1)) (Nat.lt_succ_self _)
              refine ⟨⟨k + 1, by omega, by go_num, ownV_put hown6 ?_, ?_, hB6⟩, by simp [intOf]; omega⟩
              · exact congrArg Value.bool HP.out.symm
              · rw [chS_l, HP.out, HL.out]; exact hz6
        cases pq with
        | true =>
          have HP : Hid (plB c k = true) := by show plB c k = _; rw [hp]; unfold wkB; rw [decide_eq_true a1]; rfl
          have HL : Hid (lvN c (chS c k).1 true = l - c.U) := by show lvN c _ _ = _; rw [hlv]; rfl
          clear hp hlv
          have hown9 := hown.only ((Only.refl w.heap.size wr).set 0 (.int .i64 (l - c.U))) (Nat.lt_succ_self _)
          have hz9 : Bx (wr.setCell ⟨w.heap.size, 0, none⟩ (.int .i64 (l - c.U))) w.heap.size (cgs ⟨l - c.U, c.U, c.G, c.F⟩) := hz.set 0 (show 0 < 4 by omega) _
          have hB9 : Below w.heap.size w (wr.setCell ⟨w.heap.size, 0, none⟩ (.int .i64 (l - c.U))) := hB.setCell (p := ⟨_, _, none⟩) (Nat.le_refl _) _
          clear hown hz hB
          go_upto_region 13 with (first | (go_at_call 17; refine (l13Cut_pos _ _ _ (by omega)).mono ?_; rintro e w' ⟨rfl, hw'⟩; have hs' := hw'.symm; clear hw'; subst hs') | fail)
          generalize wr.setCell ⟨w.heap.size, 0, none⟩ (.int .i64 (l - c.U)) = w9 at hown9 hz9 hB9 ⊢
          have hs9 := hz9.lt
          go_wp2_with (at_builtin; refine wpList_append_own _ rfl _ _ 27 rfl (w.heap.size + 1) 4 i0 (.bool false) 1 1 Try.underlying27 hi hz0 hz1 hz2 rfl (by decide) _ _ _ rfl (World.ownsRow.alloc hown9 _) ⟨w9.heap.size, 0, none⟩ 1 1 [.bool true] rfl rfl (cell_one_new _ _ _) (fun x hx => by simp at hx; subst hx; rfl) (by unfold maxLen; omega) (by omega) (by simp; omega) ?_; intro vN w6 hown6 hgrow6 _)
          have hBx : Below w9.heap.size w9 (w9.alloc (.cells #[.bool true] 4)) := (Below.refl _ _).alloc (Nat.le_refl _) _
          have hB6 := (hB9.alloc hB9.size (.cells #[.bool true] 4)).grown hgrow6 (by simp; omega) (fun q hq => Nat.le_of_succ_le (World.ownsRow.lt hown9 q hq).1)
          have hz6 := hz9.below (((Below.refl (w.heap.size + 1) w9).alloc (by omega) (.cells #[.bool true] 4)).grown hgrow6 (by simp; omega) (fun q hq => (World.ownsRow.lt hown9 q hq).1)) (Nat.lt_succ_self _)
          refine ⟨⟨k + 1, by omega, by go_num, ownV_put hown6 ?_, ?_, hB6⟩, by simp [intOf]; omega⟩
          · exact congrArg Value.bool HP.out.symm
          · rw [chS_l, HP.out, HL.out]; exact hz6
        | false =>
          by_cases a2 : c.F < l + c.G
          · have HP : Hid (plB c k = true) := by show plB c k = _; rw [hp]; unfold wkB; rw [decide_eq_true a1, decide_eq_true a2]; rfl
            have HL : Hid (lvN c (chS c k).1 true = l - c.U) := by show lvN c _ _ = _; rw [hlv]; rfl
            clear hp hlv
            have hown9 := hown.only ((Only.refl w.heap.size wr).set 0 (.int .i64 (l - c.U))) (Nat.lt_succ_self _)
            have hz9 : Bx (wr.setCell ⟨w.heap.size, 0, none⟩ (.int .i64 (l - c.U))) w.heap.size (cgs ⟨l - c.U, c.U, c.G, c.F⟩) := hz.set 0 (show 0 < 4 by omega) _
            have hB9 : Below w.heap.size w (wr.setCell ⟨w.heap.size, 0, none⟩ (.int .i64 (l - c.U))) := hB.setCell (p := ⟨_, _, none⟩) (Nat.le_refl _) _
            clear hown hz hB
            go_upto_region 13 with (first | (go_at_call 17; refine (l13Cut_pos _ _ _ (by omega)).mono ?_; rintro e w' ⟨rfl, hw'⟩; have hs' := hw'.symm; clear hw'; subst hs') | fail)
            generalize wr.setCell ⟨w.heap.size, 0, none⟩ (.int .i64 (l - c.U)) = w9 at hown9 hz9 hB9 ⊢
            have hs9 := hz9.lt
            go_wp2_with (at_builtin; refine wpList_append_own _ rfl _ _ 27 rfl (w.heap.size + 1) 4 i0 (.bool false) 1 1 Try.underlying27 hi hz0 hz1 hz2 rfl (by decide) _ _ _ rfl (World.ownsRow.alloc hown9 _) ⟨w9.heap.size, 0, none⟩ 1 1 [.bool true] rfl rfl (cell_one_new _ _ _) (fun x hx => by simp at hx; subst hx; rfl) (by unfold maxLen; omega) (by omega) (by simp; omega) ?_; intro vN w6 hown6 hgrow6 _)
            have hBx : Below w9.heap.size w9 (w9.alloc (.cells #[.bool true] 4)) := (Below.refl _ _).alloc (Nat.le_refl _) _
            have hB6 := (hB9.alloc hB9.size (.cells #[.bool true] 4)).grown hgrow6 (by simp; omega) (fun q hq => Nat.le_of_succ_le (World.ownsRow.lt hown9 q hq).1)
            have hz6 := hz9.below (((Below.refl (w.heap.size + 1) w9).alloc (by omega) (.cells #[.bool true] 4)).grown hgrow6 (by simp; omega) (fun q hq => (World.ownsRow.lt hown9 q hq).1)) (Nat.lt_succ_self _)
            refine ⟨⟨k + 1, by omega, by go_num, ownV_put hown6 ?_, ?_, hB6⟩, by simp [intOf]; omega⟩
            · exact congrArg Value.bool HP.out.symm
            · rw [chS_l, HP.out, HL.out]; exact hz6
          · have HP : Hid (plB c k = false) := by show plB c k = _; rw [hp]; unfold wkB; rw [decide_eq_true a1, decide_eq_false a2]; rfl
            have HL : Hid (lvN c (chS c k).1 false = min c.F (l + c.G)) := by show lvN c _ _ = _; rw [hlv]; rfl
            clear hp hlv
            have hown9 := hown.only ((Only.refl w.heap.size wr).set 0 (.int .i64 (min c.F (l + c.G)))) (Nat.lt_succ_self _)
            have hz9 : Bx (wr.setCell ⟨w.heap.size, 0, none⟩ (.int .i64 (min c.F (l + c.G)))) w.heap.size (cgs ⟨min c.F (l + c.G), c.U, c.G, c.F⟩) := hz.set 0 (show 0 < 4 by omega) _
            have hB9 : Below w.heap.size w (wr.setCell ⟨w.heap.size, 0, none⟩ (.int .i64 (min c.F (l + c.G)))) := hB.setCell (p := ⟨_, _, none⟩) (Nat.le_refl _) _
            clear hown hz hB
            go_upto_region 13 with (first | (go_at_call 17; refine (l13Cut_pos _ _ _ (by omega)).mono ?_; rintro e w' ⟨rfl, hw'⟩; have hs' := hw'.symm; clear hw'; subst hs') | fail)
            generalize wr.setCell ⟨w.heap.size, 0, none⟩ (.int .i64 (min c.F (l + c.G))) = w9 at hown9 hz9 hB9 ⊢
            have hs9 := hz9.lt
            go_wp2_with (at_builtin; refine wpList_append_own _ rfl _ _ 27 rfl (w.heap.size + 1) 4 i0 (.bool false) 1 1 Try.underlying27 hi hz0 hz1 hz2 rfl (by decide) _ _ _ rfl (World.ownsRow.alloc hown9 _) ⟨w9.heap.size, 0, none⟩ 1 1 [.bool false] rfl rfl (cell_one_new _ _ _) (fun x hx => by simp at hx; subst hx; rfl) (by unfold maxLen; omega) (by omega) (by simp; omega) ?_; intro vN w6 hown6 hgrow6 _)
            have hBx : Below w9.heap.size w9 (w9.alloc (.cells #[.bool false] 4)) := (Below.refl _ _).alloc (Nat.le_refl _) _
            have hB6 := (hB9.alloc hB9.size (.cells #[.bool false] 4)).grown hgrow6 (by simp; omega) (fun q hq => Nat.le_of_succ_le (World.ownsRow.lt hown9 q hq).1)
            have hz6 := hz9.below (((Below.refl (w.heap.size + 1) w9).alloc (by omega) (.cells #[.bool false] 4)).grown hgrow6 (by simp; omega) (fun q hq => (World.ownsRow.lt hown9 q hq).1)) (Nat.lt_succ_self _)
            refine ⟨⟨k + 1, by omega, by go_num, ownV_put hown6 ?_, ?_, hB6⟩, by simp [intOf]; omega⟩
            · exact congrArg Value.bool HP.out.symm
            · rw [chS_l, HP.out, HL.out]; exact hz6
    · have hke : k = n := by omega
      subst hke
      obtain ⟨a, cc, rfl⟩ := hown.shape
      go_wp2
      go_ret2
      have hs := hB.size
      have hv := hown.vq.wide (lo' := w.heap.size) (hi' := wr.heap.size) (by omega) (Nat.le_refl _)
      exact ⟨⟨a, cc, rfl, hv⟩, hB⟩
end Go.Proofs.Ytpgcildgjjmlbaa
