/- ReadWish of the model: a text that is not too long (tools/gen_resp.py). -/
import Derived.Test.YtmlfijapndkfhaaDoorQReSpA
import Derived.Deep.LoopGhost
import Derived.Deep.CutRange
import Derived.Deep.CutBlock
namespace Go.Proofs.YtmlfijapndkfhaaDoor
open Go.RowKit
theorem wsT_1 {q : Nat} {t : ByteArray} {st : WS} (h : 0 ≤ (oddU (bt t) t.size 0 0).1) : wsT (q, t) st = .error (3, (q : Int) + (oddU (bt t) t.size 0 0).1) := by unfold wsT; simp only; rw [if_pos h]
theorem wsT_2 {q : Nat} {t : ByteArray} {st : WS} (h : (oddU (bt t) t.size 0 0).1 < 0) (hw : isW t = true) (h2 : nxP t ≤ st.p ∨ st.many = 0) : wsT (q, t) st = .error (1, (q : Int)) := by unfold wsT; simp only; rw [if_neg (by omega), if_pos hw, if_pos h2]
theorem wsT_3 {q : Nat} {t : ByteArray} {st : WS} (h : (oddU (bt t) t.size 0 0).1 < 0) (hw : isW t = true) (h2 : ¬ (nxP t ≤ st.p ∨ st.many = 0)) : wsT (q, t) st = .ok { st with p := nxP t } := by unfold wsT; simp only; rw [if_neg (by omega), if_pos hw, if_neg h2]
theorem wsT_4 {q : Nat} {t : ByteArray} {st : WS} (h : (oddU (bt t) t.size 0 0).1 < 0) (hw : ¬ isW t = true) (h2 : st.p = 0) : wsT (q, t) st = .error (1, (q : Int)) := by unfold wsT; simp only; rw [if_neg (by omega), if_neg hw, if_pos h2]
theorem wsT_5 {q : Nat} {t : ByteArray} {st : WS} (h : (oddU (bt t) t.size 0 0).1 < 0) (hw : ¬ isW t = true) (h2 : ¬ st.p = 0) (h3 : 12 < (oddU (bt t) t.size 0 0).2 ∨ st.many = 6) : wsT (q, t) st = .error (2, (q : Int)) := by unfold wsT; simp only; rw [if_neg (by omega), if_neg hw, if_neg h2, if_pos h3]
theorem wsT_6 {q : Nat} {t : ByteArray} {st : WS} (h : (oddU (bt t) t.size 0 0).1 < 0) (hw : ¬ isW t = true) (h2 : ¬ st.p = 0) (h3 : ¬ (12 < (oddU (bt t) t.size 0 0).2 ∨ st.many = 6)) (h4 : inS (gS st.cur) t st.cur.length = true) : wsT (q, t) st = .error (4, (q : Int)) := by unfold wsT; simp only; rw [if_neg (by omega), if_neg hw, if_neg h2, if_neg h3, if_pos h4]
theorem wsT_7 {q : Nat} {t : ByteArray} {st : WS} (h : (oddU (bt t) t.size 0 0).1 < 0) (hw : ¬ isW t = true) (h2 : ¬ st.p = 0) (h3 : ¬ (12 < (oddU (bt t) t.size 0 0).2 ∨ st.many = 6)) (h4 : ¬ inS (gS st.cur) t st.cur.length = true) : wsT (q, t) st = .ok (addW st t) := by unfold wsT; simp only; rw [if_neg (by omega), if_neg hw, if_neg h2, if_neg h3, if_neg h4]
set_option maxRecDepth 20000 in
set_option maxHeartbeats 16000000 in
theorem sr_short (s : ByteArray) (w : World) (hs : s.size ≤ 200) :
    Calls Tryd.prog 11 #[.string s] w fun e w' => AnsSr w' e (rwV s) ∧ Below w.heap.size w w' := by
  obtain ⟨i0, hi0, hzz⟩ := Option.map_eq_some_iff.1 infoSt
  simp only [Prod.mk.injEq] at hzz
  obtain ⟨hz0, hz1, hz2⟩ := hzz
  have hj : ¬ (200 : Int) < (s.size : Int) := by omega
  obtain ⟨V, hV⟩ : ∃ V, rwV s = V := ⟨_, rfl⟩
  rw [hV]
  have HV : Hid (wsL s.size (tks s 0) ⟨0, [], []⟩ = V) := by rw [← hV]; unfold rwV; rw [if_neg (by omega)]; exact rfl
  clear hV
  have hA : Below w.heap.size w (w.alloc (.cells #[.slice none 0 0, .slice none 0 0, .int .i64 0, .int .i64 0] 30)) := (Below.refl _ _).alloc (Nat.le_refl _) _
  have bR := bx_new (w := w) [.slice none 0 0, .slice none 0 0, .int .i64 0, .int .i64 0] 30 rfl
  have hA2 : Below (w.alloc (.cells #[.slice none 0 0, .slice none 0 0, .int .i64 0, .int .i64 0] 30)).heap.size (w.alloc (.cells #[.slice none 0 0, .slice none 0 0, .int .i64 0, .int .i64 0] 30)) ((w.alloc (.cells #[.slice none 0 0, .slice none 0 0, .int .i64 0, .int .i64 0] 30)).alloc (.cells #[] 58)) := (Below.refl _ _).alloc (Nat.le_refl _) _
  have bR2 := bR.on hA2
  have hB2 := hA.trans (hA2.mono hA.size)
  have hl2 : w.heap.size + 1 < ((w.alloc (.cells #[.slice none 0 0, .slice none 0 0, .int .i64 0, .int .i64 0] 30)).alloc (.cells #[] 58)).heap.size := by simp only [size_al]; omega
  clear hA bR hA2
  go_enter Tryd.func11, Tryd.ntmps11
  go_upto_region 2 with fail
  generalize (w.alloc (.cells #[.slice none 0 0, .slice none 0 0, .int .i64 0, .int .i64 0] 30)).alloc (.cells #[] 58) = w2 at *
  have hA3 : Below w2.heap.size w2 (w2.alloc (.cells #[.slice none 0 0, .slice none 0 0] 25)) := (Below.refl _ _).alloc (Nat.le_refl _) _
  have bD := bx_new (w := w2) [.slice none 0 0, .slice none 0 0] 25 rfl
  have hR0 : Rs (w2.alloc (.cells #[.slice none 0 0, .slice none 0 0] 25)) w2.heap.size (w2.alloc (.cells #[.slice none 0 0, .slice none 0 0] 25)).heap.size ⟨0, [], []⟩ none 0 none 0 := ⟨⟨bD.lt, Nat.le_refl _⟩, bD, World.ownsRow_nil _ _ _ _, World.ownsRow_nil _ _ _ _, fun q hq => by cases hq⟩
  have hBR3 := bR2.on hA3
  have hW3 := hB2.trans (hA3.mono hB2.size)
  clear hA3 bD bR2 hB2
  go_upto_region 5 with fail
  generalize w2.alloc (.cells #[.slice none 0 0, .slice none 0 0] 25) = w3 at *
  have HR0 : Hid (∃ ra rc aa ac, Rs w3 w2.heap.size w3.heap.size ⟨0, [], []⟩ ra rc aa ac) := ⟨_, _, _, _, hR0⟩
  have HBR : Hid (Bx w3 w.heap.size [.slice none 0 0, .slice none 0 0, .int .i64 0, .int .i64 0]) := hBR3
  have HW : Hid (Below w.heap.size w w3) := hW3
  have HO : Hid (WsOk ⟨0, [], []⟩) := ws0
  clear hR0 hBR3 hW3
  generalize w3.heap.size = b0 at *
  generalize w2.heap.size = D at *
  go_wp2
  go_loopw [5, 6, 7] (fun v5 v6 v7 wr => ∃ (i : Nat) (st : WS), i ≤ s.size ∧ v5 = .int .i64 (st.p : Int) ∧ v6 = .int .i64 (st.many : Int) ∧ v7 = .int .i64 (i : Int) ∧ Hid (∃ ra rc aa ac, Rs wr D b0 st ra rc aa ac) ∧ Hid (Bx wr w.heap.size [.slice none 0 0, .slice none 0 0, .int .i64 0, .int .i64 0]) ∧ Hid (Below w.heap.size w wr) ∧ Hid (WsOk st) ∧ Hid (wsL s.size (tks s i) st = V)) (fun _ _ v _ => s.size - (intOf v).toNat)
  case atStart => exact ⟨0, ⟨0, [], []⟩, Nat.zero_le _, rfl, rfl, rfl, HR0, HBR, HW, HO, HV⟩
  case round =>
    obtain ⟨i, st, hi, rfl, rfl, rfl, HR, HBr, HWr, HOk, HE⟩ := hrel
    clear HR0 HBR HW HO HV
    obtain ⟨wM, rfl⟩ : ∃ x, x = wr := ⟨wr, rfl⟩
    have hp := HOk.out.p
    have hmb : st.many ≤ 6 := by have h1 := HOk.out.r; have h2 := HOk.out.a; unfold WS.many WS.cur; (repeat' split) <;> omega
    by_cases hlt : i < s.size
    · have j0 : (0 : Int) ≤ (i : Int) := by omega
      have j1 : (i : Int) < (s.size : Int) := by omega
      have hix := fun w => ix_bt (P := Tryd.prog) Tryd.underlying9 s i hlt w
      by_cases hsp : bt s i = 32
      · have c1 : (bt s i == 32) = true := by rw [hsp]; rfl
        have HE2 : Hid (wsL s.size (tks s (i + 1)) st = V) := by rw [← tks_sp hlt hsp]; exact HE.out
        clear HE
        go_wp2
        go_roundw
        case rel => exact ⟨i + 1, st, by omega, rfl, rfl, by go_num, HR, HBr, HWr, HOk, HE2⟩
        case measure => simp [intOf]; omega
      · have c1 : (bt s i == 32) = false := beq_eq_false_iff_ne.2 hsp
        have hgt := enK_gt hlt hsp
        have htk := tks_tok hlt hsp
        have hE0 := HE.out
        rw [htk] at hE0
        clear HE htk
        go_upto_block 2 with fail
        go_cut [8] from 32 to 43 (fun v8 wz => v8 = .int .i64 ((enK s i : Nat) : Int) ∧ enK s i ≤ s.size ∧ wz = wM)
        case first =>
          go_wp2_with fail
          go_loopw [8] (fun v8 wz => ∃ e : Nat, v8 = .int .i64 (e : Int) ∧ i ≤ e ∧ e ≤ s.size ∧ Hid (∀ j, i ≤ j → j < e → bt s j ≠ 32) ∧ wz = wM) (fun v _ => s.size - (intOf v).toNat)
          case atStart => exact ⟨i, rfl, Nat.le_refl _, by omega, fun j h1 h2 => by omega, rfl⟩
          case round =>
            obtain ⟨e, rfl, he1, he2, HN, hw⟩ := hrel
            have hw' := hw.symm
            clear hw
            subst hw'
            by_cases hl2 : e < s.size
            · have k0 : (0 : Int) ≤ (e : Int) := by omega
              have k1 : (e : Int) < (s.size : Int) := by omega
              have hie := fun w => ix_bt (P := Tryd.prog) Tryd.underlying9 s e hl2 w
              by_cases hb : bt s e = 32
              · have c2 : (bt s e != 32) = false := by simp [hb]
                have hk : enK s i = e := enK_is he1 he2 HN.out (.inr hb)
                clear HN
                go_wp2_with fail
                go_meet
                exact ⟨by rw [hk], by omega, rfl⟩
              · have c2 : (bt s e != 32) = true := by simp [hb]
                have HN2 : Hid (∀ j, i ≤ j → j < e + 1 → bt s j ≠ 32) := fun j h1 h2 => by
                  by_cases h3 : j = e
                  · rw [h3]; exact hb
                  · exact HN.out j h1 (by omega)
                clear HN
                go_wp2
                go_roundw
                case rel => exact ⟨e + 1, by go_num, by omega, by omega, HN2, trivial⟩
                case measure => simp [intOf]; omega
            · have k1 : ¬ (e : Int) < (s.size : Int) := by omega
              have hk : enK s i = e := enK_is he1 he2 HN.out (.inl (by omega))
              clear HN
              go_wp2_with fail
              go_meet
              exact ⟨by rw [hk], by omega, rfl⟩
        case rest =>
          obtain ⟨rfl, hesz, hw⟩ := hcut
          have hw' := hw.symm
          clear hw
          subst hw'
          generalize enK s i = e at *
          have hE : (match wsT (i, s.extract i e) st with | .error q => .error q | .ok s' => wsL s.size (tks s e) s') = V := hE0
          clear hE0
          have htz : (s.extract i e).size ≤ 200 := by simp only [ByteArray.size_extract]; omega
          have je1 : (i : Int) ≤ (e : Int) := by omega
          have je2 : (e : Int) ≤ (s.size : Int) := by omega
          go_upto_region 15 with fail
          generalize s.extract i e = t at *
          have HE : Hid ((match wsT (i, t) st with | .error q => .error q | .ok s' => wsL s.size (tks s e) s') = V) := hE
          clear hE
          have kO := sOdd t wM (by omega)
          have hle := oddU_le (bt t) t.size
          have hsg := oddU_sign (bt t) t.size 0 0
          have hok := fun s' => wsT_ok (q := (i, t)) (s' := s') HOk.out
          have H1 : Hid (0 ≤ (oddU (bt t) t.size 0 0).1 → wsT (i, t) st = .error (3, (i : Int) + (oddU (bt t) t.size 0 0).1)) := fun h => wsT_1 h
          have H2 : Hid ((oddU (bt t) t.size 0 0).1 < 0 → isW t = true → (nxP t ≤ st.p ∨ st.many = 0) → wsT (i, t) st = .error (1, (i : Int))) := fun h h1 h2 => wsT_2 h h1 h2
          have H3 : Hid ((oddU (bt t) t.size 0 0).1 < 0 → isW t = true → ¬ (nxP t ≤ st.p ∨ st.many = 0) → wsT (i, t) st = .ok { st with p := nxP t }) := fun h h1 h2 => wsT_3 h h1 h2
          have H4 : Hid ((oddU (bt t) t.size 0 0).1 < 0 → ¬ isW t = true → st.p = 0 → wsT (i, t) st = .error (1, (i : Int))) := fun h h1 h2 => wsT_4 h h1 h2
          have H5 : Hid ((oddU (bt t) t.size 0 0).1 < 0 → ¬ isW t = true → ¬ st.p = 0 → (12 < (oddU (bt t) t.size 0 0).2 ∨ st.many = 6) → wsT (i, t) st = .error (2, (i : Int))) := fun h h1 h2 h3 => wsT_5 h h1 h2 h3
          have H6 : Hid ((oddU (bt t) t.size 0 0).1 < 0 → ¬ isW t = true → ¬ st.p = 0 → ¬ (12 < (oddU (bt t) t.size 0 0).2 ∨ st.many = 6) → inS (gS st.cur) t st.cur.length = true → wsT (i, t) st = .error (4, (i : Int))) := fun h h1 h2 h3 h4 => wsT_6 h h1 h2 h3 h4
          have H7 : Hid ((oddU (bt t) t.size 0 0).1 < 0 → ¬ isW t = true → ¬ st.p = 0 → ¬ (12 < (oddU (bt t) t.size 0 0).2 ∨ st.many = 6) → ¬ inS (gS st.cur) t st.cur.length = true → wsT (i, t) st = .ok (addW st t)) := fun h h1 h2 h3 h4 => wsT_7 h h1 h2 h3 h4
          generalize (oddU (bt t) t.size 0 0).1 = O at *
          generalize (oddU (bt t) t.size 0 0).2 = RC at *
          generalize wsT (i, t) st = r at *
          have hBM := HBr.out
          have hWM := HWr.out
          go_wp2_with fail
          refine kO.mono ?_
          rintro e9 w9 ⟨rfl, hw⟩
          have hw' := hw.symm
          clear hw kO
          subst hw'
          by_cases hO : 0 ≤ O
          · have c1 : (0 : Int) ≤ O := hO
            have hv : (.error (3, (i : Int) + O) : Except (Nat × Int) WS) = V := by have h9 := HE.out; rw [H1.out hO] at h9; exact h9
            subst hv
            clear HE H1 H2 H3 H4 H5 H6 H7 hok HR HBr HWr HOk
            have kB := sBad 3 ((i : Int) + O) wM
            go_wp2_with fail
            refine kB.mono ?_
            rintro e w9 ⟨rfl, hb9⟩
            have bR9 := hBM.on hb9
            have hW9 := (hWM).trans (hb9.mono (hWM).size)
            have y0 := bR9.c0
            have y1 := bR9.c1
            have y2 := bR9.c2
            have y3 := bR9.c3
            have f0 := bR9.fz 0
            have f1 := bR9.fz 1
            have f2 := bR9.fz 2
            have f3 := bR9.fz 3
            have yl := bR9.lt
            have hO9 := ((((Only.refl w.heap.size w9).set 0 (.slice none 0 0)).set 1 (.slice none 0 0)).set 2 (.int .i64 3)).set 3 (.int .i64 ((i : Int) + O))
            have rE := (((bR9.set 0 (by simp) (.slice none 0 0)).set 1 (by simp) (.slice none 0 0)).set 2 (by simp) (.int .i64 3)).set 3 (by simp) (.int .i64 ((i : Int) + O))
            have hB9 := hW9.trans hO9.below
            clear kB hb9 hW9 hO9 bR9
            go_wp2
            refine ret_wrd Tryd.results11 rfl rE.c0 rE.c1 rE.c2 rE.c3 rfl ?_
            exact ⟨ansSr_bad _ 3 ((i : Int) + O), hB9⟩
          · have hO1 : O = -1 := by omega
            subst hO1
            by_cases hW : isW t = true
            · rcases isW_of hW with ht | ht
              · subst ht
                have eR : (wdR.toList == [114, 101, 97, 99, 104]) = true := by simp [ByteArray.toList_eq, wdR]
                have eA : (wdR.toList == [97, 118, 111, 105, 100]) = false := by simp [ByteArray.toList_eq, wdR]
                have hnx : nxP wdR = 1 := nx_R
                rw [hnx] at H2 H3
                by_cases c1 : 1 ≤ st.p
                · have c2 : (1 : Int) ≤ (st.p : Int) := by omega
                  have hv : (.error (1, (i : Int)) : Except (Nat × Int) WS) = V := by have h9 := HE.out; rw [H2.out (by omega) hW (.inl c1)] at h9; exact h9
                  subst hv
                  clear HE H1 H2 H3 H4 H5 H6 H7 hok HR HBr HWr HOk
                  have kB := sBad 1 ((i : Int)) wM
                  go_wp2_with fail
                  refine kB.mono ?_
                  rintro e w9 ⟨rfl, hb9⟩
                  have bR9 := hBM.on hb9
                  have hW9 := (hWM).trans (hb9.mono (hWM).size)
                  have y0 := bR9.c0
                  have y1 := bR9.c1
                  have y2 := bR9.c2
                  have y3 := bR9.c3
                  have f0 := bR9.fz 0
                  have f1 := bR9.fz 1
                  have f2 := bR9.fz 2
                  have f3 := bR9.fz 3
                  have yl := bR9.lt
                  have hO9 := ((((Only.refl w.heap.size w9).set 0 (.slice none 0 0)).set 1 (.slice none 0 0)).set 2 (.int .i64 1)).set 3 (.int .i64 ((i : Int)))
                  have rE := (((bR9.set 0 (by simp) (.slice none 0 0)).set 1 (by simp) (.slice none 0 0)).set 2 (by simp) (.int .i64 1)).set 3 (by simp) (.int .i64 ((i : Int)))
                  have hB9 := hW9.trans hO9.below
                  clear kB hb9 hW9 hO9 bR9
                  go_wp2
                  refine ret_wrd Tryd.results11 rfl rE.c0 rE.c1 rE.c2 rE.c3 rfl ?_
                  exact ⟨ansSr_bad _ 1 ((i : Int)), hB9⟩
                · have c2 : ¬ (1 : Int) ≤ (st.p : Int) := by omega
                  by_cases c3 : st.many = 0
                  · have c4 : ((st.many : Int) == 0) = true := by rw [c3]; rfl
                    have hv : (.error (1, (i : Int)) : Except (Nat × Int) WS) = V := by have h9 := HE.out; rw [H2.out (by omega) hW (.inr c3)] at h9; exact h9
                    subst hv
                    clear HE H1 H2 H3 H4 H5 H6 H7 hok HR HBr HWr HOk
                    have kB := sBad 1 ((i : Int)) wM
                    go_wp2_with fail
                    refine kB.mono ?_
                    rintro e w9 ⟨rfl, hb9⟩
                    have bR9 := hBM.on hb9
                    have hW9 := (hWM).trans (hb9.mono (hWM).size)
                    have y0 := bR9.c0
                    have y1 := bR9.c1
                    have y2 := bR9.c2
                    have y3 := bR9.c3
                    have f0 := bR9.fz 0
                    have f1 := bR9.fz 1
                    have f2 := bR9.fz 2
                    have f3 := bR9.fz 3
                    have yl := bR9.lt
                    have hO9 := ((((Only.refl w.heap.size w9).set 0 (.slice none 0 0)).set 1 (.slice none 0 0)).set 2 (.int .i64 1)).set 3 (.int .i64 ((i : Int)))
                    have rE := (((bR9.set 0 (by simp) (.slice none 0 0)).set 1 (by simp) (.slice none 0 0)).set 2 (by simp) (.int .i64 1)).set 3 (by simp) (.int .i64 ((i : Int)))
                    have hB9 := hW9.trans hO9.below
                    clear kB hb9 hW9 hO9 bR9
                    go_wp2
                    refine ret_wrd Tryd.results11 rfl rE.c0 rE.c1 rE.c2 rE.c3 rfl ?_
                    exact ⟨ansSr_bad _ 1 ((i : Int)), hB9⟩
                  · have c4 : ((st.many : Int) == 0) = false := beq_eq_false_iff_ne.2 (by omega)
                    have hr := H3.out (by omega) hW (fun h => h.elim c1 c3)
                    have HE2 : Hid (wsL s.size (tks s e) { st with p := 1 } = V) := by have h9 := HE.out; rw [hr] at h9; exact h9
                    have HO2 : Hid (WsOk { st with p := 1 }) := hok _ hr
                    have HM0 : Hid (WS.many { st with p := 1 } = 0) := many_word HOk.out c1 (by omega) (by omega)
                    have HR2 : Hid (∃ ra rc aa ac, Rs wM D b0 { st with p := 1 } ra rc aa ac) := by obtain ⟨ra, rc, aa, ac, h⟩ := HR.out; exact ⟨ra, rc, aa, ac, h.lb, h.bx, h.r, h.a, h.ne⟩
                    clear HE H1 H2 H3 H4 H5 H6 H7 hok hr hBM hWM HR HOk
                    go_wp2
                    go_roundw
                    case rel => exact ⟨e, { st with p := 1 }, hesz, rfl, by rw [HM0.out]; rfl, rfl, HR2, HBr, HWr, HO2, HE2⟩
                    case measure => simp [intOf]; omega
              · subst ht
                have eR : (wdA.toList == [114, 101, 97, 99, 104]) = false := by simp [ByteArray.toList_eq, wdA]
                have eA : (wdA.toList == [97, 118, 111, 105, 100]) = true := by simp [ByteArray.toList_eq, wdA]
                have hnx : nxP wdA = 2 := nx_A
                rw [hnx] at H2 H3
                by_cases c1 : 2 ≤ st.p
                · have c2 : (2 : Int) ≤ (st.p : Int) := by omega
                  have hv : (.error (1, (i : Int)) : Except (Nat × Int) WS) = V := by have h9 := HE.out; rw [H2.out (by omega) hW (.inl c1)] at h9; exact h9
                  subst hv
                  clear HE H1 H2 H3 H4 H5 H6 H7 hok HR HBr HWr HOk
                  have kB := sBad 1 ((i : Int)) wM
                  go_wp2_with fail
                  refine kB.mono ?_
                  rintro e w9 ⟨rfl, hb9⟩
                  have bR9 := hBM.on hb9
                  have hW9 := (hWM).trans (hb9.mono (hWM).size)
                  have y0 := bR9.c0
                  have y1 := bR9.c1
                  have y2 := bR9.c2
                  have y3 := bR9.c3
                  have f0 := bR9.fz 0
                  have f1 := bR9.fz 1
                  have f2 := bR9.fz 2
                  have f3 := bR9.fz 3
                  have yl := bR9.lt
                  have hO9 := ((((Only.refl w.heap.size w9).set 0 (.slice none 0 0)).set 1 (.slice none 0 0)).set 2 (.int .i64 1)).set 3 (.int .i64 ((i : Int)))
                  have rE := (((bR9.set 0 (by simp) (.slice none 0 0)).set 1 (by simp) (.slice none 0 0)).set 2 (by simp) (.int .i64 1)).set 3 (by simp) (.int .i64 ((i : Int)))
                  have hB9 := hW9.trans hO9.below
                  clear kB hb9 hW9 hO9 bR9
                  go_wp2
                  refine ret_wrd Tryd.results11 rfl rE.c0 rE.c1 rE.c2 rE.c3 rfl ?_
                  exact ⟨ansSr_bad _ 1 ((i : Int)), hB9⟩
                · have c2 : ¬ (2 : Int) ≤ (st.p : Int) := by omega
                  by_cases c3 : st.many = 0
                  · have c4 : ((st.many : Int) == 0) = true := by rw [c3]; rfl
                    have hv : (.error (1, (i : Int)) : Except (Nat × Int) WS) = V := by have h9 := HE.out; rw [H2.out (by omega) hW (.inr c3)] at h9; exact h9
                    subst hv
                    clear HE H1 H2 H3 H4 H5 H6 H7 hok HR HBr HWr HOk
                    have kB := sBad 1 ((i : Int)) wM
                    go_wp2_with fail
                    refine kB.mono ?_
                    rintro e w9 ⟨rfl, hb9⟩
                    have bR9 := hBM.on hb9
                    have hW9 := (hWM).trans (hb9.mono (hWM).size)
                    have y0 := bR9.c0
                    have y1 := bR9.c1
                    have y2 := bR9.c2
                    have y3 := bR9.c3
                    have f0 := bR9.fz 0
                    have f1 := bR9.fz 1
                    have f2 := bR9.fz 2
                    have f3 := bR9.fz 3
                    have yl := bR9.lt
                    have hO9 := ((((Only.refl w.heap.size w9).set 0 (.slice none 0 0)).set 1 (.slice none 0 0)).set 2 (.int .i64 1)).set 3 (.int .i64 ((i : Int)))
                    have rE := (((bR9.set 0 (by simp) (.slice none 0 0)).set 1 (by simp) (.slice none 0 0)).set 2 (by simp) (.int .i64 1)).set 3 (by simp) (.int .i64 ((i : Int)))
                    have hB9 := hW9.trans hO9.below
                    clear kB hb9 hW9 hO9 bR9
                    go_wp2
                    refine ret_wrd Tryd.results11 rfl rE.c0 rE.c1 rE.c2 rE.c3 rfl ?_
                    exact ⟨ansSr_bad _ 1 ((i : Int)), hB9⟩
                  · have c4 : ((st.many : Int) == 0) = false := beq_eq_false_iff_ne.2 (by omega)
                    have hr := H3.out (by omega) hW (fun h => h.elim c1 c3)
                    have HE2 : Hid (wsL s.size (tks s e) { st with p := 2 } = V) := by have h9 := HE.out; rw [hr] at h9; exact h9
                    have HO2 : Hid (WsOk { st with p := 2 }) := hok _ hr
                    have HM0 : Hid (WS.many { st with p := 2 } = 0) := many_word HOk.out c1 (by omega) (by omega)
                    have HR2 : Hid (∃ ra rc aa ac, Rs wM D b0 { st with p := 2 } ra rc aa ac) := by obtain ⟨ra, rc, aa, ac, h⟩ := HR.out; exact ⟨ra, rc, aa, ac, h.lb, h.bx, h.r, h.a, h.ne⟩
                    clear HE H1 H2 H3 H4 H5 H6 H7 hok hr hBM hWM HR HOk
                    go_wp2
                    go_roundw
                    case rel => exact ⟨e, { st with p := 2 }, hesz, rfl, by rw [HM0.out]; rfl, rfl, HR2, HBr, HWr, HO2, HE2⟩
                    case measure => simp [intOf]; omega
            · have hW2 : isW t = false := by simpa using hW
              unfold isW at hW2
              rw [Bool.or_eq_false_iff] at hW2
              obtain ⟨eR, eA⟩ := hW2
              have nR : ¬ t.toList = [114, 101, 97, 99, 104] := by simpa using eR
              have nA : ¬ t.toList = [97, 118, 111, 105, 100] := by simpa using eA
              by_cases c0 : st.p = 0
              · have d0 : ((st.p : Int) == 0) = true := by rw [c0]; rfl
                have hv : (.error (1, (i : Int)) : Except (Nat × Int) WS) = V := by have h9 := HE.out; rw [H4.out (by omega) hW c0] at h9; exact h9
                subst hv
                clear HE H1 H2 H3 H4 H5 H6 H7 hok HR HBr HWr HOk
                have kB := sBad 1 ((i : Int)) wM
                go_wp2_with fail
                refine kB.mono ?_
                rintro e w9 ⟨rfl, hb9⟩
                have bR9 := hBM.on hb9
                have hW9 := (hWM).trans (hb9.mono (hWM).size)
                have y0 := bR9.c0
                have y1 := bR9.c1
                have y2 := bR9.c2
                have y3 := bR9.c3
                have f0 := bR9.fz 0
                have f1 := bR9.fz 1
                have f2 := bR9.fz 2
                have f3 := bR9.fz 3
                have yl := bR9.lt
                have hO9 := ((((Only.refl w.heap.size w9).set 0 (.slice none 0 0)).set 1 (.slice none 0 0)).set 2 (.int .i64 1)).set 3 (.int .i64 ((i : Int)))
                have rE := (((bR9.set 0 (by simp) (.slice none 0 0)).set 1 (by simp) (.slice none 0 0)).set 2 (by simp) (.int .i64 1)).set 3 (by simp) (.int .i64 ((i : Int)))
                have hB9 := hW9.trans hO9.below
                clear kB hb9 hW9 hO9 bR9
                go_wp2
                refine ret_wrd Tryd.results11 rfl rE.c0 rE.c1 rE.c2 rE.c3 rfl ?_
                exact ⟨ansSr_bad _ 1 ((i : Int)), hB9⟩
              · have d0 : ((st.p : Int) == 0) = false := beq_eq_false_iff_ne.2 (by omega)
                by_cases c1 : 12 < RC
                · skip
                  have hv : (.error (2, (i : Int)) : Except (Nat × Int) WS) = V := by have h9 := HE.out; rw [H5.out (by omega) hW c0 (.inl c1)] at h9; exact h9
                  subst hv
                  clear HE H1 H2 H3 H4 H5 H6 H7 hok HR HBr HWr HOk
                  have kB := sBad 2 ((i : Int)) wM
                  go_wp2_with fail
                  refine kB.mono ?_
                  rintro e w9 ⟨rfl, hb9⟩
                  have bR9 := hBM.on hb9
                  have hW9 := (hWM).trans (hb9.mono (hWM).size)
                  have y0 := bR9.c0
                  have y1 := bR9.c1
                  have y2 := bR9.c2
                  have y3 := bR9.c3
                  have f0 := bR9.fz 0
                  have f1 := bR9.fz 1
                  have f2 := bR9.fz 2
                  have f3 := bR9.fz 3
                  have yl := bR9.lt
                  have hO9 := ((((Only.refl w.heap.size w9).set 0 (.slice none 0 0)).set 1 (.slice none 0 0)).set 2 (.int .i64 2)).set 3 (.int .i64 ((i : Int)))
                  have rE := (((bR9.set 0 (by simp) (.slice none 0 0)).set 1 (by simp) (.slice none 0 0)).set 2 (by simp) (.int .i64 2)).set 3 (by simp) (.int .i64 ((i : Int)))
                  have hB9 := hW9.trans hO9.below
                  clear kB hb9 hW9 hO9 bR9
                  go_wp2
                  refine ret_wrd Tryd.results11 rfl rE.c0 rE.c1 rE.c2 rE.c3 rfl ?_
                  exact ⟨ansSr_bad _ 2 ((i : Int)), hB9⟩
                · by_cases c2 : st.many = 6
                  · have d2 : ((st.many : Int) == 6) = true := by rw [c2]; rfl
                    have hv : (.error (2, (i : Int)) : Except (Nat × Int) WS) = V := by have h9 := HE.out; rw [H5.out (by omega) hW c0 (.inr c2)] at h9; exact h9
                    subst hv
                    clear HE H1 H2 H3 H4 H5 H6 H7 hok HR HBr HWr HOk
                    have kB := sBad 2 ((i : Int)) wM
                    go_wp2_with fail
                    refine kB.mono ?_
                    rintro e w9 ⟨rfl, hb9⟩
                    have bR9 := hBM.on hb9
                    have hW9 := (hWM).trans (hb9.mono (hWM).size)
                    have y0 := bR9.c0
                    have y1 := bR9.c1
                    have y2 := bR9.c2
                    have y3 := bR9.c3
                    have f0 := bR9.fz 0
                    have f1 := bR9.fz 1
                    have f2 := bR9.fz 2
                    have f3 := bR9.fz 3
                    have yl := bR9.lt
                    have hO9 := ((((Only.refl w.heap.size w9).set 0 (.slice none 0 0)).set 1 (.slice none 0 0)).set 2 (.int .i64 2)).set 3 (.int .i64 ((i : Int)))
                    have rE := (((bR9.set 0 (by simp) (.slice none 0 0)).set 1 (by simp) (.slice none 0 0)).set 2 (by simp) (.int .i64 2)).set 3 (by simp) (.int .i64 ((i : Int)))
                    have hB9 := hW9.trans hO9.below
                    clear kB hb9 hW9 hO9 bR9
                    go_wp2
                    refine ret_wrd Tryd.results11 rfl rE.c0 rE.c1 rE.c2 rE.c3 rfl ?_
                    exact ⟨ansSr_bad _ 2 ((i : Int)), hB9⟩
                  · have d2 : ((st.many : Int) == 6) = false := beq_eq_false_iff_ne.2 (by omega)
                    have d6 : ¬ (12 < RC ∨ st.many = 6) := fun h => h.elim c1 c2
                    obtain ⟨ra, rc, aa, ac, hRs⟩ := HR.out
                    have y0 := hRs.bx.c0
                    have y1 := hRs.bx.c1
                    have yl := hRs.bx.lt
                    have hb0 := hRs.lb.2
                    have hbD := hRs.lb.1
                    by_cases c3 : st.p = 2
                    · have d3 : ((st.p : Int) == 2) = true := by rw [c3]; rfl
                      have hcu : st.cur = st.A := by unfold WS.cur; rw [if_pos c3]
                      have hln : st.A.length ≤ 6 := HOk.out.a
                      rw [hcu] at H6 H7
                      have kI := sIn aa st.A.length ac (gS st.A) t wM (by omega) hRs.a.sl
                      cases hin : inS (gS st.A) t st.A.length with
                      | true =>
                        rw [hin] at kI
                        have hr := H6.out (by omega) hW c0 d6 hin
                        have hv : (.error (4, (i : Int)) : Except (Nat × Int) WS) = V := by have h9 := HE.out; rw [hr] at h9; exact h9
                        subst hv
                        clear HE H1 H2 H3 H4 H5 H6 H7 hok HR HBr HWr HOk hRs hr hin
                        go_wp2_with fail
                        refine kI.mono ?_
                        rintro e9 w9 ⟨rfl, hw⟩
                        have hw' := hw.symm
                        clear hw kI y0 y1
                        subst hw'
                        have kB := sBad 4 ((i : Int)) wM
                        go_wp2_with fail
                        refine kB.mono ?_
                        rintro e w9 ⟨rfl, hb9⟩
                        have bR9 := hBM.on hb9
                        have hW9 := (hWM).trans (hb9.mono (hWM).size)
                        have y0 := bR9.c0
                        have y1 := bR9.c1
                        have y2 := bR9.c2
                        have y3 := bR9.c3
                        have f0 := bR9.fz 0
                        have f1 := bR9.fz 1
                        have f2 := bR9.fz 2
                        have f3 := bR9.fz 3
                        have yl := bR9.lt
                        have hO9 := ((((Only.refl w.heap.size w9).set 0 (.slice none 0 0)).set 1 (.slice none 0 0)).set 2 (.int .i64 4)).set 3 (.int .i64 ((i : Int)))
                        have rE := (((bR9.set 0 (by simp) (.slice none 0 0)).set 1 (by simp) (.slice none 0 0)).set 2 (by simp) (.int .i64 4)).set 3 (by simp) (.int .i64 ((i : Int)))
                        have hB9 := hW9.trans hO9.below
                        clear kB hb9 hW9 hO9 bR9
                        go_wp2
                        refine ret_wrd Tryd.results11 rfl rE.c0 rE.c1 rE.c2 rE.c3 rfl ?_
                        exact ⟨ansSr_bad _ 4 ((i : Int)), hB9⟩
                      | false =>
                        rw [hin] at kI
                        have hr := H7.out (by omega) hW c0 d6 (by rw [hin]; simp)
                        have HE2 : Hid (wsL s.size (tks s e) (addW st t) = V) := by have h9 := HE.out; rw [hr] at h9; exact h9
                        have HO2 : Hid (WsOk (addW st t)) := hok _ hr
                        have HM2 : Hid ((addW st t).many = st.many + 1 ∧ (addW st t).p = st.p) := many_add c0 t
                        clear HE H1 H2 H3 H4 H5 H6 H7 hok hr hin HR HBr HWr HOk hcu
                        go_wp2_with fail
                        refine kI.mono ?_
                        rintro e9 w9 ⟨rfl, hw⟩
                        have hw' := hw.symm
                        clear hw kI
                        subst hw'
                        go_wp2_with (at_builtin; go_loud (refine wpList_append_own_at (P := Tryd.prog) _ rfl _ _ 23 rfl b0 9 i0 (.string ⟨#[]⟩) 1 16 Tryd.underlying23 hi0 hz0 hz1 hz2 rfl (by decide) (.slice aa st.A.length ac) st.A.length (st.A.map Value.string) rfl (World.ownsRow.alloc hRs.a _) ⟨wM.heap.size, 0, none⟩ 1 1 [.string t] rfl rfl (cell_one_new _ _ _) (fun u hu => by simp at hu; subst hu; rfl) (by unfold maxLen; omega) (by omega) (by simp only [size_al]; omega) ?_); intro v8 wq hown8 hgr8 _ hat8; obtain ⟨ya, yc, rfl, hbx8, hfin⟩ := hRs.app2 (t := t) c3 hown8 hgr8 hat8; have u0 := hbx8.c0; have u1 := hbx8.c1; have ul := hbx8.lt; have fz := hbx8.fz 1)
                        have HR2 : Hid (∃ ra rc aa ac, Rs (wq.setCell ⟨D, 1, none⟩ (.slice ya (st.A.length + 1) yc)) D b0 (addW st t) ra rc aa ac) := hfin
                        have hO8 := (Only.refl D wq).set 1 (.slice ya (st.A.length + 1) yc)
                        have hBq : Below b0 wM wq := ((Below.refl b0 wM).alloc hb0 _).grown hgr8 (by simp only [size_al]; omega) (fun q hq => (World.ownsRow.lt hRs.a q hq).1)
                        have HB2 : Hid (Bx (wq.setCell ⟨D, 1, none⟩ (.slice ya (st.A.length + 1) yc)) w.heap.size [.slice none 0 0, .slice none 0 0, .int .i64 0, .int .i64 0]) := ((hBM.below hBq (by omega)).below hO8.below (by omega))
                        have HW2 : Hid (Below w.heap.size w (wq.setCell ⟨D, 1, none⟩ (.slice ya (st.A.length + 1) yc))) := hWM.trans ((hBq.mono (by omega)).trans (hO8.below.mono (by omega)))
                        go_roundw
                        case rel => exact ⟨e, addW st t, hesz, by rw [HM2.out.2]; simp [c3], by rw [HM2.out.1]; go_num, rfl, HR2, HB2, HW2, HO2, HE2⟩
                        case measure => simp [intOf]; omega
                    · have d3 : ((st.p : Int) == 2) = false := beq_eq_false_iff_ne.2 (by omega)
                      have hcu : st.cur = st.R := by unfold WS.cur; rw [if_neg c3]
                      have c4 : st.p = 1 := by omega
                      have hln : st.R.length ≤ 6 := HOk.out.r
                      rw [hcu] at H6 H7
                      have kI := sIn ra st.R.length rc (gS st.R) t wM (by omega) hRs.r.sl
                      cases hin : inS (gS st.R) t st.R.length with
                      | true =>
                        rw [hin] at kI
                        have hr := H6.out (by omega) hW c0 d6 hin
                        have hv : (.error (4, (i : Int)) : Except (Nat × Int) WS) = V := by have h9 := HE.out; rw [hr] at h9; exact h9
                        subst hv
                        clear HE H1 H2 H3 H4 H5 H6 H7 hok HR HBr HWr HOk hRs hr hin
                        go_wp2_with fail
                        refine kI.mono ?_
                        rintro e9 w9 ⟨rfl, hw⟩
                        have hw' := hw.symm
                        clear hw kI y0 y1
                        subst hw'
                        have kB := sBad 4 ((i : Int)) wM
                        go_wp2_with fail
                        refine kB.mono ?_
                        rintro e w9 ⟨rfl, hb9⟩
                        have bR9 := hBM.on hb9
                        have hW9 := (hWM).trans (hb9.mono (hWM).size)
                        have y0 := bR9.c0
                        have y1 := bR9.c1
                        have y2 := bR9.c2
                        have y3 := bR9.c3
                        have f0 := bR9.fz 0
                        have f1 := bR9.fz 1
                        have f2 := bR9.fz 2
                        have f3 := bR9.fz 3
                        have yl := bR9.lt
                        have hO9 := ((((Only.refl w.heap.size w9).set 0 (.slice none 0 0)).set 1 (.slice none 0 0)).set 2 (.int .i64 4)).set 3 (.int .i64 ((i : Int)))
                        have rE := (((bR9.set 0 (by simp) (.slice none 0 0)).set 1 (by simp) (.slice none 0 0)).set 2 (by simp) (.int .i64 4)).set 3 (by simp) (.int .i64 ((i : Int)))
                        have hB9 := hW9.trans hO9.below
                        clear kB hb9 hW9 hO9 bR9
                        go_wp2
                        refine ret_wrd Tryd.results11 rfl rE.c0 rE.c1 rE.c2 rE.c3 rfl ?_
                        exact ⟨ansSr_bad _ 4 ((i : Int)), hB9⟩
                      | false =>
                        rw [hin] at kI
                        have hr := H7.out (by omega) hW c0 d6 (by rw [hin]; simp)
                        have HE2 : Hid (wsL s.size (tks s e) (addW st t) = V) := by have h9 := HE.out; rw [hr] at h9; exact h9
                        have HO2 : Hid (WsOk (addW st t)) := hok _ hr
                        have HM2 : Hid ((addW st t).many = st.many + 1 ∧ (addW st t).p = st.p) := many_add c0 t
                        clear HE H1 H2 H3 H4 H5 H6 H7 hok hr hin HR HBr HWr HOk hcu
                        go_wp2_with fail
                        refine kI.mono ?_
                        rintro e9 w9 ⟨rfl, hw⟩
                        have hw' := hw.symm
                        clear hw kI
                        subst hw'
                        go_wp2_with (at_builtin; go_loud (refine wpList_append_own_at (P := Tryd.prog) _ rfl _ _ 23 rfl b0 9 i0 (.string ⟨#[]⟩) 1 16 Tryd.underlying23 hi0 hz0 hz1 hz2 rfl (by decide) (.slice ra st.R.length rc) st.R.length (st.R.map Value.string) rfl (World.ownsRow.alloc hRs.r _) ⟨wM.heap.size, 0, none⟩ 1 1 [.string t] rfl rfl (cell_one_new _ _ _) (fun u hu => by simp at hu; subst hu; rfl) (by unfold maxLen; omega) (by omega) (by simp only [size_al]; omega) ?_); intro v8 wq hown8 hgr8 _ hat8; obtain ⟨ya, yc, rfl, hbx8, hfin⟩ := hRs.app1 (t := t) c4 hown8 hgr8 hat8; have u0 := hbx8.c0; have u1 := hbx8.c1; have ul := hbx8.lt; have fz := hbx8.fz 0)
                        have HR2 : Hid (∃ ra rc aa ac, Rs (wq.setCell ⟨D, 0, none⟩ (.slice ya (st.R.length + 1) yc)) D b0 (addW st t) ra rc aa ac) := hfin
                        have hO8 := (Only.refl D wq).set 0 (.slice ya (st.R.length + 1) yc)
                        have hBq : Below b0 wM wq := ((Below.refl b0 wM).alloc hb0 _).grown hgr8 (by simp only [size_al]; omega) (fun q hq => (World.ownsRow.lt hRs.r q hq).1)
                        have HB2 : Hid (Bx (wq.setCell ⟨D, 0, none⟩ (.slice ya (st.R.length + 1) yc)) w.heap.size [.slice none 0 0, .slice none 0 0, .int .i64 0, .int .i64 0]) := ((hBM.below hBq (by omega)).below hO8.below (by omega))
                        have HW2 : Hid (Below w.heap.size w (wq.setCell ⟨D, 0, none⟩ (.slice ya (st.R.length + 1) yc))) := hWM.trans ((hBq.mono (by omega)).trans (hO8.below.mono (by omega)))
                        go_roundw
                        case rel => exact ⟨e, addW st t, hesz, by rw [HM2.out.2]; simp [c4], by rw [HM2.out.1]; go_num, rfl, HR2, HB2, HW2, HO2, HE2⟩
                        case measure => simp [intOf]; omega
    · have hin : i = s.size := by omega
      have j1 : ¬ (i : Int) < (s.size : Int) := by omega
      have hE := HE.out
      rw [tks_end hlt] at hE
      unfold wsL at hE
      have hBM := HBr.out
      have hWM := HWr.out
      obtain ⟨ra, rc, aa, ac, hRs⟩ := HR.out
      clear HE HBr HWr HR
      by_cases c1 : st.many = 0
      · have c2 : ((st.many : Int) == 0) = true := by rw [c1]; rfl
        rw [if_pos c1] at hE
        subst hE
        clear hRs HOk
        have kB := sBad 2 ((s.size : Int)) wM
        go_wp2_with fail
        refine kB.mono ?_
        rintro e w9 ⟨rfl, hb9⟩
        have bR9 := hBM.on hb9
        have hW9 := (hWM).trans (hb9.mono (hWM).size)
        have y0 := bR9.c0
        have y1 := bR9.c1
        have y2 := bR9.c2
        have y3 := bR9.c3
        have f0 := bR9.fz 0
        have f1 := bR9.fz 1
        have f2 := bR9.fz 2
        have f3 := bR9.fz 3
        have yl := bR9.lt
        have hO9 := ((((Only.refl w.heap.size w9).set 0 (.slice none 0 0)).set 1 (.slice none 0 0)).set 2 (.int .i64 2)).set 3 (.int .i64 ((s.size : Int)))
        have rE := (((bR9.set 0 (by simp) (.slice none 0 0)).set 1 (by simp) (.slice none 0 0)).set 2 (by simp) (.int .i64 2)).set 3 (by simp) (.int .i64 ((s.size : Int)))
        have hB9 := hW9.trans hO9.below
        clear kB hb9 hW9 hO9 bR9
        go_wp2
        refine ret_wrd Tryd.results11 rfl rE.c0 rE.c1 rE.c2 rE.c3 rfl ?_
        exact ⟨ansSr_bad _ 2 ((s.size : Int)), hB9⟩
      · have c2 : ((st.many : Int) == 0) = false := beq_eq_false_iff_ne.2 (by omega)
        rw [if_neg c1] at hE
        subst hE
        have y0 := hRs.bx.c0
        have y1 := hRs.bx.c1
        have yl := hRs.bx.lt
        have hbD := hRs.lb.1
        have x0 := hBM.c0
        have x1 := hBM.c1
        have x2 := hBM.c2
        have x3 := hBM.c3
        have f0 := hBM.fz 0
        have f1 := hBM.fz 1
        have f2 := hBM.fz 2
        have f3 := hBM.fz 3
        have xl := hBM.lt
        have hO9 := ((((Only.refl w.heap.size wM).set 0 (.slice ra st.R.length rc)).set 1 (.slice aa st.A.length ac)).set 2 (.int .i64 0)).set 3 (.int .i64 0)
        have rE := (((hBM.set 0 (by simp) (.slice ra st.R.length rc)).set 1 (by simp) (.slice aa st.A.length ac)).set 2 (by simp) (.int .i64 0)).set 3 (by simp) (.int .i64 0)
        have hB9 := hWM.trans hO9.below
        have hr9 := (hRs.r.same (fun q hq => hO9.block q (by have := (World.ownsRow.lt hRs.r q hq).1; omega))).sl
        have ha9 := (hRs.a.same (fun q hq => hO9.block q (by have := (World.ownsRow.lt hRs.a q hq).1; omega))).sl
        clear hO9 hRs hBM hWM HOk
        go_wp2
        refine ret_wrd Tryd.results11 rfl rE.c0 rE.c1 rE.c2 rE.c3 rfl ?_
        exact ⟨⟨ra, rc, aa, ac, rfl, hr9, ha9⟩, hB9⟩
theorem sr_any (s : ByteArray) (w : World) (hs : s.size ≤ 1048576) :
    Calls Tryd.prog 11 #[.string s] w fun e w' => AnsSr w' e (rwV s) ∧ Below w.heap.size w w' := by
  by_cases h : 200 < s.size
  · exact sr_long s w hs h
  · exact sr_short s w (by omega)
end Go.Proofs.YtmlfijapndkfhaaDoor
