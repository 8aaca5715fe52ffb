/- ReadFrame: the model's side, whole. -/
import Derived.Test.YtplpggcbpcebcaaDoorFcN
namespace Go.Proofs.YtplpggcbpcebcaaDoor
open Go.RowKit
set_option maxRecDepth 20000 in
set_option maxHeartbeats 4000000 in
theorem sRead (s : ByteArray) (w : World) (hs : s.size ≤ 1048576) :
    Calls Tryd.prog 19 #[.string s] w fun e w' => AnsF s w e w' ∧ Below w.heap.size w w' := by
  have hx0 : Below w.heap.size w (w.alloc (frvO 0 none 0 0 24)) := (Below.refl _ _).alloc (Nat.le_refl _) _
  have z1 := bx_new (w := w) (frvL 0 none 0 0) 24 rfl
  have hs1 : (w.alloc (frvO 0 none 0 0 24)).heap.size = w.heap.size + 1 := size_al _ _
  have kB := sBits s (w.alloc (frvO 0 none 0 0 24)) hs
  cases hq : bitB s with
  | false =>
    have hno : ¬ OkS s := fun h => by have := h.b; rw [hq] at this; cases this
    rw [hq] at kB
    go_enter Tryd.func19, Tryd.ntmps19
    go_wp2_with fail
    refine kB.mono ?_
    rintro e w2 ⟨rfl, hw2⟩
    subst hw2
    clear kB
    generalize hw1 : w.alloc (frvO 0 none 0 0 24) = w1 at *
    clear hw1
    have v0 := z1.c0
    have v1 := z1.c1
    have f0 := z1.fz 0
    have f1 := z1.fz 1
    have l6 := z1.lt
    have rE := (z1.set 0 (by simp) (.int .i64 0)).set 1 (by simp) (.slice none 0 0)
    have hBE := (hx0.setCell (p := ⟨w.heap.size, 0, none⟩) (by simp) (.int .i64 0)).setCell (p := ⟨w.heap.size, 1, none⟩) (by simp) (.slice none 0 0)
    go_wp2
    refine ret_frv_tmp Tryd.results19 rfl rE.c0 rE.c1 rfl ?_
    exact ⟨ans_no hno, hBE⟩
  | true =>
    rw [hq] at kB
    by_cases h7 : 7 ≤ s.size
    · have j7 : ¬ (s.size : Int) - 7 < 0 := by omega
      have sl1 : ∀ w : World, (Instr.slice 9 (.string s) (some (.int .i64 ((s.size : Int) - 7))) none none).run Tryd.prog w = .ok (.string (s.extract (s.size - 7) s.size)) w := fun w => by
        rw [run_slice_string_from_if w 9 s .i64 ((s.size : Int) - 7) Tryd.underlying9, if_pos ⟨by omega, by omega⟩, show ((s.size : Int) - 7).toNat = s.size - 7 by omega]
      have sl2 : ∀ w : World, (Instr.slice 9 (.string s) none (some (.int .i64 ((s.size : Int) - 7))) none).run Tryd.prog w = .ok (.string (hdT s)) w := fun w => by
        rw [run_slice_string_to_if w 9 s .i64 ((s.size : Int) - 7) Tryd.underlying9, if_pos ⟨by omega, by omega⟩, show ((s.size : Int) - 7).toNat = s.size - 7 by omega]; rfl
      have hhs : (hdT s).size ≤ 1048576 := by unfold hdT; rw [ByteArray.size_extract]; omega
      by_cases hen : s.extract (s.size - 7) s.size = enT
      · have kU := fun w2 => sUn (hdT s) w2 hhs
        have HE : Hid (s.extract (s.size - 7) s.size = enT) := hen
        obtain ⟨hu1, hu2⟩ := uT_bits (hdT s)
        rw [hen] at sl1
        cases hU : uB (hdT s) with
        | false =>
          have hno : ¬ OkS s := fun h => by have := h.u; rw [hU] at this; cases this
          rw [hU] at kU
          clear hen
          go_enter Tryd.func19, Tryd.ntmps19
          go_wp2_with fail
          refine kB.mono ?_
          rintro e w2 ⟨rfl, hw2⟩
          subst hw2
          clear kB
          generalize hw1 : w.alloc (frvO 0 none 0 0 24) = w1 at *
          clear hw1
          go_wp2_with fail
          refine (kU _).mono ?_
          rintro e w2 ⟨rfl, hb2⟩
          have z2 := z1.on hb2
          have hB2 := stepA hx0 hb2
          have hn2 := hb2.size
          clear kU hb2 z1 hx0
          have v0 := z2.c0
          have v1 := z2.c1
          have f0 := z2.fz 0
          have f1 := z2.fz 1
          have l6 := z2.lt
          have rE := (z2.set 0 (by simp) (.int .i64 0)).set 1 (by simp) (.slice none 0 0)
          have hBE := (hB2.setCell (p := ⟨w.heap.size, 0, none⟩) (by simp) (.int .i64 0)).setCell (p := ⟨w.heap.size, 1, none⟩) (by simp) (.slice none 0 0)
          go_wp2
          refine ret_frv_tmp Tryd.results19 rfl rE.c0 rE.c1 rfl ?_
          exact ⟨ans_no hno, hBE⟩
        | true =>
          rw [hU] at kU
          clear hen
          have eP : uT (hdT s) = plT s := rfl
          rw [eP] at kU hu1 hu2
          clear eP
          by_cases h31 : 31 ≤ (plT s).size
          · have hix := ix_bt (P := Tryd.prog) Tryd.underlying9 (plT s) 0 (by omega)
            have j31 : ¬ ((plT s).size : Int) < 31 := by omega
            rcases hu2 0 (by omega) with hz | hz
            · rw [hz] at hix
              have ix0 : ∀ w : World, (Instr.index 9 (.string (plT s)) (.int .i64 0)).run Tryd.prog w = .ok (.int .u8 48) w := hix
              have kM : ∀ w2 : World, Calls Tryd.prog 42 #[.string (plT s), .int .i64 12, .int .i64 4] w2 fun e w' => e = .returned (.int .i64 (mnK (plT s) : Nat)) ∧ w' = w2 := fun w2 => sTake (plT s) 12 4 w2 (by omega) (by omega) (by omega) hu2
              have kI : ∀ w2 : World, Calls Tryd.prog 42 #[.string (plT s), .int .i64 1, .int .i64 11] w2 fun e w' => e = .returned (.int .i64 (idK (plT s) : Nat)) ∧ w' = w2 := fun w2 => sTake (plT s) 1 11 w2 (by omega) (by omega) (by omega) hu2
              have hid := idK_bd h31 hu2
              have hmb : mnK (plT s) < 16 := nmK_bd 4 (fun i hi => hu2 _ (by omega))
              by_cases hm : mnK (plT s) ≤ 8
              · by_cases hsz : (plT s).size = 31 + 8 * mnK (plT s)
                · exact sReadM s w hs hq h7 HE.out hU h31 hz hm hsz
                · have hno : ¬ OkS s := fun h => hsz h.n
                  generalize mnK (plT s) = M at *
                  generalize plT s = P at *
                  have jm : ¬ (8 : Int) < (M : Int) := by omega
                  have js : ((P.size : Int) != 31 + 8 * (M : Int)) = true := bne_iff_ne.2 (by omega)
                  clear hu2 hix kI hid
                  go_enter Tryd.func19, Tryd.ntmps19
                  go_wp2_with fail
                  refine kB.mono ?_
                  rintro e w2 ⟨rfl, hw2⟩
                  subst hw2
                  clear kB
                  generalize hw1 : w.alloc (frvO 0 none 0 0 24) = w1 at *
                  clear hw1
                  go_wp2_with fail
                  refine (kU _).mono ?_
                  rintro e w2 ⟨rfl, hb2⟩
                  have z2 := z1.on hb2
                  have hB2 := stepA hx0 hb2
                  have hn2 := hb2.size
                  clear kU hb2 z1 hx0
                  go_wp2_with fail
                  refine (kM _).mono ?_
                  rintro e w3 ⟨rfl, hw3⟩
                  have hs3 := hw3.symm
                  clear hw3
                  subst hs3
                  clear kM
                  have v0 := z2.c0
                  have v1 := z2.c1
                  have f0 := z2.fz 0
                  have f1 := z2.fz 1
                  have l6 := z2.lt
                  have rE := (z2.set 0 (by simp) (.int .i64 0)).set 1 (by simp) (.slice none 0 0)
                  have hBE := (hB2.setCell (p := ⟨w.heap.size, 0, none⟩) (by simp) (.int .i64 0)).setCell (p := ⟨w.heap.size, 1, none⟩) (by simp) (.slice none 0 0)
                  go_wp2
                  refine ret_frv_tmp Tryd.results19 rfl rE.c0 rE.c1 rfl ?_
                  exact ⟨ans_no hno, hBE⟩
              · have hno : ¬ OkS s := fun h => hm h.m
                generalize mnK (plT s) = M at *
                generalize plT s = P at *
                have jm : (8 : Int) < (M : Int) := by omega
                clear hu2 hix kI hid
                go_enter Tryd.func19, Tryd.ntmps19
                go_wp2_with fail
                refine kB.mono ?_
                rintro e w2 ⟨rfl, hw2⟩
                subst hw2
                clear kB
                generalize hw1 : w.alloc (frvO 0 none 0 0 24) = w1 at *
                clear hw1
                go_wp2_with fail
                refine (kU _).mono ?_
                rintro e w2 ⟨rfl, hb2⟩
                have z2 := z1.on hb2
                have hB2 := stepA hx0 hb2
                have hn2 := hb2.size
                clear kU hb2 z1 hx0
                go_wp2_with fail
                refine (kM _).mono ?_
                rintro e w3 ⟨rfl, hw3⟩
                have hs3 := hw3.symm
                clear hw3
                subst hs3
                clear kM
                have v0 := z2.c0
                have v1 := z2.c1
                have f0 := z2.fz 0
                have f1 := z2.fz 1
                have l6 := z2.lt
                have rE := (z2.set 0 (by simp) (.int .i64 0)).set 1 (by simp) (.slice none 0 0)
                have hBE := (hB2.setCell (p := ⟨w.heap.size, 0, none⟩) (by simp) (.int .i64 0)).setCell (p := ⟨w.heap.size, 1, none⟩) (by simp) (.slice none 0 0)
                go_wp2
                refine ret_frv_tmp Tryd.results19 rfl rE.c0 rE.c1 rfl ?_
                exact ⟨ans_no hno, hBE⟩
            · have hno : ¬ OkS s := fun h => by have := h.z; rw [hz] at this; cases this
              rw [hz] at hix
              have ix0 : ∀ w : World, (Instr.index 9 (.string (plT s)) (.int .i64 0)).run Tryd.prog w = .ok (.int .u8 49) w := hix
              generalize plT s = P at *
              clear hu2 hix
              go_enter Tryd.func19, Tryd.ntmps19
              go_wp2_with fail
              refine kB.mono ?_
              rintro e w2 ⟨rfl, hw2⟩
              subst hw2
              clear kB
              generalize hw1 : w.alloc (frvO 0 none 0 0 24) = w1 at *
              clear hw1
              go_wp2_with fail
              refine (kU _).mono ?_
              rintro e w2 ⟨rfl, hb2⟩
              have z2 := z1.on hb2
              have hB2 := stepA hx0 hb2
              have hn2 := hb2.size
              clear kU hb2 z1 hx0
              have v0 := z2.c0
              have v1 := z2.c1
              have f0 := z2.fz 0
              have f1 := z2.fz 1
              have l6 := z2.lt
              have rE := (z2.set 0 (by simp) (.int .i64 0)).set 1 (by simp) (.slice none 0 0)
              have hBE := (hB2.setCell (p := ⟨w.heap.size, 0, none⟩) (by simp) (.int .i64 0)).setCell (p := ⟨w.heap.size, 1, none⟩) (by simp) (.slice none 0 0)
              go_wp2
              refine ret_frv_tmp Tryd.results19 rfl rE.c0 rE.c1 rfl ?_
              exact ⟨ans_no hno, hBE⟩
          · have hno : ¬ OkS s := fun h => h31 h.g
            have j31 : ((plT s).size : Int) < 31 := by omega
            generalize plT s = P at *
            clear hu2
            go_enter Tryd.func19, Tryd.ntmps19
            go_wp2_with fail
            refine kB.mono ?_
            rintro e w2 ⟨rfl, hw2⟩
            subst hw2
            clear kB
            generalize hw1 : w.alloc (frvO 0 none 0 0 24) = w1 at *
            clear hw1
            go_wp2_with fail
            refine (kU _).mono ?_
            rintro e w2 ⟨rfl, hb2⟩
            have z2 := z1.on hb2
            have hB2 := stepA hx0 hb2
            have hn2 := hb2.size
            clear kU hb2 z1 hx0
            have v0 := z2.c0
            have v1 := z2.c1
            have f0 := z2.fz 0
            have f1 := z2.fz 1
            have l6 := z2.lt
            have rE := (z2.set 0 (by simp) (.int .i64 0)).set 1 (by simp) (.slice none 0 0)
            have hBE := (hB2.setCell (p := ⟨w.heap.size, 0, none⟩) (by simp) (.int .i64 0)).setCell (p := ⟨w.heap.size, 1, none⟩) (by simp) (.slice none 0 0)
            go_wp2
            refine ret_frv_tmp Tryd.results19 rfl rE.c0 rE.c1 rfl ?_
            exact ⟨ans_no hno, hBE⟩
      · have hno : ¬ OkS s := fun h => hen h.e
        have hne : ((s.extract (s.size - 7) s.size).toList == [49, 49, 49, 49, 49, 49, 49]) = false := by
          rw [beq_eq_false_iff_ne]
          exact fun h => hen (ba_ext' (h.trans (show [49, 49, 49, 49, 49, 49, 49] = enT.toList by decide +kernel)))
        generalize s.extract (s.size - 7) s.size = TL at *
        go_enter Tryd.func19, Tryd.ntmps19
        go_wp2_with fail
        refine kB.mono ?_
        rintro e w2 ⟨rfl, hw2⟩
        subst hw2
        clear kB
        generalize hw1 : w.alloc (frvO 0 none 0 0 24) = w1 at *
        clear hw1
        have v0 := z1.c0
        have v1 := z1.c1
        have f0 := z1.fz 0
        have f1 := z1.fz 1
        have l6 := z1.lt
        have rE := (z1.set 0 (by simp) (.int .i64 0)).set 1 (by simp) (.slice none 0 0)
        have hBE := (hx0.setCell (p := ⟨w.heap.size, 0, none⟩) (by simp) (.int .i64 0)).setCell (p := ⟨w.heap.size, 1, none⟩) (by simp) (.slice none 0 0)
        go_wp2
        refine ret_frv_tmp Tryd.results19 rfl rE.c0 rE.c1 rfl ?_
        exact ⟨ans_no hno, hBE⟩
    · have hno : ¬ OkS s := fun h => h7 h.l
      have j7 : (s.size : Int) - 7 < 0 := by omega
      go_enter Tryd.func19, Tryd.ntmps19
      go_wp2_with fail
      refine kB.mono ?_
      rintro e w2 ⟨rfl, hw2⟩
      subst hw2
      clear kB
      generalize hw1 : w.alloc (frvO 0 none 0 0 24) = w1 at *
      clear hw1
      have v0 := z1.c0
      have v1 := z1.c1
      have f0 := z1.fz 0
      have f1 := z1.fz 1
      have l6 := z1.lt
      have rE := (z1.set 0 (by simp) (.int .i64 0)).set 1 (by simp) (.slice none 0 0)
      have hBE := (hx0.setCell (p := ⟨w.heap.size, 0, none⟩) (by simp) (.int .i64 0)).setCell (p := ⟨w.heap.size, 1, none⟩) (by simp) (.slice none 0 0)
      go_wp2
      refine ret_frv_tmp Tryd.results19 rfl rE.c0 rE.c1 rfl ?_
      exact ⟨ans_no hno, hBE⟩
end Go.Proofs.YtplpggcbpcebcaaDoor
