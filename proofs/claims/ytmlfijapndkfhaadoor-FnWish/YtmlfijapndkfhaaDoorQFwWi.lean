/- The text of a wish, as the program writes it. -/
import Derived.Test.YtmlfijapndkfhaaDoorQFwP
import Derived.Test.YtmlfijapndkfhaaDoorQWhWtH
import Derived.Test.YtmlfijapndkfhaaDoorQFwImp
import Derived.Test.YtmlfijapndkfhaaDoorQWhTxS
namespace Go.Proofs.YtmlfijapndkfhaaDoor
open Go.RowKit
set_option maxRecDepth 20000 in
set_option maxHeartbeats 4000000 in
theorem iWrite (ra : Option Addr) (rn rc : Nat) (re : Nat → ByteArray) (aa : Option Addr) (an ac : Nat) (av : Nat → ByteArray) (w : World) (hrn : rn ≤ 1048576) (han : an ≤ 1048576) (hrc : rn ≤ rc) (hac : an ≤ ac) (hre : ∀ i, i < rn → (re i).size ≤ 1048576) (hav : ∀ i, i < an → (av i).size ≤ 1048576)
    (hr : SL w ra rn re) (ha : SL w aa an av) (hT : U8 w) :
    Calls Tryd.prog 6 #[wsv ra rn rc aa an ac] w fun e w' => e = .returned (.tuple #[.string (wrS rn re an av), .bool (wrB rn re an av)]) ∧ Below w.heap.size w w' := by
  have hb1 : Below w.heap.size w (w.alloc (wsO ra rn rc aa an ac 25)) := (Below.refl _ _).alloc (Nat.le_refl _) _
  have bW := bx_new (w := w) [.slice ra rn rc, .slice aa an ac] 25 rfl
  have kW := fun w2 h1 h2 h3 => iGood ra aa rn rc an ac re av w2 hrn han hrc hac hre hav h1 h2 h3
  have k1 := fun w2 h => iHasW ra rn rc re w2 hrn h
  have k2 := fun w2 h => iHasW aa an ac av w2 han h
  have HV : Hid (wrB rn re an av = ((namB re rn && namB av an) && (!(hwB re rn) && !(hwB av an)) && decide ((txtB rn re an av).size ≤ 200))) := (rfl : wrB rn re an av = _)
  have HS : Hid (wrS rn re an av = if wrB rn re an av = true then txtB rn re an av else ⟨#[]⟩) := (rfl : wrS rn re an av = _)
  have HT : Hid (U8 w) := hT
  clear hT
  have x0 := bW.c0
  have x1 := bW.c1
  obtain ⟨W0, hW0⟩ : ∃ W0, W0 = w.alloc (wsO ra rn rc aa an ac 25) := ⟨_, rfl⟩
  cases hG : (namB re rn && namB av an) with
  | false =>
    rw [hG] at kW HV
    have e1 : wrB rn re an av = false := by rw [HV.out]; rfl
    have e2 : wrS rn re an av = ⟨#[]⟩ := by rw [HS.out, e1]; rfl
    rw [e1, e2]
    clear HV HS e1 e2 k1 k2
    go_enter Tryd.func6, Tryd.ntmps6
    go_wp2_with fail
    refine (kW _ (hr.below hb1) (ha.below hb1) (HT.out.below hb1)).mono ?_
    rintro e w3 ⟨rfl, hb3⟩
    have hB3 := stepA hb1 hb3
    clear kW bW x0 x1
    go_wp2
    go_ret2
    exact ⟨rfl, hB3⟩
  | true =>
    rw [hG] at kW HV
    have hr6 : rn ≤ 6 := by
      cases e : namB re rn with
      | true => unfold namB at e; simp at e; exact e.1
      | false => rw [e] at hG; cases hG
    have ha6 : an ≤ 6 := by
      cases e : namB av an with
      | true => unfold namB at e; simp at e; exact e.1
      | false => rw [e, Bool.and_false] at hG; cases hG
    clear hG
    cases h1 : hwB re rn with
    | true =>
      rw [h1] at k1 HV
      have e1 : wrB rn re an av = false := by rw [HV.out]; rfl
      have e2 : wrS rn re an av = ⟨#[]⟩ := by rw [HS.out, e1]; rfl
      rw [e1, e2]
      clear HV HS e1 e2 k2
      go_enter Tryd.func6, Tryd.ntmps6
      go_wp2_with fail
      refine (kW _ (hr.below hb1) (ha.below hb1) (HT.out.below hb1)).mono ?_
      rintro e w3 ⟨rfl, hb3⟩
      have hB3 := stepA hb1 hb3
      have y0 := (bW.on hb3).c0
      clear kW bW x0 x1
      go_wp2_with fail
      refine (k1 _ (hr.below hB3)).mono ?_
      rintro e w4 ⟨rfl, hw4⟩
      have hs4 := hw4.symm
      clear hw4 k1
      subst hs4
      go_wp2
      go_ret2
      exact ⟨rfl, hB3⟩
    | false =>
      rw [h1] at k1 HV
      cases h2 : hwB av an with
      | true =>
        rw [h2] at k2 HV
        have e1 : wrB rn re an av = false := by rw [HV.out]; rfl
        have e2 : wrS rn re an av = ⟨#[]⟩ := by rw [HS.out, e1]; rfl
        rw [e1, e2]
        clear HV HS e1 e2
        go_enter Tryd.func6, Tryd.ntmps6
        go_wp2_with fail
        refine (kW _ (hr.below hb1) (ha.below hb1) (HT.out.below hb1)).mono ?_
        rintro e w3 ⟨rfl, hb3⟩
        have hB3 := stepA hb1 hb3
        have y0 := (bW.on hb3).c0
        have y1 := (bW.on hb3).c1
        clear kW bW x0 x1
        go_wp2_with fail
        refine (k1 _ (hr.below hB3)).mono ?_
        rintro e w4 ⟨rfl, hw4⟩
        have hs4 := hw4.symm
        clear hw4 k1
        subst hs4
        go_wp2_with fail
        refine (k2 _ (ha.below hB3)).mono ?_
        rintro e w5 ⟨rfl, hw5⟩
        have hs5 := hw5.symm
        clear hw5 k2
        subst hs5
        go_wp2
        go_ret2
        exact ⟨rfl, hB3⟩
      | false =>
        rw [h2] at k2 HV
        have hsz := txt_size rn re an av hr6 ha6 hre hav
        have hjn := txt_join rn re an av
        have hjl : (Lib.join ((prtL wdR re rn ++ prtL wdA av an).map (·.data.toList)) wsp.data.toList).length ≤ 140737488355328 := by
          have : (Lib.join ((prtL wdR re rn ++ prtL wdA av an).map (·.data.toList)) wsp.data.toList).length = (txtB rn re an av).size := by rw [← hjn]; simp [ByteArray.size]
          omega
        have hl1 := prtL_len wdR re hr6
        have hl2 := prtL_len wdA av ha6
        have kP1 : ∀ w2, SL w2 ra rn re → Calls Tryd.prog 20 #[.string ⟨#[114, 101, 97, 99, 104]⟩, .slice ra rn rc] w2 fun e w' => AnsT w' e (prtL wdR re rn) ∧ Below w2.heap.size w2 w' := fun w2 h => iPart wdR ra rn rc re w2 (by omega) h
        have kP2 : ∀ w2, SL w2 aa an av → Calls Tryd.prog 20 #[.string ⟨#[97, 118, 111, 105, 100]⟩, .slice aa an ac] w2 fun e w' => AnsT w' e (prtL wdA av an) ∧ Below w2.heap.size w2 w' := fun w2 h => iPart wdA aa an ac av w2 (by omega) h
        have kC := fun cb v1 v2 c1 c2 w2 h3 h4 h5 h6 h7 h8 h9 => iConcat cb v1 v2 (prtL wdR re rn).length c1 (prtL wdA av an).length c2 (fun i => (prtL wdR re rn)[i]!) (fun i => (prtL wdA av an)[i]!) w2 (by omega) (by omega) h3 h4 h5 h6 h7 h8 h9
        rw [slL_get, slL_get] at kC
        have kJ : ∀ base v w2, OwS w2 base v (prtL wdR re rn ++ prtL wdA av an) → Calls Tryd.prog 18 #[v, .string ⟨#[32]⟩] w2 fun e w' => e = .returned (.string (txtB rn re an av)) ∧ Below w2.heap.size w2 w' := fun base v w2 h => by
          rw [← hjn]
          exact iJoin v _ w2 h (by rw [List.length_append]; omega) hjl
        clear hjn hjl
        generalize prtL wdR re rn = LR at *
        generalize prtL wdA av an = LA at *
        generalize hTx : txtB rn re an av = T at *
        generalize wrB rn re an av = B at *
        generalize wrS rn re an av = S at *
        go_enter Tryd.func6, Tryd.ntmps6
        go_wp2_with fail
        refine (kW _ (hr.below hb1) (ha.below hb1) (HT.out.below hb1)).mono ?_
        rintro e w3 ⟨rfl, hb3⟩
        have hB3 := stepA hb1 hb3
        have bX := bW.on hb3
        have y0 := bX.c0
        have y1 := bX.c1
        clear kW bW x0 x1
        go_wp2_with fail
        refine (k1 _ (hr.below hB3)).mono ?_
        rintro e w4 ⟨rfl, hw4⟩
        have hs4 := hw4.symm
        clear hw4 k1
        subst hs4
        go_wp2_with fail
        refine (k2 _ (ha.below hB3)).mono ?_
        rintro e w5 ⟨rfl, hw5⟩
        have hs5 := hw5.symm
        clear hw5 k2
        subst hs5
        go_wp2_with fail
        have hw0 := Below.refl w3.heap.size w3
        go_region_held3 (fun w' => w'.cell? ⟨w.heap.size, 0, none⟩ = some (.slice ra rn rc) ∧ w'.cell? ⟨w.heap.size, 1, none⟩ = some (.slice aa an ac))
          (first | (exact ⟨(bX.on hw0.drew).c0, (bX.on hw0.drew).c1⟩) | (exact ⟨(bX.on hw1).c0, (bX.on hw1).c1⟩) | (exact ⟨(bX.on hw2).c0, (bX.on hw2).c1⟩) | (exact ⟨(bX.on (hw2.alloc hw2.size _)).c0, (bX.on (hw2.alloc hw2.size _)).c1⟩) | (exact ⟨(bX.on hw3).c0, (bX.on hw3).c1⟩) | (exact ⟨(bX.on hw4).c0, (bX.on hw4).c1⟩) | (fail))
          (first | (go_at_call_of 20 ra; refine (kP1 _ (hr.below (stepA hB3 hw0.drew))).mono ?_; rintro e v1 ⟨⟨p1, q1, rfl, z1, s1⟩, hbn⟩; have hw1 := stepA hw0.drew hbn; clear hbn)
                 | (go_at_call_of 20 aa; refine (kP2 _ (ha.below (stepA hB3 hw1))).mono ?_; rintro e v2 ⟨⟨p2, q2, rfl, z2, s2⟩, hbn⟩; have hw2 := stepA hw1 hbn; have s1 := s1.below hbn; clear hbn)
                 | (go_at_call 19; refine (kC v2.heap.size p1 p2 q1 q2 _ (by simp) (bx_new (w := v2) [.slice p1 LR.length q1, .slice p2 LA.length q2] 23 rfl).c0 (bx_new (w := v2) [.slice p1 LR.length q1, .slice p2 LA.length q2] 23 rfl).c1 z1 z2 (s1.alloc _) (s2.alloc _)).mono ?_; rintro e v3 ⟨⟨vv, rfl, hO⟩, hbn⟩; have hw3 := stepA (hw2.alloc hw2.size _) hbn; clear hbn)
                 | (go_at_call 18; refine (kJ _ _ _ hO).mono ?_; rintro e v4 ⟨rfl, hbn⟩; have hw4 := stepA hw3 hbn; clear hbn)
                 | (fail))
        have hB9 := stepA hB3 hw4
        by_cases h200 : T.size ≤ 200
        · have eB : B = true := by rw [HV.out, decide_eq_true h200]; rfl
          have eS : S = T := by rw [HS.out, if_pos eB]
          subst eB eS
          have j : ¬ (200 : Int) < (S.size : Int) := by omega
          go_wp2
          go_ret2
          exact ⟨rfl, hB9⟩
        · have eB : B = false := by rw [HV.out, decide_eq_false h200]; rfl
          have eS : S = ⟨#[]⟩ := by rw [HS.out, if_neg (by rw [eB]; simp)]
          subst eB eS
          have j : (200 : Int) < (T.size : Int) := by omega
          go_wp2
          go_ret2
          exact ⟨rfl, hB9⟩
end Go.Proofs.YtmlfijapndkfhaaDoor
