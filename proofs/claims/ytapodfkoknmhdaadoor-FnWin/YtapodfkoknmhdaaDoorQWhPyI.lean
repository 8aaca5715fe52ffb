/- PlayBoard, as the program does it. -/
import Derived.Test.YtapodfkoknmhdaaDoorQWhPlI
namespace Go.Proofs.YtapodfkoknmhdaaDoor
open Go.RowKit
theorem own_lit1 (w : World) (base : Nat) (x : Int) (T : Nat → Int) (hT : T 0 = x) (h : base ≤ w.heap.size) : Own (w.alloc (.cells #[.int .i64 x] 3)) base (.slice (some ⟨w.heap.size, 0, none⟩) 1 1) 1 T :=
  ⟨by simp [vL], .inr ⟨w.heap.size, 1, #[.int .i64 x], rfl, h, heap_alloc_new w _, Nat.le_refl _, by unfold maxLen; omega, by rfl, by simp [vL, hT]⟩⟩
set_option maxRecDepth 20000 in
set_option maxHeartbeats 8000000 in
theorem iPlay (a : Option Addr) (n c : Nat) (b : Option Addr) (m d : Nat) (x : Option Addr) (p q : Nat) (f : Nat → ByteArray) (g : Nat → Bool) (K : Nat → Nat) (R : Nat → Nat → Int) (pa : Option Addr) (pn pc : Nat) (pl : Nat → Int) (fr : Int) (ta : Option Addr) (L tc : Nat) (th : Nat → Int) (w : World)
    (hn : n ≤ 1048576) (hm : m ≤ 1048576) (hp : p ≤ 1048576) (hf : ∀ i, i < n → (f i).size ≤ 1048576) (hK : ∀ i, i < p → K i ≤ 1048576) (hL : L ≤ 1048576)
    (h : BD w a n f b m g x p K R) (hP : IL w pa pn pl) (ht : IL w ta L th) (hT : U8 w) :
    Calls Tryd.prog 21 #[bdv a n c b m d x p q, .slice pa pn pc, .int .i64 fr, .slice ta L tc] w fun e w' => AnsPb w w' e (plV n f m g p K R pn pl fr th L) ∧ Below w.heap.size w w' := by
  obtain ⟨i0, hi, hzz⟩ := Option.map_eq_some_iff.1 infoI
  simp only [Prod.mk.injEq] at hzz
  obtain ⟨hz0, hz1, hz2⟩ := hzz
  have hb0 : Below w.heap.size w (w.alloc (bdO a n c b m d x p q 38)) := (Below.refl _ _).alloc (Nat.le_refl _) _
  have bA := bx_new (w := w) (bdL a n c b m d x p q) 38 rfl
  have kG := iGoodBoard a n c b m d x p q f g K R _ hn hm hp hf hK (h.below hb0) (hT.below hb0)
  have HC : Hid (¬ plC n f m p K R pn fr th L → plV n f m g p K R pn pl fr th L = none) := fun h => by unfold plV; rw [if_neg h]
  have x0 := bA.c0
  have x1 := bA.c1
  have x2 := bA.c2
  cases hG : gbB n f m p K R with
  | false =>
    rw [hG] at kG
    have HN : Hid (plV n f m g p K R pn pl fr th L = none) := HC.out fun h => by have := h.1; rw [hG] at this; cases this
    clear HC
    go_enter Tryd.func21, Tryd.ntmps21
    go_wp2_with fail
    refine kG.mono ?_
    rintro e w3 ⟨rfl, hb3⟩
    have hB3 := stepA hb0 hb3
    clear kG bA x0 x1 x2
    go_wp2
    go_ret2
    exact ⟨ansPb_none HN.out, hB3⟩
  | true =>
    rw [hG] at kG
    obtain ⟨g1, g2, rfl, rfl, _⟩ := gbB_parts hG
    have hR : ∀ i, i < p → ∀ j, j < K i → 0 ≤ R i j ∧ R i j < (p : Int) := fun i hi j hj => gbB_row hG hi hj
    by_cases hpn : pn = p
    case neg =>
      have HN : Hid (plV p f p g p K R pn pl fr th L = none) := HC.out fun h => hpn h.2.1
      have e1 : ((pn : Int) == (p : Int)) = false := by simp; omega
      clear HC hR
      go_enter Tryd.func21, Tryd.ntmps21
      go_wp2_with fail
      refine kG.mono ?_
      rintro e w3 ⟨rfl, hb3⟩
      have hB3 := stepA hb0 hb3
      have y0 := (bA.on hb3).c0
      clear kG bA x0 x1 x2
      go_wp2
      go_ret2
      exact ⟨ansPb_none HN.out, hB3⟩
    subst hpn
    have kN := fun w2 => iNumI fr pa pn pc w2
    cases hB : nbB fr pn with
    | false =>
      rw [hB] at kN
      have HN : Hid (plV pn f pn g pn K R pn pl fr th L = none) := HC.out fun h => by
        unfold nbB at hB
        rw [decide_eq_true h.2.2.1, decide_eq_true h.2.2.2.1] at hB
        cases hB
      clear HC hR hB
      go_enter Tryd.func21, Tryd.ntmps21
      go_wp2_with fail
      refine kG.mono ?_
      rintro e w3 ⟨rfl, hb3⟩
      have hB3 := stepA hb0 hb3
      have y0 := (bA.on hb3).c0
      clear kG bA x0 x1 x2
      go_wp2_with fail
      refine (kN _).mono ?_
      rintro e w4 ⟨rfl, hw4⟩
      have hs4 := hw4.symm
      clear hw4 kN
      subst hs4
      go_wp2
      go_ret2
      exact ⟨ansPb_none HN.out, hB3⟩
    | true =>
      rw [hB] at kN
      have hfr : 0 ≤ fr ∧ fr < (pn : Int) := by
        unfold nbB at hB
        simpa only [Bool.and_eq_true, decide_eq_true_eq] using hB
      have kT := fun w2 h => iTheirs ta L tc th w2 hL h
      cases hH : (decide (L ≤ 30) && thB th L) with
      | false =>
        rw [hH] at kT
        have HN : Hid (plV pn f pn g pn K R pn pl fr th L = none) := HC.out fun h => by
          rw [decide_eq_true h.2.2.2.2.1] at hH
          unfold thB at hH
          rw [decide_eq_true h.2.2.2.2.2] at hH
          cases hH
        clear HC hR hB hH
        go_enter Tryd.func21, Tryd.ntmps21
        go_wp2_with fail
        refine kG.mono ?_
        rintro e w3 ⟨rfl, hb3⟩
        have hB3 := stepA hb0 hb3
        have y0 := (bA.on hb3).c0
        clear kG bA x0 x1 x2
        go_wp2_with fail
        refine (kN _).mono ?_
        rintro e w4 ⟨rfl, hw4⟩
        have hs4 := hw4.symm
        clear hw4 kN
        subst hs4
        go_wp2_with fail
        refine (kT _ (ht.below hB3)).mono ?_
        rintro e w4 ⟨rfl, hw4⟩
        have hs4 := hw4.symm
        clear hw4 kT
        subst hs4
        go_wp2
        go_ret2
        exact ⟨ansPb_none HN.out, hB3⟩
      | true =>
        rw [hH] at kT
        have hH' : L ≤ 30 ∧ ∀ i, i < L → 0 ≤ th i := by
          unfold thB at hH
          simpa only [Bool.and_eq_true, decide_eq_true_eq] using hH
        have hL30 := hH'.1
        have HTh : Hid (∀ i, i < L → 0 ≤ th i) := hH'.2
        have HV : Hid (plV pn f pn g pn K R pn pl fr th L = (plR g K R pl th L 0 fr.toNat).map (fr :: ·)) := by
          show plV pn f pn g pn K R pn pl fr th L = _
          unfold plV
          rw [if_pos ⟨hG, rfl, hfr.1, hfr.2, hH'.1, hH'.2⟩]
        obtain ⟨V, HE⟩ : ∃ V, Hid (plV pn f pn g pn K R pn pl fr th L = V) := ⟨_, (rfl : plV pn f pn g pn K R pn pl fr th L = _)⟩
        have HP0 : Hid (Plays g K R pl th V L 0 fr.toNat [fr]) := by
          show Plays g K R pl th V L 0 fr.toNat [fr]
          unfold Plays
          rw [← HE.out, HV.out, Nat.sub_zero]
          rfl
        have kX := fun (pt : Nat) t w2 h1 h2 h3 h4 => iNext a pn c b d x q f g K R pa pc pl pt t w2 hK h1 h2 h3 h4
        have HR : Hid (∀ i, i < pn → ∀ j, j < K i → 0 ≤ R i j ∧ R i j < (pn : Int)) := hR
        clear HC hR hB hH hH' HV
        go_enter Tryd.func21, Tryd.ntmps21
        go_wp2_with fail
        refine kG.mono ?_
        rintro e w3 ⟨rfl, hb3⟩
        have hB3 := stepA hb0 hb3
        have bA3 := bA.on hb3
        have hsz3 := hb3.size
        simp only [size_al] at hsz3
        have y0 := bA3.c0
        clear kG bA x0 x1 x2 hb3 hb0
        go_wp2_with fail
        refine (kN _).mono ?_
        rintro e w4 ⟨rfl, hw4⟩
        have hs4 := hw4.symm
        clear hw4 kN
        subst hs4
        go_wp2_with fail
        refine (kT _ (ht.below hB3)).mono ?_
        rintro e w4 ⟨rfl, hw4⟩
        have hs4 := hw4.symm
        clear hw4 kT y0
        subst hs4
        have hO := own_lit1 w3 w3.heap.size fr (gl [fr]) rfl (Nat.le_refl _)
        have hb5 : Below w3.heap.size w3 (w3.alloc (.cells #[.int .i64 fr] 3)) := (Below.refl _ _).alloc (Nat.le_refl _) _
        have bA5 := bA3.on hb5
        have hB5 := stepA hB3 hb5
        have hs5 : (w3.alloc (.cells #[.int .i64 fr] 3)).heap.size = w3.heap.size + 1 := by simp
        go_wp2_with fail
        have HO : Hid (Own (w3.alloc (.cells #[.int .i64 fr] 3)) w3.heap.size (.slice (some ⟨w3.heap.size, 0, none⟩) 1 1) 1 (gl [fr])) := hO
        clear hO hb5 bA3
        have hq0 : fr.toNat < pn := by omega
        have hfe : gl [fr] 0 = ((fr.toNat : Nat) : Int) := by show fr = _; omega
        generalize w3.alloc (.cells #[.int .i64 fr] 3) = W4 at HO bA5 hB5 hs5 ⊢
        go_loopw [10, 41] (fun v k wr => ∃ (i pt : Nat) (l : List Int), k = .int .i64 (i : Int) ∧ i ≤ L ∧ pt < pn ∧ Own wr w3.heap.size v (i + 1) (gl l) ∧ Hid (l.length = i + 1 ∧ gl l i = (pt : Int) ∧ Plays g K R pl th V L i pt l) ∧ Below w3.heap.size W4 wr) (fun _ k _ => L - (intOf k).toNat)
        case atStart => exact ⟨0, fr.toNat, [fr], rfl, Nat.zero_le _, hq0, HO.out, ⟨rfl, hfe, HP0.out⟩, Below.refl _ _⟩
        case round =>
          obtain ⟨i, pt, l, rfl, hiL, hpt, hown, HPl, hB6⟩ := hrel
          clear HO HP0
          have hBw : Below w.heap.size w wr := hB5.trans (hB6.mono (by omega))
          have hbase : w3.heap.size ≤ wr.heap.size := by have := hB6.size; omega
          by_cases hlt : i < L
          · obtain ⟨tb, to', rfl, tl, hc1⟩ := (ht.below hBw) (by omega)
            have z1 := hc1 i hlt
            have ht0 := HTh.out i hlt
            obtain ⟨g0, cap0, rfl, hg0, hIP⟩ := hown.some (by omega)
            have z2 := hIP.c i (by omega)
            have gl0 := hIP.lt
            rw [HPl.out.2.1] at z2
            have bR := bA5.below hB6 (by omega)
            obtain ⟨V1, V2, HW⟩ : ∃ V1 V2, Hid (nxV g K R pl pt (th i) = (V1, V2)) := ⟨_, _, (rfl : nxV g K R pl pt (th i) = ((nxV g K R pl pt (th i)).1, (nxV g K R pl pt (th i)).2))⟩
            have kY := fun w2 h3 h4 => kX pt (th i) w2 hpt ht0 h3 h4
            rw [HW.out] at kY
            have HBad : Hid (V2 = false → V = none) := fun h => HPl.out.2.2.bad hlt (by rw [HW.out]; exact h)
            have HStop : Hid (V2 = true → V1 = -1 → V = some l) := fun h h' => HPl.out.2.2.stop hlt (by rw [HW.out]; exact h) (by rw [HW.out]; exact h')
            have HGo : Hid (V2 = true → ¬ V1 = -1 → (0 ≤ V1 ∧ V1 < (pn : Int)) ∧ Plays g K R pl th V L (i + 1) V1.toNat (l ++ [V1])) := fun h h' => by
              have h1 := nx_in (g := g) (K := K) (R := R) (pl := pl) HR.out hpt (t := th i) (by rw [HW.out]; exact h) (by rw [HW.out]; exact h')
              have h2 := HPl.out.2.2.go hlt (by rw [HW.out]; exact h) (by rw [HW.out]; exact h')
              rw [HW.out] at h1 h2
              exact ⟨h1, h2⟩
            have i0' : (0 : Int) ≤ (i : Int) := by omega
            have i1' : (i : Int) < (L : Int) := by omega
            have HLen : Hid (l.length = i + 1) := HPl.out.1
            have e8 : IntKind.i64.wrap (i : Int) = (i : Int) := IntWalk.i64_in _ ⟨by omega, by omega⟩
            have e9 : (i : Int) < (i : Int) + 1 := by omega
            clear hc1 hIP kX HW HPl
            generalize th i = t at *
            have u0 := bR.c0
            have u1 := bR.c1
            have u2 := bR.c2
            go_wp2_with fail
            have hw0 := Below.refl wr.heap.size wr
            go_region_held3 (fun w' => w'.cell? ⟨w.heap.size, 0, none⟩ = some (.slice a pn c) ∧ w'.cell? ⟨w.heap.size, 1, none⟩ = some (.slice b pn d) ∧ w'.cell? ⟨w.heap.size, 2, none⟩ = some (.slice x pn q) ∧ w'.cell? ⟨g0, i, none⟩ = some (.int .i64 (pt : Int)))
              (first | (exact ⟨(bR.on hw0.drew).c0, (bR.on hw0.drew).c1, (bR.on hw0.drew).c2, (hw0.drew.cell (p := ⟨g0, i, none⟩) gl0).trans z2⟩) | (exact ⟨(bR.on hw1).c0, (bR.on hw1).c1, (bR.on hw1).c2, (hw1.cell (p := ⟨g0, i, none⟩) gl0).trans z2⟩) | (fail))
              (first | (go_at_call 61; refine (kY _ (h.below (stepA hBw hw0.drew)) (hP.below (stepA hBw hw0.drew))).mono ?_; rintro e w5 ⟨rfl, hb5⟩; have hw1 := stepA hw0.drew hb5; clear hb5) | (fail))
            have hown5 := hown.below hw1
            have hB7 := hB6.trans (hw1.mono hbase)
            have hBw7 := stepA hBw hw1
            have hbase5 : w3.heap.size ≤ w5.heap.size := Nat.le_trans hbase hw1.size
            clear u0 u1 u2 bR z1 z2 hown hB6 hBw hw0 hw1 hbase kY
            cases V2 with
            | false =>
              have HN : Hid (V = none) := HBad.out rfl
              clear HBad HStop HGo
              go_wp2
              go_ret2
              exact ⟨ansPb_none (HE.out.trans HN.out), hBw7⟩
            | true =>
              cases hx : (V1 == -1) with
              | true =>
                have HN : Hid (V = some l) := HStop.out rfl (eq_of_beq hx)
                clear HBad HStop HGo
                go_wp2
                go_ret2
                exact ⟨ansPb_own hown5 HLen.out (by omega) (HE.out.trans HN.out), hBw7⟩
              | false =>
                have HN := HGo.out rfl (ne_of_beq_false hx)
                have hv0 := HN.1
                have HQ : Hid (Plays g K R pl th V L (i + 1) V1.toNat (l ++ [V1])) := HN.2
                have HOw : Hid (∀ (v : Value) (w6 : World), w6.ownsRow w3.heap.size 3 1 v (i + 1 + 1) (vL (gl l) (i + 1) ++ [.int .i64 V1]) → Own w6 w3.heap.size v (i + 1 + 1) (gl (l ++ [V1]))) := fun v w6 hh => by
                  have e9 := HLen.out
                  rw [← e9] at hh ⊢
                  have := own_snoc hh
                  rwa [List.length_append] at this
                have HQ2 : Hid ((l ++ [V1]).length = i + 1 + 1 ∧ gl (l ++ [V1]) (i + 1) = ((V1.toNat : Nat) : Int)) := by
                  refine ⟨by rw [List.length_append, HLen.out]; rfl, ?_⟩
                  rw [← HLen.out]
                  have e7 : gl (l ++ [V1]) l.length = V1 := by simp [gl]
                  rw [e7]
                  omega
                clear HN HBad HStop HGo HLen
                go_wp2_with (at_builtin; refine wpList_append_own _ rfl _ _ 41 rfl w3.heap.size 3 i0 (.int .i64 0) 1 8 Tryd.underlying41 hi hz0 hz1 hz2 rfl (by decide) _ _ _ rfl (World.ownsRow.alloc hown5 _) ⟨w5.heap.size, 0, none⟩ 1 1 [.int .i64 V1] rfl rfl (cell_one_new _ _ _) (fun x hx => by simp at hx; subst hx; rfl) (by unfold maxLen; omega) (by omega) (by simp; omega) ?_; intro v' w6 hown' hgrow3 _)
                have hB8 := (hB7.alloc hbase5 (.cells #[.int .i64 V1] 3)).grown hgrow3 (by simp; omega) (fun q hq => (World.ownsRow.lt hown5 q hq).1)
                exact ⟨⟨i + 1, V1.toNat, l ++ [V1], by go_num, by omega, by omega, HOw.out _ _ hown', ⟨HQ2.out.1, HQ2.out.2, HQ.out⟩, hB8⟩, by simp [intOf]; omega⟩
          · have HN : Hid (V = some l) := HPl.out.2.2.last hlt
            have HLen : Hid (l.length = i + 1) := HPl.out.1
            have : i = L := by omega
            subst this
            obtain ⟨sa, sc, rfl⟩ := hown.shape
            clear HPl
            go_wp2
            go_ret2
            exact ⟨ansPb_own hown HLen.out (by omega) (HE.out.trans HN.out), hBw⟩
end Go.Proofs.YtapodfkoknmhdaaDoor
