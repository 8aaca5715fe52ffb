/- PlayBoard, as the model tells it. -/
import Derived.Test.YtacnegfmdckpbabDoorWhPlM
import Derived.Test.YtacnegfmdckpbabDoorWhGbS
namespace Go.Proofs.YtacnegfmdckpbabDoor
open Go.RowKit
theorem own_lit1s (w : World) (base : Nat) (x : Int) (T : Nat → Int) (hT : T 0 = x) (h : base ≤ w.heap.size) : Own (w.alloc (.cells #[.int .i64 x] 3)) base (.slice (some ⟨w.heap.size, 0, none⟩) 1 1) 1 T :=
  ⟨by simp [vL], .inr ⟨w.heap.size, 1, #[.int .i64 x], rfl, h, heap_alloc_new w _, Nat.le_refl _, by unfold maxLen; omega, by rfl, by simp [vL, hT]⟩⟩
set_option maxRecDepth 200000 in
set_option maxHeartbeats 8000000 in
theorem sPlay (a : Option Addr) (n c : Nat) (b : Option Addr) (m d : Nat) (x : Option Addr) (p q : Nat) (f : Nat → ByteArray) (g : Nat → Bool) (K : Nat → Nat) (R : Nat → Nat → Int) (pa : Option Addr) (pn pc : Nat) (pl : Nat → Int) (fr : Int) (ta : Option Addr) (L tc : Nat) (th : Nat → Int) (w : World)
    (hn : n ≤ 1048576) (hm : m ≤ 1048576) (hp : p ≤ 1048576) (hf : ∀ i, i < n → (f i).size ≤ 1048576) (hK : ∀ i, i < p → K i ≤ 1048576) (hL : L ≤ 1048576)
    (h : BD w a n f b m g x p K R) (hP : IL w pa pn pl) (ht : IL w ta L th) :
    Calls Tryd.prog 19 #[bdv a n c b m d x p q, .slice pa pn pc, .int .i64 fr, .slice ta L tc] w fun e w' => AnsPb w w' e (plV n f m g p K R pn pl fr th L) ∧ Below w.heap.size w w' := by
  obtain ⟨i0, hi, hzz⟩ := Option.map_eq_some_iff.1 infoI
  simp only [Prod.mk.injEq] at hzz
  obtain ⟨hz0, hz1, hz2⟩ := hzz
  have hb0 : Below w.heap.size w (w.alloc (bdO a n c b m d x p q 34)) := (Below.refl _ _).alloc (Nat.le_refl _) _
  have bA := bx_new (w := w) (bdL a n c b m d x p q) 34 rfl
  have kG := sGoodBoard a n c b m d x p q f g K R _ hn hm hp hf hK (h.below hb0)
  have HC : Hid (¬ plC n f m p K R pn fr th L → plV n f m g p K R pn pl fr th L = none) := fun h => by unfold plV; rw [if_neg h]
  have x0 := bA.c0
  have x1 := bA.c1
  have x2 := bA.c2
  cases hG : gbB n f m p K R with
  | false =>
    rw [hG] at kG
    have HN : Hid (plV n f m g p K R pn pl fr th L = none) := HC.out fun h => by have := h.1; rw [hG] at this; cases this
    clear HC
    go_enter Tryd.func19, Tryd.ntmps19
    go_wp2_with fail
    refine kG.mono ?_
    rintro e w3 ⟨rfl, hb3⟩
    have hB3 := stepA hb0 hb3
    clear kG bA x0 x1 x2
    go_wp2
    go_ret2
    exact ⟨ansPb_none HN.out, hB3⟩
  | true =>
    rw [hG] at kG
    obtain ⟨g1, g2, rfl, rfl, _⟩ := gbB_parts hG
    have hR : ∀ i, i < p → ∀ j, j < K i → 0 ≤ R i j ∧ R i j < (p : Int) := fun i hi j hj => gbB_row hG hi hj
    by_cases hbad : ¬ (pn = p ∧ 0 ≤ fr ∧ fr < (p : Int) ∧ L ≤ 30)
    · have HN : Hid (plV p f p g p K R pn pl fr th L = none) := HC.out fun h => hbad ⟨h.2.1, h.2.2.1, h.2.2.2.1, h.2.2.2.2.1⟩
      clear HC hR
      go_enter Tryd.func19, Tryd.ntmps19
      go_wp2_with fail
      refine kG.mono ?_
      rintro e w3 ⟨rfl, hb3⟩
      have hB3 := stepA hb0 hb3
      have y0 := (bA.on hb3).c0
      clear kG bA x0 x1 x2
      by_cases hpn : pn = p
      case neg =>
        have e1 : ((pn : Int) == (p : Int)) = false := by simp; omega
        clear hbad
        go_wp2
        go_ret2
        exact ⟨ansPb_none HN.out, hB3⟩
      subst hpn
      by_cases h1 : fr < 0
      · clear hbad
        go_wp2
        go_ret2
        exact ⟨ansPb_none HN.out, hB3⟩
      by_cases h2 : (pn : Int) ≤ fr
      · clear hbad
        go_wp2
        go_ret2
        exact ⟨ansPb_none HN.out, hB3⟩
      have h3 : (30 : Int) < (L : Int) := by omega
      clear hbad
      go_wp2
      go_ret2
      exact ⟨ansPb_none HN.out, hB3⟩
    obtain ⟨rfl, f0, f1, hL30⟩ := Decidable.not_not.mp hbad
    have f0' : ¬ fr < 0 := by omega
    have f1' : ¬ (pn : Int) ≤ fr := by omega
    have l1' : ¬ (30 : Int) < (L : Int) := by omega
    obtain ⟨V, HE⟩ : ∃ V, Hid (plV pn f pn g pn K R pn pl fr th L = V) := ⟨_, (rfl : plV pn f pn g pn K R pn pl fr th L = _)⟩
    have HNeg : Hid (∀ i, i < L → th i < 0 → V = none) := fun i hi h9 => by
      rw [← HE.out]
      exact HC.out fun h => by have := h.2.2.2.2.2 i hi; omega
    have HP0 : Hid ((∀ i, i < L → 0 ≤ th i) → Plays g K R pl th V L 0 fr.toNat [fr]) := fun hth => by
      unfold Plays
      rw [← HE.out, Nat.sub_zero]
      unfold plV
      rw [if_pos ⟨hG, rfl, f0, f1, hL30, hth⟩]
      rfl
    have HR : Hid (∀ i, i < pn → ∀ j, j < K i → 0 ≤ R i j ∧ R i j < (pn : Int)) := hR
    clear HC hR hbad hG
    go_enter Tryd.func19, Tryd.ntmps19
    go_wp2_with fail
    refine kG.mono ?_
    rintro e w3 ⟨rfl, hb3⟩
    have hB3 := stepA hb0 hb3
    have bA3 := bA.on hb3
    have hsz3 := hb3.size
    simp only [size_al] at hsz3
    have y0 := bA3.c0
    clear kG bA x0 x1 x2 hb3 hb0
    go_wp2_with fail
    go_loopw [50] (fun v wr => ∃ k : Nat, k ≤ L ∧ v = .int .i64 (k : Int) ∧ Hid (∀ j, j < k → 0 ≤ th j) ∧ wr = w3) (fun v _ => L - (intOf v).toNat)
    case atStart => exact ⟨0, Nat.zero_le _, rfl, fun j hj => absurd hj (Nat.not_lt_zero _), rfl⟩
    case round =>
      obtain ⟨k, hk, rfl, HTh, hw⟩ := hrel
      have hw' := hw.symm
      clear hw
      subst hw'
      by_cases hlt : k < L
      · obtain ⟨tb, to', rfl, tl, hc1⟩ := (ht.below hB3) (by omega)
        have z1 := hc1 k hlt
        have i0' : (0 : Int) ≤ (k : Int) := by omega
        have i1' : (k : Int) < (L : Int) := by omega
        have HNg : Hid (th k < 0 → V = none) := HNeg.out k hlt
        have HTh2 : Hid (¬ th k < 0 → ∀ j, j < k + 1 → 0 ≤ th j) := fun h9 j hj => by
          by_cases e : j = k
          · subst e; omega
          · exact HTh.out j (by omega)
        clear hc1 HTh HNeg HP0
        generalize th k = t at *
        by_cases h9 : t < 0
        · have HN : Hid (V = none) := HNg.out h9
          clear HNg HTh2
          go_wp2
          go_ret2
          exact ⟨ansPb_none (HE.out.trans HN.out), hB3⟩
        · have HT3 : Hid (∀ j, j < k + 1 → 0 ≤ th j) := HTh2.out h9
          clear HNg HTh2
          go_wp2
          exact ⟨⟨k + 1, by omega, by go_num, HT3, trivial⟩, by simp [intOf]; omega⟩
      · have hke : k = L := by omega
        subst hke
        have HP1 : Hid (Plays g K R pl th V k 0 fr.toNat [fr]) := HP0.out HTh.out
        clear HP0 HNeg
        have hO := own_lit1s w3 w3.heap.size fr (gl [fr]) rfl (Nat.le_refl _)
        have hb5 : Below w3.heap.size w3 (w3.alloc (.cells #[.int .i64 fr] 3)) := (Below.refl _ _).alloc (Nat.le_refl _) _
        have bA5 := bA3.on hb5
        have hB5 := stepA hB3 hb5
        have hs5 : (w3.alloc (.cells #[.int .i64 fr] 3)).heap.size = w3.heap.size + 1 := by simp
        go_wp2_with fail
        have HO : Hid (Own (w3.alloc (.cells #[.int .i64 fr] 3)) w3.heap.size (.slice (some ⟨w3.heap.size, 0, none⟩) 1 1) 1 (gl [fr])) := hO
        clear hO hb5 bA3 y0
        have hq0 : fr.toNat < pn := by omega
        have hfe : fr = ((fr.toNat : Nat) : Int) := by omega
        generalize w3.alloc (.cells #[.int .i64 fr] 3) = W4 at HO bA5 hB5 hs5 ⊢
        go_loopw [12, 13, 62] (fun v u j wr => ∃ (i pt : Nat) (l : List Int), j = .int .i64 (i : Int) ∧ u = .int .i64 (pt : Int) ∧ i ≤ k ∧ pt < pn ∧ Own wr w3.heap.size v (i + 1) (gl l) ∧ Hid (l.length = i + 1 ∧ Plays g K R pl th V k i pt l) ∧ Below w3.heap.size W4 wr) (fun _ _ j _ => k - (intOf j).toNat)
        case atStart => exact ⟨0, fr.toNat, [fr], rfl, by rw [← hfe], Nat.zero_le _, hq0, HO.out, ⟨rfl, HP1.out⟩, Below.refl _ _⟩
        case round =>
          obtain ⟨i, pt, l, rfl, rfl, hiL, hpt, hown, HPl, hB6⟩ := hrel
          clear HO HP1
          have hBw : Below w.heap.size w wr := hB5.trans (hB6.mono (by omega))
          have hbase : w3.heap.size ≤ wr.heap.size := by have := hB6.size; omega
          by_cases hlt2 : i < k
          · obtain ⟨tb, to', rfl, tl, hc1⟩ := (ht.below hBw) (by omega)
            have z1 := hc1 i hlt2
            have ht0 := HTh.out i hlt2
            have bR := bA5.below hB6 (by omega)
            obtain ⟨V1, V2, HW⟩ : ∃ V1 V2, Hid (nxV g K R pl pt (th i) = (V1, V2)) := ⟨_, _, (rfl : nxV g K R pl pt (th i) = ((nxV g K R pl pt (th i)).1, (nxV g K R pl pt (th i)).2))⟩
            have HBad : Hid (V2 = false → V = none) := fun h => HPl.out.2.bad hlt2 (by rw [HW.out]; exact h)
            have HStop : Hid (V2 = true → V1 = -1 → V = some l) := fun h h' => HPl.out.2.stop hlt2 (by rw [HW.out]; exact h) (by rw [HW.out]; exact h')
            have HGo : Hid (V2 = true → ¬ V1 = -1 → (0 ≤ V1 ∧ V1 < (pn : Int)) ∧ Plays g K R pl th V k (i + 1) V1.toNat (l ++ [V1])) := fun h h' => by
              have h1 := nx_in (g := g) (K := K) (R := R) (pl := pl) HR.out hpt (t := th i) (by rw [HW.out]; exact h) (by rw [HW.out]; exact h')
              have h2 := HPl.out.2.go hlt2 (by rw [HW.out]; exact h) (by rw [HW.out]; exact h')
              rw [HW.out] at h1 h2
              exact ⟨h1, h2⟩
            have HX : Hid ((V1, V2) = if K pt = 0 then (-1, true) else if g pt = false then (R pt (th i % (K pt : Int)).toNat, true) else (pl pt, (pl pt == -1) || hsB (R pt) (K pt) (pl pt))) := HW.out.symm
            have i0' : (0 : Int) ≤ (i : Int) := by omega
            have i1' : (i : Int) < (k : Int) := by omega
            have p0' : (0 : Int) ≤ (pt : Int) := by omega
            have p1' : (pt : Int) < (pn : Int) := by omega
            have HLen : Hid (l.length = i + 1) := HPl.out.1
            obtain ⟨A, C, hA⟩ := h.nx
            have u1 := bR.c1
            have u2 := bR.c2
            obtain ⟨xb, xo, rfl, xl, hc2⟩ := (hA.below hBw).out (by omega)
            have y1 := hc2 pt hpt
            have hrow := (hA.below hBw).row pt hpt
            obtain ⟨mb, mo, rfl, ml, hc3⟩ := (h.mi.below hBw) (by omega)
            have y2 := hc3 pt hpt
            obtain ⟨qb, qo, rfl, ql, hc4⟩ := (hP.below hBw) (by omega)
            have y3 := hc4 pt hpt
            have hKp := hK pt hpt
            have HRp : Hid (∀ j, j < K pt → 0 ≤ R pt j ∧ R pt j < (pn : Int)) := HR.out pt hpt
            clear hc1 hc2 hc3 hc4 HW HPl bR hA
            generalize th i = t at *
            generalize R pt = F at *
            generalize K pt = M at *
            generalize A pt = Z at *
            generalize C pt = Y at *
            generalize g pt = G at *
            generalize pl pt = X at *
            by_cases h0 : M = 0
            · have hv := HX.out
              rw [if_pos h0] at hv
              cases hv
              have HN : Hid (V = some l) := HStop.out rfl rfl
              have e0 : ((M : Int) == 0) = true := by simp; omega
              obtain ⟨sa, sc, rfl⟩ := hown.shape
              clear HBad HStop HGo HX hrow
              go_wp2
              go_ret2
              exact ⟨ansPb_own hown HLen.out (by omega) (HE.out.trans HN.out), hBw⟩
            have e0 : ((M : Int) == 0) = false := by simp; omega
            have hv := HX.out
            rw [if_neg h0] at hv
            obtain ⟨rb, ro, rfl, rl, hc5⟩ := hrow (by omega)
            have h3 : 0 ≤ t % (M : Int) := Int.emod_nonneg _ (by omega)
            have h4 : t % (M : Int) < (M : Int) := Int.emod_lt_of_pos _ (by omega)
            have y4 := hc5 (t % (M : Int)).toNat (by omega)
            have hM0 : (M : Int) ≠ 0 := by omega
            have HOw : Hid (∀ V1 (v : Value) (w6 : World), w6.ownsRow w3.heap.size 3 1 v (i + 1 + 1) (vL (gl l) (i + 1) ++ [.int .i64 V1]) → Own w6 w3.heap.size v (i + 1 + 1) (gl (l ++ [V1])) ∧ (l ++ [V1]).length = i + 1 + 1) := fun V1 v w6 hh => by
              have e9 := HLen.out
              rw [← e9] at hh ⊢
              have := own_snoc hh
              refine ⟨?_, by rw [List.length_append]; rfl⟩
              rwa [List.length_append] at this
            clear HX
            obtain ⟨sa, sc, rfl⟩ := hown.shape
            cases G with
            | false =>
              rw [if_pos rfl] at hv
              have hx2 := HRp.out (t % (M : Int)).toNat (by omega)
              cases hv
              generalize F (t % (M : Int)).toNat = X2 at *
              have HN := HGo.out rfl (by omega)
              have HQ : Hid (Plays g K R pl th V k (i + 1) X2.toNat (l ++ [X2])) := HN.2
              have HXe : Hid (X2 = ((X2.toNat : Nat) : Int)) := by show X2 = _; omega
              have e9 : t.tmod (M : Int) = t % (M : Int) := Int.tmod_eq_emod_of_nonneg ht0
              clear HN HBad HStop HGo HRp hc5
              go_wp2_with (at_builtin; refine wpList_append_own _ rfl _ _ 31 rfl w3.heap.size 3 i0 (.int .i64 0) 1 8 Tryd.underlying31 hi hz0 hz1 hz2 rfl (by decide) _ _ _ rfl (World.ownsRow.alloc hown _) ⟨wr.heap.size, 0, none⟩ 1 1 [.int .i64 X2] rfl rfl (cell_one_new _ _ _) (fun x hx => by simp at hx; subst hx; rfl) (by unfold maxLen; omega) (by omega) (by simp; omega) ?_; intro v' w6 hown' hgrow3 _)
              simp [Act.put]
              go_wp2
              have hB8 := (hB6.alloc hbase (.cells #[.int .i64 X2] 3)).grown hgrow3 (by simp; omega) (fun q hq => (World.ownsRow.lt hown q hq).1)
              exact ⟨⟨i + 1, X2.toNat, l ++ [X2], by go_num, congrArg (Value.int .i64) HXe.out, by omega, by omega, (HOw.out _ _ _ hown').1, ⟨(HOw.out _ _ _ hown').2, HQ.out⟩, hB8⟩, by simp [intOf]; omega⟩
            | true =>
              rw [if_neg (by simp)] at hv
              have hv1 : V1 = X := congrArg Prod.fst hv
              have hv2 : V2 = ((X == -1) || hsB F M X) := congrArg Prod.snd hv
              have e9 : t.tmod (M : Int) = t % (M : Int) := Int.tmod_eq_emod_of_nonneg ht0
              clear hv HRp
              generalize hX2 : F (t % (M : Int)).toNat = X2 at y4
              clear hX2
              cases hx : (X == -1) with
              | true =>
                have HN : Hid (V = some l) := HStop.out (by rw [hv2, hx]; rfl) (hv1.trans (eq_of_beq hx))
                clear HBad HStop HGo hv1 hv2 hc5
                go_wp2
                go_ret2
                exact ⟨ansPb_own hown HLen.out (by omega) (HE.out.trans HN.out), hBw⟩
              | false =>
                have HNo : Hid (hsB F M X = false → V = none) := fun h9 => HBad.out (by rw [hv2, hx, h9]; rfl)
                have HYes : Hid (hsB F M X = true → (0 ≤ X ∧ X < (pn : Int)) ∧ Plays g K R pl th V k (i + 1) X.toNat (l ++ [X])) := fun h9 => by
                  have := HGo.out (by rw [hv2, hx, h9]; rfl) (by rw [hv1]; exact ne_of_beq_false hx)
                  rwa [hv1] at this
                clear HBad HStop HGo hv1 hv2
                obtain ⟨w8, hw8⟩ : ∃ w8, w8 = wr := ⟨wr, rfl⟩
                subst hw8
                go_wp2_with fail
                go_loopw [18, 94] (fun o v wr => ∃ j : Nat, j ≤ M ∧ v = .int .i64 (j : Int) ∧ o = .bool (hsB F j X) ∧ wr = w8) (fun _ v _ => M - (intOf v).toNat)
                case atStart => exact ⟨0, Nat.zero_le _, rfl, by rw [hsB_zero], rfl⟩
                case round =>
                  obtain ⟨j, hj, rfl, rfl, hw⟩ := hrel
                  have hw' := hw.symm
                  clear hw
                  subst hw'
                  by_cases hlj : j < M
                  · have z9 := hc5 j hlj
                    have k0 : (0 : Int) ≤ (j : Int) := by omega
                    have k1 : (j : Int) < (M : Int) := by omega
                    have HS : Hid (hsB F (j + 1) X = (hsB F j X || decide (F j = X))) := hsB_step F j X
                    clear hc5 HNo HYes y1 y2 y3 y4 u1 u2
                    generalize hsB F j X = o at *
                    generalize F j = G at *
                    cases o with
                    | true =>
                      have ho : hsB F (j + 1) X = true := by rw [HS.out]; rfl
                      go_wp2
                      exact ⟨⟨j + 1, by omega, by go_num, by rw [ho], trivial⟩, by simp [intOf]; omega⟩
                    | false =>
                      cases e : (G == X) with
                      | true =>
                        have ho : hsB F (j + 1) X = true := by rw [HS.out, decide_eq_true (eq_of_beq e)]; rfl
                        go_wp2
                        exact ⟨⟨j + 1, by omega, by go_num, by first | (rw [ho]; done) | (rw [ho]; rfl) | (rw [ho, e]), trivial⟩, by simp [intOf]; omega⟩
                      | false =>
                        have ho : hsB F (j + 1) X = false := by rw [HS.out, decide_eq_false (ne_of_beq_false e)]; rfl
                        go_wp2
                        exact ⟨⟨j + 1, by omega, by go_num, by first | (rw [ho]; done) | (rw [ho]; rfl) | (rw [ho, e]), trivial⟩, by simp [intOf]; omega⟩
                  · have hjM : j = M := by omega
                    subst hjM
                    cases ho : hsB F j X with
                    | false =>
                      have HN : Hid (V = none) := HNo.out ho
                      clear HNo HYes hc5
                      go_wp2
                      go_ret2
                      exact ⟨ansPb_none (HE.out.trans HN.out), hBw⟩
                    | true =>
                      have HN := HYes.out ho
                      have hx2 := HN.1
                      have HQ : Hid (Plays g K R pl th V k (i + 1) X.toNat (l ++ [X])) := HN.2
                      have HXe : Hid (X = ((X.toNat : Nat) : Int)) := by show X = _; omega
                      clear HN HNo HYes hc5
                      go_wp2_with (at_builtin; refine wpList_append_own _ rfl _ _ 31 rfl w3.heap.size 3 i0 (.int .i64 0) 1 8 Tryd.underlying31 hi hz0 hz1 hz2 rfl (by decide) _ _ _ rfl (World.ownsRow.alloc hown _) ⟨w8.heap.size, 0, none⟩ 1 1 [.int .i64 X] rfl rfl (cell_one_new _ _ _) (fun x hx => by simp at hx; subst hx; rfl) (by unfold maxLen; omega) (by omega) (by simp; omega) ?_; intro v' w6 hown' hgrow3 _)
                      simp [Act.put]
                      go_wp2
                      have hB8 := (hB6.alloc hbase (.cells #[.int .i64 X] 3)).grown hgrow3 (by simp; omega) (fun q hq => (World.ownsRow.lt hown q hq).1)
                      exact ⟨⟨i + 1, X.toNat, l ++ [X], by go_num, congrArg (Value.int .i64) HXe.out, by omega, by omega, (HOw.out _ _ _ hown').1, ⟨(HOw.out _ _ _ hown').2, HQ.out⟩, hB8⟩, by simp [intOf]; omega⟩
          · have HN : Hid (V = some l) := HPl.out.2.last hlt2
            have HLen : Hid (l.length = i + 1) := HPl.out.1
            have : i = k := by omega
            subst this
            obtain ⟨sa, sc, rfl⟩ := hown.shape
            clear HPl
            go_wp2
            go_ret2
            exact ⟨ansPb_own hown HLen.out (by omega) (HE.out.trans HN.out), hBw⟩
end Go.Proofs.YtacnegfmdckpbabDoor
