/- Which paths are good ones, as the model says it. -/
import Derived.Test.YtbndhhjgjalecaaDoorQCwGpM
import Derived.Test.YtbndhhjgjalecaaDoorQCwGtS
import Derived.Test.YtbndhhjgjalecaaDoorQCwMtS
namespace Go.Proofs.YtbndhhjgjalecaaDoor
open Go.RowKit

theorem keepE {w w' : World} {b g k : Nat} {W : Int} {a : Option Addr} {n c : Nat} {x : Value} (h : Bx w b (celL W a n c)) (hx : w.cell? ⟨g, k, none⟩ = some x) (hg : g < w.heap.size) (l : Below w.heap.size w w') : w'.cell? ⟨b, 0, none⟩ = some (.int .i64 W) ∧ w'.cell? ⟨b, 1, none⟩ = some (.slice a n c) ∧ w'.cell? ⟨g, k, none⟩ = some x := ⟨(h.on l).c0, (h.on l).c1, (l.cell (p := ⟨g, k, none⟩) hg).trans hx⟩
set_option maxRecDepth 40000 in
set_option maxHeartbeats 8000000 in
theorem sGoodP (W : Int) (a b p : Option Addr) (n c m d N e0 : Nat) (f g : Nat → Int) (K : Nat → Nat) (F : Nat → Nat → Int) (w : World) (hn : n ≤ 1048576) (hm : m ≤ 1048576) (hN : N ≤ 1048576) (hK : ∀ i, i < N → K i ≤ 1048576) (hf : IL w a n f) (hg : IL w b (m * 2) g) (hp : RR w p N K F) :
    Calls Tryd.prog 11 #[cel W a n c, .slice b m d, .slice p N e0] w fun e w' => ∃ q, e = .returned (.bool q) ∧ Says q (GpP W n f m g N K F) ∧ Below w.heap.size w w' := by
  have hb0 : Below w.heap.size w (w.alloc (celO W a n c 25)) := (Below.refl _ _).alloc (Nat.le_refl _) _
  have b0 := bx_new (w := w) (celL W a n c) 25 rfl
  have kG := sGoodTrips W a b n c m d f g (w.alloc (celO W a n c 25)) hn hm (hf.alloc _) (hg.alloc _)
  have x0 := b0.c0
  have x1 := b0.c1
  cases hq : gtB W n f m g with
  | false =>
    have HNO : Hid (¬ GpP W n f m g N K F) := fun h => by rw [h.trips] at hq; cases hq
    rw [hq] at kG
    go_enter Tryd.func11, Tryd.ntmps11
    go_wp2_with fail
    with_reducible refine kG.mono ?_
    rintro e w1 ⟨rfl, hb1⟩
    have hB1 := stepA hb0 hb1
    clear kG hf hg hp b0 x0 x1
    go_wp2
    go_ret
    exact ⟨_, rfl, says_no HNO.out, hB1⟩
  | true =>
    rw [hq] at kG
    by_cases hNm : N = m
    case neg =>
      have HNO : Hid (¬ GpP W n f m g N K F) := fun h => hNm h.num
      have hNb : ((N : Int) != (m : Int)) = true := by simp; omega
      go_enter Tryd.func11, Tryd.ntmps11
      go_wp2_with fail
      with_reducible refine kG.mono ?_
      rintro e w1 ⟨rfl, hb1⟩
      have hB1 := stepA hb0 hb1
      clear kG hf hg hp b0 x0 x1 hNm
      go_wp2
      go_ret
      exact ⟨_, rfl, says_no HNO.out, hB1⟩
    case pos =>
      subst hNm
      have hs := (celB_parts (gtB_t hq).1).1
      have htr := (gtB_t hq).2.2
      have hn2 := sized_le hs
      go_enter Tryd.func11, Tryd.ntmps11
      go_wp2_with fail
      with_reducible refine kG.mono ?_
      rintro e w1 ⟨rfl, hb1⟩
      have hB1 := stepA hb0 hb1
      have b1 := b0.on hb1
      have hf1 := hf.below hB1
      have hg1 := hg.below hB1
      have hp1 := hp.below hB1
      clear kG hf hg hp b0 x0 x1 hb0 hb1
      obtain ⟨A, C, hL⟩ := hp1
      have HTR : Hid (∀ i, i < N → 0 ≤ g (i * 2) ∧ g (i * 2) < (n : Int)) := fun i hi => by
        have := (trB_at htr i hi).1
        exact ⟨(frB_t this).1, (frB_t this).2.1⟩
      have kF := fun w h => sFirst p N e0 K F w hN hK h
      go_wp2
      go_loopw [26] (fun i wr => ∃ k : Nat, k ≤ N ∧ i = .int .i64 k ∧ (∀ j, j < k → RowP W n f g K F j) ∧ Below w1.heap.size w1 wr) (fun i _ => N - (intOf i).toNat)
      case atStart => exact ⟨0, Nat.zero_le _, rfl, fun j hj => absurd hj (Nat.not_lt_zero _), Below.refl _ _⟩
      case round =>
        obtain ⟨k, hk, rfl, hR, hB⟩ := hrel
        have HRW : Hid (∀ j, j < k → RowP W n f g K F j) := hR
        clear hR
        have hBw := stepA hB1 hB
        by_cases hlt : k < N
        · obtain ⟨pb, po, rfl, lpb, hpc⟩ := hL.out (by omega)
          have y0 := (hB.cell (p := ⟨pb, po + k, none⟩) lpb).trans (hpc k hlt)
          have y1 := (hB.cell (p := ⟨pb, po + 0, none⟩) lpb).trans (hpc 0 (by omega))
          simp only [Nat.add_zero] at y1
          have j0 : (0 : Int) ≤ (k : Int) := by omega
          have j1 : (k : Int) < (N : Int) := by omega
          have j2 : (0 : Int) < (N : Int) := by omega
          have HNR : Hid (¬ RowP W n f g K F k → ¬ GpP W n f N g N K F) := fun h h' => h (h'.rows k hlt)
          have hKk := hK k hlt
          have hK0 := hK 0 (by omega)
          obtain ⟨gb, go_, hbe, lgb, g0, g1⟩ := il_two (hg1.below hB) hlt
          subst hbe
          have hrow := (hL.row k hlt).below hB
          clear hpc
          by_cases c0 : 1 ≤ K k
          case neg =>
            have HNO : Hid (¬ GpP W n f N g N K F) := HNR.out fun h => c0 h.some
            have c0' : ((K k : Nat) : Int) < 1 := by omega
            clear HNR hrow hL
            generalize K k = Kk at *
            go_wp2
            go_quiet (fail)
            go_wp2
            go_ret
            exact ⟨_, rfl, says_no HNO.out, below_dr hBw _⟩
          case pos =>
            have d0 : decide (((K k : Nat) : Int) < 1) = false := decide_eq_false (by omega)
            obtain ⟨rb, ro, hAe, lrb, hrc⟩ := hrow (by omega)
            have z0 := hrc 0 (by omega)
            have z1 := hrc (K k - 1) (by omega)
            simp only [Nat.add_zero] at z0
            rw [hAe] at y0
            have HRC : Hid (∀ i, i < K k → wr.cell? ⟨rb, ro + i, none⟩ = some (.int .i64 (F k i))) := hrc
            have j3 : (0 : Int) < ((K k : Nat) : Int) := by omega
            have j4 : (0 : Int) ≤ ((K k : Nat) : Int) - 1 := by omega
            have j5 : ((K k : Nat) : Int) - 1 < ((K k : Nat) : Int) := by omega
            have HL0 : Hid (¬ K k = K 0 → ¬ GpP W n f N g N K F) := fun h => HNR.out fun h' => h h'.len
            have HB0 : Hid (¬ F k 0 = g (k * 2) → ¬ GpP W n f N g N K F) := fun h => HNR.out fun h' => h h'.beg
            have HE0 : Hid (¬ F k (K k - 1) = g (k * 2 + 1) → ¬ GpP W n f N g N K F) := fun h => HNR.out fun h' => h h'.fin
            have HMK : Hid (K k = K 0 → F k 0 = g (k * 2) → F k (K k - 1) = g (k * 2 + 1) → (∀ q, 1 ≤ q → q < K k → F k q ∈ nbL W n f (F k (q - 1)).toNat) → RowP W n f g K F k) := fun h1 h2 h3 h4 => ⟨c0, h1, h2, h3, h4⟩
            have HST : Hid (∀ q, 1 ≤ q → q < K k → ¬ F k q ∈ nbL W n f (F k (q - 1)).toNat → ¬ GpP W n f N g N K F) := fun q h1 h2 h3 => HNR.out fun h' => h3 (h'.step q h1 h2)
            have HIN := @row_in W n f (F k)
            have hgk := HTR.out k hlt
            have HI2 : Hid (F k 0 = g (k * 2) → ∀ q, (∀ r, 1 ≤ r → r < q → F k r ∈ nbL W n f (F k (r - 1)).toNat) → ∀ r, r < q → 0 ≤ F k r ∧ F k r < (n : Int)) := fun h q h' => HIN hs (by rw [h]; exact hgk) h'
            clear HNR hrow hL hrc HIN hgk
            generalize hKK : K k = Kk at *
            generalize hK00 : K 0 = K0 at *
            generalize hFk : F k = Fk at *
            clear hKK hK00 hFk
            have z1' : wr.cell? ⟨rb, ro + (Kk - 1), none⟩ = some (.int .i64 (Fk (Kk - 1))) := z1
            clear z1
            generalize hG0 : g (k * 2) = G0 at *
            generalize hG1 : g (k * 2 + 1) = G1 at *
            clear hG0 hG1
            cases r1 : ((Kk : Int) != (K0 : Int)) with
            | true =>
              have HNO : Hid (¬ GpP W n f N g N K F) := HL0.out fun h => by rw [h] at r1; simp at r1
              clear HL0 HB0 HE0 HMK HST HI2 HRC
              go_wp2
              go_quiet (fail)
              go_wp2
              go_ret
              exact ⟨_, rfl, says_no HNO.out, below_dr hBw _⟩
            | false =>
              have e1 : Kk = K0 := by simp at r1; omega
              cases r2 : (Fk 0 != G0) with
              | true =>
                have HNO : Hid (¬ GpP W n f N g N K F) := HB0.out (by simpa using r2)
                clear HL0 HB0 HE0 HMK HST HI2 HRC e1
                generalize Fk 0 = X0 at *
                go_wp2
                go_quiet (fail)
                go_wp2
                go_ret
                exact ⟨_, rfl, says_no HNO.out, below_dr hBw _⟩
              | false =>
                have e2 : Fk 0 = G0 := by simpa using r2
                cases r3 : (Fk (Kk - 1) != G1) with
                | true =>
                  have HNO : Hid (¬ GpP W n f N g N K F) := HE0.out (by simpa using r3)
                  clear HL0 HB0 HE0 HMK HST HI2 HRC e1 e2
                  generalize Fk 0 = X0 at *
                  generalize Fk (Kk - 1) = X1 at *
                  go_wp2
                  go_quiet (fail)
                  go_wp2
                  go_ret
                  exact ⟨_, rfl, says_no HNO.out, below_dr hBw _⟩
                | false =>
                  have e3 : Fk (Kk - 1) = G1 := by simpa using r3
                  have HMK2 : Hid ((∀ q, 1 ≤ q → q < Kk → Fk q ∈ nbL W n f (Fk (q - 1)).toNat) → RowP W n f g K F k) := fun h => HMK.out e1 e2 e3 h
                  have HI3 : Hid (∀ q, (∀ r, 1 ≤ r → r < q → Fk r ∈ nbL W n f (Fk (r - 1)).toNat) → ∀ r, r < q → 0 ≤ Fk r ∧ Fk r < (n : Int)) := HI2.out e2
                  clear HL0 HB0 HE0 HMK HI2 e1 e2 e3
                  obtain ⟨X0, hX0⟩ : ∃ X, Fk 0 = X := ⟨_, rfl⟩
                  obtain ⟨X1, hX1⟩ : ∃ X, Fk (Kk - 1) = X := ⟨_, rfl⟩
                  rw [hX0] at z0 r2
                  rw [hX1] at z1' r3
                  clear hX0 hX1
                  go_wp2
                  go_quiet (fail)
                  go_wp2
                  generalize hnq : wr.drewN _ = wq at *
                  have hBq : Below w1.heap.size w1 wq := by rw [← hnq]; exact below_dr hB _
                  have HRQ : Hid (∀ i, i < Kk → wq.cell? ⟨rb, ro + i, none⟩ = some (.int .i64 (Fk i))) := fun i hi => by rw [← hnq]; exact HRC.out i hi
                  have lrq : rb < wq.heap.size := by rw [← hnq]; exact lrb
                  clear hnq HRC lrb y0 y1 z0 z1' g0 g1 hB hBw
                  go_loopw [9] (fun i wr => ∃ q : Nat, 1 ≤ q ∧ q ≤ Kk ∧ i = .int .i64 q ∧ (∀ r, 1 ≤ r → r < q → Fk r ∈ nbL W n f (Fk (r - 1)).toNat) ∧ Below wq.heap.size wq wr) (fun i _ => Kk - (intOf i).toNat)
                  case atStart => exact ⟨1, Nat.le_refl _, c0, rfl, fun r h1 h2 => absurd h2 (by omega), Below.refl _ _⟩
                  case round =>
                    obtain ⟨q0', hq1, hqK, rfl, hS, hBr⟩ := hrel
                    obtain ⟨Q, hQe⟩ : ∃ Q, q0' = Q + 1 := ⟨q0' - 1, by omega⟩
                    subst hQe
                    have HS : Hid (∀ r, 1 ≤ r → r < Q + 1 → Fk r ∈ nbL W n f (Fk (r - 1)).toNat) := hS
                    clear hS
                    have hB9 : Below w1.heap.size w1 wr := hBq.trans (hBr.mono hBq.size)
                    have b9 := b1.on hB9
                    by_cases hlt2 : Q + 1 < Kk
                    · obtain ⟨u0, u1⟩ := HI3.out (Q + 1) HS.out Q (by omega)
                      obtain ⟨P, hP⟩ : ∃ P : Nat, Fk Q = (P : Int) := ⟨(Fk Q).toNat, by omega⟩
                      have hPn : P < n := by omega
                      have z0 := (hBr.cell (p := ⟨rb, ro + Q, none⟩) lrq).trans (HRQ.out Q (by omega))
                      have z1 := (hBr.cell (p := ⟨rb, ro + (Q + 1), none⟩) lrq).trans (HRQ.out (Q + 1) hlt2)
                      rw [hP] at z0
                      have lrr : rb < wr.heap.size := Nat.lt_of_lt_of_le lrq hBr.size
                      have zq : IntKind.i64.wrap (Q : Int) = (Q : Int) := IntWalk.i64_in _ ⟨by omega, by omega⟩
                      have i0 : (0 : Int) ≤ (Q : Int) := by omega
                      have i1 : (Q : Int) < (Kk : Int) := by omega
                      have i2 : (Q : Int) + 1 < (Kk : Int) := by omega
                      have i3 : (0 : Int) ≤ (Q : Int) + 1 := by omega
                      have HN1 : Hid (¬ Fk (Q + 1) ∈ nbL W n f P → ¬ GpP W n f N g N K F) := fun h => HST.out (Q + 1) hq1 hlt2 (by rw [Nat.add_sub_cancel, hP]; simpa using h)
                      have HY1 : Hid (Fk (Q + 1) ∈ nbL W n f P → ∀ r, 1 ≤ r → r < Q + 1 + 1 → Fk r ∈ nbL W n f (Fk (r - 1)).toNat) := fun h r h1 h2 => by
                        by_cases e : r = Q + 1
                        · subst e; rw [Nat.add_sub_cancel, hP]; simpa using h
                        · exact HS.out r h1 (by omega)
                      have hfr := hf1.below hB9
                      have hw0 := Below.refl wr.heap.size wr
                      have kN := fun w h => sNext W a n c f P w h hs hPn
                      have hlen := nbL_len W n f P
                      clear u0 u1 hP
                      generalize nbL W n f P = G at *
                      generalize Fk (Q + 1) = X at *
                      go_wp2_with fail
                      go_region_held3 (fun w' => w'.cell? ⟨w.heap.size, 0, none⟩ = some (.int .i64 W) ∧ w'.cell? ⟨w.heap.size, 1, none⟩ = some (.slice a n c) ∧ w'.cell? ⟨rb, ro + Q, none⟩ = some (.int .i64 (P : Int)))
                        (first | (exact keepE b9 z0 lrr hw0.drew) | (exact keepE b9 z0 lrr hw1) | (fail))
                        (first | (go_at_call 44; refine (kN _ (hfr.below hw0.drew)).mono ?_; rintro e w9 ⟨⟨a9, c9', rfl, hL9⟩, hbn⟩; have hw1 := stepA hw0.drew hbn; clear hbn) | (fail))
                      have z2 := (hw1.cell (p := ⟨rb, ro + (Q + 1), none⟩) lrr).trans z1
                      have hBr9 := stepA hBr hw1
                      clear hw0 hw1 z0 z1 hfr b9 hB9
                      go_wp2
                      go_loopw [10, 82] (fun o i wr => ∃ j : Nat, j ≤ G.length ∧ i = .int .i64 j ∧ o = .bool (inK G X j) ∧ wr = w9) (fun _ i _ => 5 - (intOf i).toNat)
                      case atStart => exact ⟨0, Nat.zero_le _, rfl, rfl, rfl⟩
                      case round =>
                        obtain ⟨j, hj, rfl, rfl, hw⟩ := hrel
                        have hw' := hw.symm
                        clear hw
                        subst hw'
                        by_cases hlt3 : j < G.length
                        · obtain ⟨nb, rfl, hn1, hn2', hnP⟩ := hL9 (by omega)
                          have q0 := hnP.c j hlt3
                          have i4 : (0 : Int) ≤ (j : Int) := by omega
                          have i5 : (j : Int) < (G.length : Int) := by omega
                          have HK : Hid (inK G X (j + 1) = (inK G X j || (gl G j == X))) := rfl
                          clear hnP
                          generalize gl G j = Y at q0 HK
                          cases o1 : inK G X j with
                          | true =>
                            have hr : inK G X (j + 1) = true := by rw [HK.out, o1]; rfl
                            have HR : Hid (inK G X (j + 1) = true) := hr
                            clear hr HK
                            go_wp2
                            exact ⟨⟨j + 1, by omega, by go_num, by rw [HR.out], trivial⟩, by simp [intOf]; omega⟩
                          | false =>
                            have hr : inK G X (j + 1) = (Y == X) := by rw [HK.out, o1]; rfl
                            have HR : Hid (inK G X (j + 1) = (Y == X)) := hr
                            clear hr HK
                            go_wp2
                            exact ⟨⟨j + 1, by omega, by go_num, by rw [HR.out], trivial⟩, by simp [intOf]; omega⟩
                        · have hjG : j = G.length := by omega
                          have HM : Hid (inK G X j = true ↔ X ∈ G) := by rw [hjG]; exact inK_mem
                          have hjI : ¬ (j : Int) < (G.length : Int) := by omega
                          clear hL9
                          cases o1 : inK G X j with
                          | true =>
                            have hm1 := HY1.out (HM.out.1 o1)
                            have HR : Hid (∀ r, 1 ≤ r → r < Q + 1 + 1 → Fk r ∈ nbL W n f (Fk (r - 1)).toNat) := hm1
                            clear hm1 HY1 HN1 HM
                            go_wp2
                            exact ⟨⟨Q + 1 + 1, by omega, by omega, by go_num, HR.out, hBr9⟩, by simp [intOf]; omega⟩
                          | false =>
                            have HNO : Hid (¬ GpP W n f N g N K F) := HN1.out fun h => by rw [HM.out.2 h] at o1; cases o1
                            clear HY1 HN1 HM
                            go_wp2
                            go_ret
                            exact .inl ⟨rfl, says_no HNO.out, stepA hB1 (hBq.trans (hBr9.mono hBq.size))⟩
                    · have hqe : Q + 1 = Kk := by omega
                      have HRP : Hid (∀ j, j < k + 1 → RowP W n f g K F j) := fun j hj => by
                        by_cases e : j = k
                        · subst e; exact HMK2.out fun r h1 h2 => HS.out r h1 (by omega)
                        · exact HRW.out j (by omega)
                      have hqI : ¬ (Q : Int) + 1 < (Kk : Int) := by omega
                      clear b9
                      go_wp2
                      exact ⟨⟨k + 1, by omega, by go_num, HRP.out, hB9⟩, by simp [intOf]; omega⟩
        · have hke : k = N := by omega
          have hkI : ¬ (k : Int) < (N : Int) := by omega
          have hpr : RR wr p N K F := ⟨A, C, hL.below hB⟩
          have HFN : Hid (Says (decide (fmV N K F < 0)) (GpP W n f N g N K F)) := by
            constructor
            · intro h
              exact ⟨hq, rfl, fun i hi => HRW.out i (by omega), by simpa using h⟩
            · intro h
              simpa using h.apart
          clear hL
          go_wp2_with fail
          with_reducible refine (kF _ hpr).mono ?_
          rintro e w9 ⟨rfl, hb9⟩
          have hB9 := stepA hBw hb9
          generalize fmV N K F = V at *
          clear kF hpr hb9 hBw hB
          go_wp2
          go_ret
          exact ⟨_, rfl, HFN.out, hB9⟩
end Go.Proofs.YtbndhhjgjalecaaDoor
