/- The walk of the law on wishes. -/
import Derived.Test.YtmlfijapndkfhaaDoorQFwLa
import Derived.Test.YtmlfijapndkfhaaDoorQFwDraw
import Derived.Test.YtmlfijapndkfhaaDoorQFwWi
import Derived.Test.YtmlfijapndkfhaaDoorQFwS
namespace Go.Proofs.YtmlfijapndkfhaaDoor
open Go.RowKit
/-- bytes that came in -/
def By (w : World) (a : Option Addr) (len : Nat) : Prop := 0 < len → ∃ b off, a = some ⟨b, off, none⟩ ∧ b < w.heap.size ∧ ∀ i, i < len → ∃ v : Int, w.cell? ⟨b, off + i, none⟩ = some (.int .u8 v) ∧ 0 ≤ v ∧ v ≤ 255
theorem By.below {w w' : World} {a : Option Addr} {len : Nat} (h : By w a len) (hb : Below w.heap.size w w') : By w' a len := fun h0 => by
  obtain ⟨b, off, ha, hbw, hc⟩ := h h0
  refine ⟨b, off, ha, Nat.lt_of_lt_of_le hbw hb.size, fun i hi => ?_⟩
  obtain ⟨v, hv, hv1⟩ := hc i hi
  exact ⟨v, (hb.cell (p := ⟨b, _, none⟩) hbw).trans hv, hv1⟩
set_option maxRecDepth 20000 in
set_option maxHeartbeats 8000000 in
theorem wishFn (A : Option Addr) (len cap : Nat) (A2 : Option Addr) (len2 cap2 : Nat) (a : Nat → Addr) (w : World) (hA : By w A len) (hA2 : By w A2 len2) (hS : Se w a) (hT : U8 w) :
    Calls Tryd.prog 3 #[.slice A len cap, .slice A2 len2 cap2] w fun e w' => e = .returned (.bool true) ∧ Below w.heap.size w w' := by
  by_cases hl : 1048576 < len
  · have jl : (1048576 : Int) < (len : Int) := by omega
    clear hA hA2 hS hT
    go_enter Tryd.func3, Tryd.ntmps3
    go_wp2
    go_ret
    exact ⟨rfl, Below.refl _ _⟩
  by_cases hl2 : 1048576 < len2
  · have jl : ¬ (1048576 : Int) < (len : Int) := by omega
    have jl2 : (1048576 : Int) < (len2 : Int) := by omega
    clear hA hA2 hS hT
    go_enter Tryd.func3, Tryd.ntmps3
    go_wp2
    go_ret
    exact ⟨rfl, Below.refl _ _⟩
  have jl : ¬ (1048576 : Int) < (len : Int) := by omega
  have jl2 : ¬ (1048576 : Int) < (len2 : Int) := by omega
  have HS : Hid (Se w a) := hS
  have HT : Hid (U8 w) := hT
  have HD2 : Hid (By w A2 len2) := hA2
  have kD := drawWW A len cap w (by omega) hA
  have KR : Hid (∀ s w, Se w a → U8 w → Calls Tryd.prog 8 #[.string s] w fun e w' => AnsWr w w' e (rwV s) ∧ Below w.heap.size w w') := fun s w h1 h2 => iRead s a w h1 h2
  clear hA hA2 hS hT
  go_enter Tryd.func3, Tryd.ntmps3
  go_wp2_with fail
  refine kD.mono ?_
  rintro e w1 ⟨ra, rn, rc, re, aa, an, ac, av, rfl, ⟨g1, g2, g3, g4⟩, ⟨hre, hav⟩, hS1, hS2, hB1⟩
  clear kD
  have hb2 : Below w1.heap.size w1 (w1.alloc (wsO ra rn rc aa an ac 25)) := (Below.refl _ _).alloc (Nat.le_refl _) _
  have bW := bx_new (w := w1) [.slice ra rn rc, .slice aa an ac] 25 rfl
  have hB2 := hB1.trans (hb2.mono hB1.size)
  have s1 := hS1.below hb2
  have s2 := hS2.below hb2
  clear hS1 hS2 hb2 hB1
  go_upto_region 4 with fail
  generalize w1.alloc (wsO ra rn rc aa an ac 25) = w2 at *
  have kI := iWrite ra rn rc re aa an ac av w2 (by omega) (by omega) g3 g4 (fun i hi => by have := hre i hi; omega) (fun i hi => by have := hav i hi; omega) s1 s2 (HT.out.below hB2)
  have KS : Hid (∀ w2, SL w2 ra rn re → SL w2 aa an av → Calls Tryd.prog 7 #[wsv ra rn rc aa an ac] w2 fun e w' => e = .returned (.tuple #[.string (wrS rn re an av), .bool (wrB rn re an av)]) ∧ Below w2.heap.size w2 w') := fun w2 h1 h2 => sWrite ra rn rc re aa an ac av w2 (by omega) (by omega) g3 g4 (fun i hi => by have := hre i hi; omega) (fun i hi => by have := hav i hi; omega) h1 h2
  have HV : Hid (wrB rn re an av = true → ∃ p, rwV (wrS rn re an av) = .ok ⟨p, (List.range rn).map re, (List.range an).map av⟩) := fun h => by
    have e : wrS rn re an av = txtB rn re an av := by unfold wrS; rw [if_pos h]
    rw [e]
    exact rw_txt h
  clear hre hav
  generalize wrB rn re an av = B at *
  generalize wrS rn re an av = T at *
  have x0 := bW.c0
  have x1 := bW.c1
  go_wp2_with fail
  refine kI.mono ?_
  rintro e w3 ⟨rfl, hb3⟩
  have bW3 := bW.on hb3
  have hB3 := stepA hB2 hb3
  have s13 := s1.below hb3
  have s23 := s2.below hb3
  clear kI x0 x1 bW hb3 hB2 s1 s2
  have x0 := bW3.c0
  have x1 := bW3.c1
  go_wp2_with fail
  refine (KS.out w3 s13 s23).mono ?_
  rintro e w4 ⟨rfl, hb4⟩
  have bW4 := bW3.on hb4
  have hB4 := stepA hB3 hb4
  have s14 := s13.below hb4
  have s24 := s23.below hb4
  clear KS x0 x1 bW3 hb4 hB3 s13 s23
  have nB : (B != B) = false := by simp
  have kR := KR.out T w4 (HS.out.on hB4) (HT.out.below hB4)
  go_wp2_with fail
  refine kR.mono ?_
  rintro e w5 ⟨hQ, hb5⟩
  have bW5 := bW4.on hb5
  have hB5 := stepA hB4 hb5
  have s15 := s14.below hb5
  have s25 := s24.below hb5
  clear kR bW4 hb5 hB4 s14 s24
  cases hBv : B with
  | false =>
    subst hBv
    obtain ⟨ja, n, jc, oa, m, oc, K, X, rfl⟩ := hQ.any
    have hb6 : Below w5.heap.size w5 (w5.alloc (.cells #[.slice ja n jc, .slice oa m oc, .int .i64 K, .int .i64 X] 30)) := (Below.refl _ _).alloc (Nat.le_refl _) _
    have hB6 := hB5.trans (hb6.mono hB5.size)
    clear hQ hb6 hB5 bW5 s15 s25 HV
    go_upto_region 9 with fail
    generalize w5.alloc (.cells #[.slice ja n jc, .slice oa m oc, .int .i64 K, .int .i64 X] 30) = W8 at *
    have hB8 := hB6
    clear hB6
    go_wp2_with fail
    refine (drawRW A2 len2 cap2 W8 (by omega) (HD2.out.below hB8)).mono ?_
    rintro e w9 ⟨s, rfl, -, hb9⟩
    have hB9 := stepA hB8 hb9
    clear hb9 hB8
    have kR := KR.out s w9 (HS.out.on hB9) (HT.out.below hB9)
    cases hV : rwV s with
    | error q =>
      obtain ⟨k, x⟩ := q
      have hk := rwV_k hV
      rw [hV] at kR
      clear hV
      go_wp2_with fail
      refine kR.mono ?_
      rintro e w10 ⟨rfl, hb10⟩
      have hB10 := stepA hB9 hb10
      have hB11 := hB10.trans (((Below.refl _ _).alloc (Nat.le_refl _) (.cells #[.slice none 0 0, .slice none 0 0, .int .i64 (k : Int), .int .i64 x] 30) : Below w10.heap.size w10 (w10.alloc (.cells #[.slice none 0 0, .slice none 0 0, .int .i64 (k : Int), .int .i64 x] 30))).mono hB10.size)
      have bR := bx_new (w := w10) [.slice none 0 0, .slice none 0 0, .int .i64 (k : Int), .int .i64 x] 30 rfl
      clear kR hb10 hB9 hB10
      go_upto_region 12 with fail
      generalize w10.alloc (.cells #[.slice none 0 0, .slice none 0 0, .int .i64 (k : Int), .int .i64 x] 30) = w11 at *
      have y0 := bR.c0
      have y1 := bR.c1
      have y2 := bR.c2
      have y3 := bR.c3
      have n0 : ((k : Int) != 0) = true := by simp; omega
      clear hk
      go_wp2_with fail
      go_ret
      exact ⟨rfl, hB11⟩
    | ok st =>
      rw [hV] at kR
      obtain ⟨hwr, h6, h7⟩ := rd_wr hV
      obtain ⟨hts, hz1, hz2⟩ := wr_sz hwr
      obtain ⟨p, hrt⟩ := rw_txt hwr
      have hrs : wrS st.R.length (gS st.R) st.A.length (gS st.A) = txtB st.R.length (gS st.R) st.A.length (gS st.A) := by unfold wrS; rw [if_pos hwr]
      rw [range_gS, range_gS] at hrt
      clear hV
      go_wp2_with fail
      refine kR.mono ?_
      rintro e w10 ⟨hQ, hb10⟩
      obtain ⟨ja, jc, oa, oc, rfl, q1, q2, hc1, hc2⟩ := hQ.ok
      clear hQ
      have kW := fun w h1 h2 h3 => iWrite ja st.R.length jc (gS st.R) oa st.A.length oc (gS st.A) w (by omega) (by omega) hc1 hc2 (fun i hi => by have := hz1 i hi; omega) (fun i hi => by have := hz2 i hi; omega) h1 h2 h3
      rw [hwr, hrs] at kW
      generalize txtB st.R.length (gS st.R) st.A.length (gS st.A) = U at *
      have HR : Hid (rwV U = .ok ⟨p, st.R, st.A⟩) := hrt
      clear hrt hz1 hz2 hwr hrs hts
      have hB10 := stepA hB9 hb10
      have hb11 : Below w10.heap.size w10 (w10.alloc (.cells #[.slice ja st.R.length jc, .slice oa st.A.length oc, .int .i64 0, .int .i64 0] 30)) := (Below.refl _ _).alloc (Nat.le_refl _) _
      have hB11 := hB10.trans (hb11.mono hB10.size)
      have bR := bx_new (w := w10) [.slice ja st.R.length jc, .slice oa st.A.length oc, .int .i64 0, .int .i64 0] 30 rfl
      have q11 := q1.below hb11
      have q21 := q2.below hb11
      clear kR hb10 hB9 hB10 hb11 q1 q2
      go_upto_region 12 with fail
      generalize w10.alloc (.cells #[.slice ja st.R.length jc, .slice oa st.A.length oc, .int .i64 0, .int .i64 0] 30) = w11 at *
      have HN : Hid (st.R.length ≤ 1048576 ∧ st.A.length ≤ 1048576) := ⟨by omega, by omega⟩
      have KT1 : Hid (∀ b d w, SL w b st.R.length (gS st.R) → SL w ja st.R.length (gS st.R) → Calls Tryd.prog 9 #[.slice b st.R.length d, .slice ja st.R.length jc] w fun e w' => e = .returned (.bool true) ∧ Below w.heap.size w w') := fun b d w h1 h2 => sTexts b ja st.R.length d jc (gS st.R) w (by omega) h1 h2
      have KT2 : Hid (∀ b d w, SL w b st.A.length (gS st.A) → SL w oa st.A.length (gS st.A) → Calls Tryd.prog 9 #[.slice b st.A.length d, .slice oa st.A.length oc] w fun e w' => e = .returned (.bool true) ∧ Below w.heap.size w w') := fun b d w h1 h2 => sTexts b oa st.A.length d oc (gS st.A) w (by omega) h1 h2
      have kW := kW w11 q11 q21 (HT.out.below hB11)
      have y0 := bR.c0
      have y1 := bR.c1
      have y2 := bR.c2
      have y3 := bR.c3
      go_wp2_with fail
      refine kW.mono ?_
      rintro e w12 ⟨rfl, hb12⟩
      have hB12 := stepA hB11 hb12
      have bR2 := bR.on hb12
      have q12 := q11.below hb12
      have q22 := q21.below hb12
      clear kW y0 y1 y2 y3 bR hB11 hb12 q11 q21
      have kR := KR.out U w12 (HS.out.on hB12) (HT.out.below hB12)
      rw [HR.out] at kR
      go_wp2_with fail
      refine kR.mono ?_
      rintro e w13 ⟨hQ, hb13⟩
      obtain ⟨ia, ic, ua, uc, rfl, v1, v2, -, -⟩ := hQ.ok
      simp only [] at v1 v2
      have hB13 := stepA hB12 hb13
      have hb14 : Below w13.heap.size w13 (w13.alloc (.cells #[.slice ia st.R.length ic, .slice ua st.A.length uc, .int .i64 0, .int .i64 0] 30)) := (Below.refl _ _).alloc (Nat.le_refl _) _
      have hB14 := hB13.trans (hb14.mono hB13.size)
      have hb24 := hb13.trans (hb14.mono hb13.size)
      have bR4 := bR2.on hb24
      have bI := bx_new (w := w13) [.slice ia st.R.length ic, .slice ua st.A.length uc, .int .i64 0, .int .i64 0] 30 rfl
      have q14 := q12.below hb24
      have q24 := q22.below hb24
      have v14 := v1.below hb14
      have v24 := v2.below hb14
      clear hQ kR HR hb13 hb14 hb24 hB12 hB13 bR2 q12 q22 v1 v2
      go_upto_region 16 with fail
      generalize w13.alloc (.cells #[.slice ia st.R.length ic, .slice ua st.A.length uc, .int .i64 0, .int .i64 0] 30) = w14 at *
      have y0 := bR4.c0
      have y1 := bR4.c1
      have z0 := bI.c0
      have z1 := bI.c1
      have z2 := bI.c2
      go_wp2_with fail
      refine (KT1.out ia ic w14 v14 q14).mono ?_
      rintro e w15 ⟨rfl, hb15⟩
      have hB15 := stepA hB14 hb15
      have bR5 := bR4.on hb15
      have bI5 := bI.on hb15
      have q25 := q24.below hb15
      have v25 := v24.below hb15
      clear y0 y1 z0 z1 z2 bR4 bI hb15 hB14 q14 q24 v14 v24 KT1
      have y0 := bR5.c0
      have y1 := bR5.c1
      have z0 := bI5.c0
      have z1 := bI5.c1
      have z2 := bI5.c2
      go_wp2_with fail
      refine (KT2.out ua uc w15 v25 q25).mono ?_
      rintro e w16 ⟨rfl, hb16⟩
      have hB16 := stepA hB15 hb16
      clear y0 y1 z0 z1 z2 bR5 bI5 hb16 hB15 q25 v25 KT2
      go_wp2
      go_ret
      exact ⟨rfl, hB16⟩
  | true =>
    subst hBv
    obtain ⟨p0, hV0⟩ := HV.out rfl
    rw [hV0] at hQ
    obtain ⟨ja, jc, oa, oc, rfl, t1, t2, -, -⟩ := hQ.ok
    simp only [List.length_map, List.length_range] at t1 t2 ⊢
    have t1 := t1.congrT (g := re) (fun i hi => gS_map re hi)
    have t2 := t2.congrT (g := av) (fun i hi => gS_map av hi)
    have hb6 : Below w5.heap.size w5 (w5.alloc (.cells #[.slice ja rn jc, .slice oa an oc, .int .i64 0, .int .i64 0] 30)) := (Below.refl _ _).alloc (Nat.le_refl _) _
    have bR := bx_new (w := w5) [.slice ja rn jc, .slice oa an oc, .int .i64 0, .int .i64 0] 30 rfl
    have hB6 := hB5.trans (hb6.mono hB5.size)
    have bW6 := bW5.on hb6
    have s16 := s15.below hb6
    have s26 := s25.below hb6
    have t16 := t1.below hb6
    have t26 := t2.below hb6
    clear hQ hb6 hB5 bW5 s15 s25 t1 t2 HV hV0
    go_upto_region 9 with fail
    generalize w5.alloc (.cells #[.slice ja rn jc, .slice oa an oc, .int .i64 0, .int .i64 0] 30) = w6 at *
    have x0 := bW6.c0
    have x1 := bW6.c1
    have z0 := bR.c0
    have z1 := bR.c1
    have z2 := bR.c2
    go_wp2_with fail
    refine (sTexts ja ra rn jc rc re w6 (by omega) t16 s16).mono ?_
    rintro e w7 ⟨rfl, hb7⟩
    have hB7 := stepA hB6 hb7
    have bW7 := bW6.on hb7
    have bR7 := bR.on hb7
    have s27 := s26.below hb7
    have t27 := t26.below hb7
    clear x0 x1 z0 z1 z2 bW6 bR hb7 hB6 s16 s26 t16 t26
    have x0 := bW7.c0
    have x1 := bW7.c1
    have z0 := bR7.c0
    have z1 := bR7.c1
    have z2 := bR7.c2
    go_wp2_with fail
    refine (sTexts oa aa an oc ac av w7 (by omega) t27 s27).mono ?_
    rintro e W8 ⟨rfl, hb8⟩
    have hB8 := stepA hB7 hb8
    clear x0 x1 z0 z1 z2 bW7 bR7 hb8 hB7 s27 t27
    go_wp2_with fail
    refine (drawRW A2 len2 cap2 W8 (by omega) (HD2.out.below hB8)).mono ?_
    rintro e w9 ⟨s, rfl, -, hb9⟩
    have hB9 := stepA hB8 hb9
    clear hb9 hB8
    have kR := KR.out s w9 (HS.out.on hB9) (HT.out.below hB9)
    cases hV : rwV s with
    | error q =>
      obtain ⟨k, x⟩ := q
      have hk := rwV_k hV
      rw [hV] at kR
      clear hV
      go_wp2_with fail
      refine kR.mono ?_
      rintro e w10 ⟨rfl, hb10⟩
      have hB10 := stepA hB9 hb10
      have hB11 := hB10.trans (((Below.refl _ _).alloc (Nat.le_refl _) (.cells #[.slice none 0 0, .slice none 0 0, .int .i64 (k : Int), .int .i64 x] 30) : Below w10.heap.size w10 (w10.alloc (.cells #[.slice none 0 0, .slice none 0 0, .int .i64 (k : Int), .int .i64 x] 30))).mono hB10.size)
      have bR := bx_new (w := w10) [.slice none 0 0, .slice none 0 0, .int .i64 (k : Int), .int .i64 x] 30 rfl
      clear kR hb10 hB9 hB10
      go_upto_region 12 with fail
      generalize w10.alloc (.cells #[.slice none 0 0, .slice none 0 0, .int .i64 (k : Int), .int .i64 x] 30) = w11 at *
      have y0 := bR.c0
      have y1 := bR.c1
      have y2 := bR.c2
      have y3 := bR.c3
      have n0 : ((k : Int) != 0) = true := by simp; omega
      clear hk
      go_wp2_with fail
      go_ret
      exact ⟨rfl, hB11⟩
    | ok st =>
      rw [hV] at kR
      obtain ⟨hwr, h6, h7⟩ := rd_wr hV
      obtain ⟨hts, hz1, hz2⟩ := wr_sz hwr
      obtain ⟨p, hrt⟩ := rw_txt hwr
      have hrs : wrS st.R.length (gS st.R) st.A.length (gS st.A) = txtB st.R.length (gS st.R) st.A.length (gS st.A) := by unfold wrS; rw [if_pos hwr]
      rw [range_gS, range_gS] at hrt
      clear hV
      go_wp2_with fail
      refine kR.mono ?_
      rintro e w10 ⟨hQ, hb10⟩
      obtain ⟨ja, jc, oa, oc, rfl, q1, q2, hc1, hc2⟩ := hQ.ok
      clear hQ
      have kW := fun w h1 h2 h3 => iWrite ja st.R.length jc (gS st.R) oa st.A.length oc (gS st.A) w (by omega) (by omega) hc1 hc2 (fun i hi => by have := hz1 i hi; omega) (fun i hi => by have := hz2 i hi; omega) h1 h2 h3
      rw [hwr, hrs] at kW
      generalize txtB st.R.length (gS st.R) st.A.length (gS st.A) = U at *
      have HR : Hid (rwV U = .ok ⟨p, st.R, st.A⟩) := hrt
      clear hrt hz1 hz2 hwr hrs hts
      have hB10 := stepA hB9 hb10
      have hb11 : Below w10.heap.size w10 (w10.alloc (.cells #[.slice ja st.R.length jc, .slice oa st.A.length oc, .int .i64 0, .int .i64 0] 30)) := (Below.refl _ _).alloc (Nat.le_refl _) _
      have hB11 := hB10.trans (hb11.mono hB10.size)
      have bR := bx_new (w := w10) [.slice ja st.R.length jc, .slice oa st.A.length oc, .int .i64 0, .int .i64 0] 30 rfl
      have q11 := q1.below hb11
      have q21 := q2.below hb11
      clear kR hb10 hB9 hB10 hb11 q1 q2
      go_upto_region 12 with fail
      generalize w10.alloc (.cells #[.slice ja st.R.length jc, .slice oa st.A.length oc, .int .i64 0, .int .i64 0] 30) = w11 at *
      have HN : Hid (st.R.length ≤ 1048576 ∧ st.A.length ≤ 1048576) := ⟨by omega, by omega⟩
      have KT1 : Hid (∀ b d w, SL w b st.R.length (gS st.R) → SL w ja st.R.length (gS st.R) → Calls Tryd.prog 9 #[.slice b st.R.length d, .slice ja st.R.length jc] w fun e w' => e = .returned (.bool true) ∧ Below w.heap.size w w') := fun b d w h1 h2 => sTexts b ja st.R.length d jc (gS st.R) w (by omega) h1 h2
      have KT2 : Hid (∀ b d w, SL w b st.A.length (gS st.A) → SL w oa st.A.length (gS st.A) → Calls Tryd.prog 9 #[.slice b st.A.length d, .slice oa st.A.length oc] w fun e w' => e = .returned (.bool true) ∧ Below w.heap.size w w') := fun b d w h1 h2 => sTexts b oa st.A.length d oc (gS st.A) w (by omega) h1 h2
      have kW := kW w11 q11 q21 (HT.out.below hB11)
      have y0 := bR.c0
      have y1 := bR.c1
      have y2 := bR.c2
      have y3 := bR.c3
      go_wp2_with fail
      refine kW.mono ?_
      rintro e w12 ⟨rfl, hb12⟩
      have hB12 := stepA hB11 hb12
      have bR2 := bR.on hb12
      have q12 := q11.below hb12
      have q22 := q21.below hb12
      clear kW y0 y1 y2 y3 bR hB11 hb12 q11 q21
      have kR := KR.out U w12 (HS.out.on hB12) (HT.out.below hB12)
      rw [HR.out] at kR
      go_wp2_with fail
      refine kR.mono ?_
      rintro e w13 ⟨hQ, hb13⟩
      obtain ⟨ia, ic, ua, uc, rfl, v1, v2, -, -⟩ := hQ.ok
      simp only [] at v1 v2
      have hB13 := stepA hB12 hb13
      have hb14 : Below w13.heap.size w13 (w13.alloc (.cells #[.slice ia st.R.length ic, .slice ua st.A.length uc, .int .i64 0, .int .i64 0] 30)) := (Below.refl _ _).alloc (Nat.le_refl _) _
      have hB14 := hB13.trans (hb14.mono hB13.size)
      have hb24 := hb13.trans (hb14.mono hb13.size)
      have bR4 := bR2.on hb24
      have bI := bx_new (w := w13) [.slice ia st.R.length ic, .slice ua st.A.length uc, .int .i64 0, .int .i64 0] 30 rfl
      have q14 := q12.below hb24
      have q24 := q22.below hb24
      have v14 := v1.below hb14
      have v24 := v2.below hb14
      clear hQ kR HR hb13 hb14 hb24 hB12 hB13 bR2 q12 q22 v1 v2
      go_upto_region 16 with fail
      generalize w13.alloc (.cells #[.slice ia st.R.length ic, .slice ua st.A.length uc, .int .i64 0, .int .i64 0] 30) = w14 at *
      have y0 := bR4.c0
      have y1 := bR4.c1
      have z0 := bI.c0
      have z1 := bI.c1
      have z2 := bI.c2
      go_wp2_with fail
      refine (KT1.out ia ic w14 v14 q14).mono ?_
      rintro e w15 ⟨rfl, hb15⟩
      have hB15 := stepA hB14 hb15
      have bR5 := bR4.on hb15
      have bI5 := bI.on hb15
      have q25 := q24.below hb15
      have v25 := v24.below hb15
      clear y0 y1 z0 z1 z2 bR4 bI hb15 hB14 q14 q24 v14 v24 KT1
      have y0 := bR5.c0
      have y1 := bR5.c1
      have z0 := bI5.c0
      have z1 := bI5.c1
      have z2 := bI5.c2
      go_wp2_with fail
      refine (KT2.out ua uc w15 v25 q25).mono ?_
      rintro e w16 ⟨rfl, hb16⟩
      have hB16 := stepA hB15 hb16
      clear y0 y1 z0 z1 z2 bR5 bI5 hb16 hB15 q25 v25 KT2
      go_wp2
      go_ret
      exact ⟨rfl, hB16⟩
end Go.Proofs.YtmlfijapndkfhaaDoor
