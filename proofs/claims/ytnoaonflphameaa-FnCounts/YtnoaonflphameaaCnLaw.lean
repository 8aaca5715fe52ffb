/- The law FnCounts, walked. -/
import Derived.Test.YtnoaonflphameaaCnDrA
import Derived.Test.YtnoaonflphameaaCnSame
import Derived.Deep.CutRange
namespace Go.Proofs.Ytnoaonflphameaa
open Go.RowKit

theorem qN_le {n k : Nat} {q : Bool} (h : n ≤ k) : qN n q ≤ k := by unfold qN; split <;> omega

set_option maxHeartbeats 8000000 in
set_option maxRecDepth 20000 in
theorem fnCounts_in (a : Option Addr) (len cap : Nat) (a' : Option Addr) (len' cap' : Nat) (w : World) (hl : len ≤ 1048576) (hl' : len' ≤ 1048576) (hb : 0 < len → ∃ b off, a = some ⟨b, off, none⟩ ∧ b < w.heap.size ∧ ∀ i, i < len → ∃ v : Int, w.cell? ⟨b, off + i, none⟩ = some (.int .u8 v) ∧ 0 ≤ v ∧ v ≤ 255)
    (hb' : 0 < len' → ∃ b off, a' = some ⟨b, off, none⟩ ∧ b < w.heap.size ∧ ∀ i, i < len' → ∃ v : Int, w.cell? ⟨b, off + i, none⟩ = some (.int .u8 v) ∧ 0 ≤ v ∧ v ≤ 255) :
    Calls Try.prog 3 #[.slice a len cap, .slice a' len' cap'] w fun e w' => e = .returned (.bool true) ∧ Below w.heap.size w w' := by
  have hD := drawRay a len cap w hl hb
  have hz : ∀ wx, Below w.heap.size w wx → Calls Try.prog 8 #[.slice a' len' cap', .int .i64 0] wx fun e w' => (∃ v : Int, e = .returned (.int .i64 v) ∧ 0 ≤ v ∧ v ≤ 255) ∧ w' = wx := fun wx k => by
    refine zByte_any a' len' cap' wx fun h0 => ?_
    obtain ⟨b, off, ha, hbw, hc⟩ := hb' h0
    refine ⟨b, off, ha, Nat.lt_of_lt_of_le hbw k.size, fun i hi => ?_⟩
    obtain ⟨v, hv, hv1⟩ := hc i hi
    exact ⟨v, (k.cell (p := ⟨b, _, none⟩) hbw).trans hv, hv1⟩
  have j1 : (len : Int) ≤ 1048576 := by omega
  have j2 : (len' : Int) ≤ 1048576 := by omega
  clear hb hb'
  go_enter Try.func3, Try.ntmps3
  go_wp2_with fail
  refine hD.mono ?_
  rintro e w1 ⟨V, av, n, c, bv, m, d, F, G, x1, y1, x2, y2, hit, rfl, ilF, ilG, hn, hm, hV0, hV1, hB⟩
  clear hD
  go_upto_region 4 with fail
  have kA := (Below.refl w1.heap.size w1).alloc (Nat.le_refl _) (cntO V av n c bv m d 25)
  have bx0 := bx_new (b := w1.heap.size) (w := w1) (cntL V av n c bv m d) 25 rfl
  replace ilF := ilF.below kA
  replace ilG := ilG.below kA
  replace hB := stepA hB kA
  clear kA
  generalize w1.alloc (cntO V av n c bv m d 25) = w2 at bx0 ilF ilG hB ⊢
  generalize w1.heap.size = M0 at bx0 ⊢
  have c0 := bx0.c0
  have hwV : IntKind.i64.wrap (V + 1) = V + 1 := IntWalk.i64_in _ ⟨by omega, by omega⟩
  have hVz : ¬ V + 1 = 0 := by omega
  have hBd := hB.drew
  go_cut [11] from 39 to 44 (fun s wx => ∃ z : Int, s = .int .i64 z ∧ Below w2.heap.size w2 wx)
  case first =>
    go_region_with (first | (go_at_call 8; refine (hz _ hBd).mono ?_; rintro e w3 ⟨⟨v, rfl, hv0, hv1⟩, hw'⟩; have hs := hw'.symm; clear hw'; subst hs) | (fail))
    all_goals
      go_wp2_with fail
      go_meet
      case rel => exact ⟨_, rfl, (Below.refl _ _).drew⟩
  case rest =>
    obtain ⟨z, rfl, hbn⟩ := hcut
    replace bx0 := bx0.on hbn
    replace ilF := ilF.below hbn
    replace ilG := ilG.below hbn
    replace hB := stepA hB hbn
    clear hbn c0 hwV hVz hBd hz
    generalize wc = w3 at bx0 ilF ilG hB ⊢
    have hr1 := fun w hx hy => implRayV V av bv n c m d F G x1 y1 x2 y2 hit w (by omega) (by omega) hx hy
    have hs1 := fun w hx hy => specRayV V av bv n c m d F G x1 y1 x2 y2 hit w (by omega) (by omega) hx hy
    generalize hQ1 : rayQ V n F m G x1 y1 x2 y2 hit = Q1 at hr1 hs1
    have hle1 : qN n Q1 ≤ 300 := qN_le (by omega)
    generalize hW1 : qW V Q1 = V1 at hr1 hs1
    generalize hN1 : qN n Q1 = n1 at hr1 hs1 hle1
    generalize hF1 : rayF F (rid V x1 y1 x2 y2) (rN x1 y1 x2 y2) hit = F1 at hr1 hs1
    generalize hG1 : rayG G (rid V x1 y1 x2 y2) (rN x1 y1 x2 y2) hit = G1 at hr1 hs1
    have HW1 : Hid (qW V Q1 = V1) := hW1
    have HN1 : Hid (qN n Q1 = n1) := hN1
    have HF1 : Hid (rayF F (rid V x1 y1 x2 y2) (rN x1 y1 x2 y2) hit = F1) := hF1
    have HG1 : Hid (rayG G (rid V x1 y1 x2 y2) (rN x1 y1 x2 y2) hit = G1) := hG1
    clear hQ1 hW1 hN1 hF1 hG1
    obtain ⟨e0, e1, e2⟩ := cnt_three bx0
    go_wp2_with fail
    refine (hr1 _ ilF ilG).mono ?_
    rintro e w4 ⟨⟨A1, c1, B1, d1, rfl, cp1⟩, hbn⟩
    clear e0 e1 e2
    replace bx0 := bx0.on hbn
    replace ilF := ilF.below hbn
    replace ilG := ilG.below hbn
    replace hB := stepA hB hbn
    clear hbn
    go_upto_region 6 with fail
    have kA := (Below.refl w4.heap.size w4).alloc (Nat.le_refl _) (cntO V1 A1 n1 c1 B1 n1 d1 25)
    have bx1 := bx_new (b := w4.heap.size) (w := w4) (cntL V1 A1 n1 c1 B1 n1 d1) 25 rfl
    replace bx0 := bx0.on kA
    replace ilF := ilF.below kA
    replace ilG := ilG.below kA
    replace cp1 := cp1.on kA
    replace hB := stepA hB kA
    clear kA
    generalize w4.alloc (cntO V1 A1 n1 c1 B1 n1 d1 25) = w5 at bx1 bx0 ilF ilG cp1 hB ⊢
    generalize w4.heap.size = M1 at bx1 ⊢
    obtain ⟨e0, e1, e2⟩ := cnt_three bx0
    go_wp2_with fail
    refine (hs1 _ ilF ilG).mono ?_
    rintro e w6 ⟨⟨A9, c9, B9, d9, rfl, cp9⟩, hbn⟩
    clear e0 e1 e2
    replace bx0 := bx0.on hbn
    replace bx1 := bx1.on hbn
    replace ilF := ilF.below hbn
    replace ilG := ilG.below hbn
    replace cp1 := cp1.on hbn
    replace hB := stepA hB hbn
    clear hbn
    go_upto_region 7 with fail
    clear cp9
    have kA := (Below.refl w6.heap.size w6).alloc (Nat.le_refl _) (cntO V1 A9 n1 c9 B9 n1 d9 25)
    have bx9 := bx_new (b := w6.heap.size) (w := w6) (cntL V1 A9 n1 c9 B9 n1 d9) 25 rfl
    replace bx0 := bx0.on kA
    replace bx1 := bx1.on kA
    replace ilF := ilF.below kA
    replace ilG := ilG.below kA
    replace cp1 := cp1.on kA
    replace hB := stepA hB kA
    clear kA
    generalize w6.alloc (cntO V1 A9 n1 c9 B9 n1 d9 25) = w7 at bx9 bx0 bx1 ilF ilG cp1 hB ⊢
    generalize w6.heap.size = M9 at bx9 ⊢
    clear bx9 hs1 hr1
    have hr2 := fun w hx hy => implRayV V1 A1 B1 n1 c1 n1 d1 F1 G1 z 0 x1 y1 (!hit) w (by omega) (by omega) hx hy
    generalize hQ2 : rayQ V1 n1 F1 n1 G1 z 0 x1 y1 (!hit) = Q2 at hr2
    have hle2 : qN n1 Q2 ≤ 300 := qN_le (by omega)
    generalize hW2 : qW V1 Q2 = V2 at hr2
    generalize hN2 : qN n1 Q2 = n2 at hr2 hle2
    generalize hF2 : rayF F1 (rid V1 z 0 x1 y1) (rN z 0 x1 y1) (!hit) = F2 at hr2
    generalize hG2 : rayG G1 (rid V1 z 0 x1 y1) (rN z 0 x1 y1) (!hit) = G2 at hr2
    have HW2 : Hid (qW V1 Q2 = V2) := hW2
    have HN2 : Hid (qN n1 Q2 = n2) := hN2
    have HF2 : Hid (rayF F1 (rid V1 z 0 x1 y1) (rN z 0 x1 y1) (!hit) = F2) := hF2
    have HG2 : Hid (rayG G1 (rid V1 z 0 x1 y1) (rN z 0 x1 y1) (!hit) = G2) := hG2
    clear hQ2 hW2 hN2 hF2 hG2
    obtain ⟨e0, e1, e2⟩ := cnt_three bx1
    go_wp2_with fail
    refine (hr2 _ cp1.il1 cp1.il2).mono ?_
    rintro e w8 ⟨⟨A2, c2, B2, d2, rfl, cp2⟩, hbn⟩
    clear e0 e1 e2
    replace bx0 := bx0.on hbn
    replace bx1 := bx1.on hbn
    replace ilF := ilF.below hbn
    replace ilG := ilG.below hbn
    replace cp1 := cp1.on hbn
    replace hB := stepA hB hbn
    clear hbn
    go_upto_region 10 with fail
    have kA := (Below.refl w8.heap.size w8).alloc (Nat.le_refl _) (cntO V2 A2 n2 c2 B2 n2 d2 25)
    have bx2 := bx_new (b := w8.heap.size) (w := w8) (cntL V2 A2 n2 c2 B2 n2 d2) 25 rfl
    replace bx0 := bx0.on kA
    replace bx1 := bx1.on kA
    replace ilF := ilF.below kA
    replace ilG := ilG.below kA
    replace cp1 := cp1.on kA
    replace cp2 := cp2.on kA
    replace hB := stepA hB kA
    clear kA
    generalize w8.alloc (cntO V2 A2 n2 c2 B2 n2 d2 25) = w9 at bx2 bx0 bx1 ilF ilG cp1 cp2 hB ⊢
    generalize w8.heap.size = M2 at bx2 ⊢
    clear hr2
    have hr3 := fun w hx hy => implRayV V av bv n c m d F G z 0 x1 y1 (!hit) w (by omega) (by omega) hx hy
    generalize hQ3 : rayQ V n F m G z 0 x1 y1 (!hit) = Q3 at hr3
    have hle3 : qN n Q3 ≤ 300 := qN_le (by omega)
    generalize hW3 : qW V Q3 = V3 at hr3
    generalize hN3 : qN n Q3 = n3 at hr3 hle3
    generalize hF3 : rayF F (rid V z 0 x1 y1) (rN z 0 x1 y1) (!hit) = F3 at hr3
    generalize hG3 : rayG G (rid V z 0 x1 y1) (rN z 0 x1 y1) (!hit) = G3 at hr3
    have HW3 : Hid (qW V Q3 = V3) := hW3
    have HN3 : Hid (qN n Q3 = n3) := hN3
    have HF3 : Hid (rayF F (rid V z 0 x1 y1) (rN z 0 x1 y1) (!hit) = F3) := hF3
    have HG3 : Hid (rayG G (rid V z 0 x1 y1) (rN z 0 x1 y1) (!hit) = G3) := hG3
    clear hQ3 hW3 hN3 hF3 hG3
    obtain ⟨e0, e1, e2⟩ := cnt_three bx0
    go_wp2_with fail
    refine (hr3 _ ilF ilG).mono ?_
    rintro e w10 ⟨⟨A3, c3, B3, d3, rfl, cp3⟩, hbn⟩
    clear e0 e1 e2
    replace bx0 := bx0.on hbn
    replace bx2 := bx2.on hbn
    replace ilF := ilF.below hbn
    replace ilG := ilG.below hbn
    replace cp2 := cp2.on hbn
    replace hB := stepA hB hbn
    clear hbn
    go_upto_region 11 with fail
    have kA := (Below.refl w10.heap.size w10).alloc (Nat.le_refl _) (cntO V3 A3 n3 c3 B3 n3 d3 25)
    have bx3 := bx_new (b := w10.heap.size) (w := w10) (cntL V3 A3 n3 c3 B3 n3 d3) 25 rfl
    replace bx0 := bx0.on kA
    replace bx2 := bx2.on kA
    replace ilF := ilF.below kA
    replace ilG := ilG.below kA
    replace cp2 := cp2.on kA
    replace cp3 := cp3.on kA
    replace hB := stepA hB kA
    clear kA
    generalize w10.alloc (cntO V3 A3 n3 c3 B3 n3 d3 25) = w11 at bx3 bx0 bx2 ilF ilG cp2 cp3 hB ⊢
    generalize w10.heap.size = M3 at bx3 ⊢
    clear hr3 bx0 ilF ilG
    have hr4 := fun w hx hy => implRayV V3 A3 B3 n3 c3 n3 d3 F3 G3 x1 y1 x2 y2 hit w (by omega) (by omega) hx hy
    generalize hQ4 : rayQ V3 n3 F3 n3 G3 x1 y1 x2 y2 hit = Q4 at hr4
    have hle4 : qN n3 Q4 ≤ 300 := qN_le (by omega)
    generalize hW4 : qW V3 Q4 = V4 at hr4
    generalize hN4 : qN n3 Q4 = n4 at hr4 hle4
    generalize hF4 : rayF F3 (rid V3 x1 y1 x2 y2) (rN x1 y1 x2 y2) hit = F4 at hr4
    generalize hG4 : rayG G3 (rid V3 x1 y1 x2 y2) (rN x1 y1 x2 y2) hit = G4 at hr4
    have HW4 : Hid (qW V3 Q4 = V4) := hW4
    have HN4 : Hid (qN n3 Q4 = n4) := hN4
    have HF4 : Hid (rayF F3 (rid V3 x1 y1 x2 y2) (rN x1 y1 x2 y2) hit = F4) := hF4
    have HG4 : Hid (rayG G3 (rid V3 x1 y1 x2 y2) (rN x1 y1 x2 y2) hit = G4) := hG4
    clear hQ4 hW4 hN4 hF4 hG4
    obtain ⟨e0, e1, e2⟩ := cnt_three bx3
    go_wp2_with fail
    refine (hr4 _ cp3.il1 cp3.il2).mono ?_
    rintro e w12 ⟨⟨A4, c4, B4, d4, rfl, cp4⟩, hbn⟩
    clear e0 e1 e2
    replace bx2 := bx2.on hbn
    replace bx3 := bx3.on hbn
    replace cp2 := cp2.on hbn
    replace cp3 := cp3.on hbn
    replace hB := stepA hB hbn
    clear hbn
    go_upto_region 12 with fail
    have kA := (Below.refl w12.heap.size w12).alloc (Nat.le_refl _) (cntO V4 A4 n4 c4 B4 n4 d4 25)
    have bx4 := bx_new (b := w12.heap.size) (w := w12) (cntL V4 A4 n4 c4 B4 n4 d4) 25 rfl
    replace bx2 := bx2.on kA
    replace bx3 := bx3.on kA
    replace cp2 := cp2.on kA
    replace cp3 := cp3.on kA
    replace cp4 := cp4.on kA
    replace hB := stepA hB kA
    clear kA
    generalize w12.alloc (cntO V4 A4 n4 c4 B4 n4 d4 25) = w13 at bx4 bx2 bx3 cp2 cp3 cp4 hB ⊢
    generalize w12.heap.size = M4 at bx4 ⊢
    clear hr4 bx3 cp3
    cases Q1 with
    | false =>
      go_wp2
      go_ret
      exact ⟨rfl, hB⟩
    | true =>
      cases Q2 with
      | false =>
        go_wp2
        go_ret
        exact ⟨rfl, hB⟩
      | true =>
        cases Q3 with
        | false =>
          go_wp2
          go_ret
          exact ⟨rfl, hB⟩
        | true =>
          cases Q4 with
          | false =>
            go_wp2
            go_ret
            exact ⟨rfl, hB⟩
          | true =>
            have t1 : V1 = V := HW1.out.symm
            have t2 : n1 = n := HN1.out.symm
            have t3 : V3 = V := HW3.out.symm
            have t4 : n3 = n := HN3.out.symm
            subst t1
            subst t2
            subst t3
            subst t4
            have t5 : V2 = V3 := HW2.out.symm
            have t6 : n2 = n3 := HN2.out.symm
            have t7 : V4 = V3 := HW4.out.symm
            have t8 : n4 = n3 := HN4.out.symm
            subst t5
            subst t6
            subst t7
            subst t8
            have t9 : F2 = F4 := by rw [← HF2.out, ← HF4.out, ← HF1.out, ← HF3.out]; exact rayF_comm _ _ _ _ _ _
            have t10 : G2 = G4 := by rw [← HG2.out, ← HG4.out, ← HG1.out, ← HG3.out]; exact rayG_comm _ _ _ _ _ _
            subst t9
            subst t10
            clear HF1 HF2 HF3 HF4 HG1 HG2 HG3 HG4 HW1 HW2 HW3 HW4 HN1 HN2 HN3 HN4
            obtain ⟨e0, e1, e2⟩ := cnt_three bx2
            obtain ⟨s0, s1, s2⟩ := cnt_three bx4
            go_wp2_with fail
            refine (same_any _ _ _ _ _ _ _ _ _ _ _ _ _ (by omega) cp2.il1 cp2.il2 cp4.il1 cp4.il2).mono ?_
            rintro e w14 ⟨rfl, hbn⟩
            replace hB := stepA hB hbn
            go_wp2
            go_ret
            exact ⟨rfl, hB⟩
set_option maxHeartbeats 400000 in
theorem fnCounts_long1 (a : Option Addr) (len cap : Nat) (a' : Option Addr) (len' cap' : Nat) (w : World) (hl : ¬ len ≤ 1048576) :
    Calls Try.prog 3 #[.slice a len cap, .slice a' len' cap'] w fun e w' => e = .returned (.bool true) ∧ Below w.heap.size w w' := by
  have j1 : ¬ (len : Int) ≤ 1048576 := by omega
  go_enter Try.func3, Try.ntmps3
  go_wp2
  go_ret
  exact ⟨rfl, Below.refl _ _⟩
set_option maxHeartbeats 400000 in
theorem fnCounts_long2 (a : Option Addr) (len cap : Nat) (a' : Option Addr) (len' cap' : Nat) (w : World) (hl : len ≤ 1048576) (hl' : ¬ len' ≤ 1048576) :
    Calls Try.prog 3 #[.slice a len cap, .slice a' len' cap'] w fun e w' => e = .returned (.bool true) ∧ Below w.heap.size w w' := by
  have j1 : (len : Int) ≤ 1048576 := by omega
  have j2 : ¬ (len' : Int) ≤ 1048576 := by omega
  go_enter Try.func3, Try.ntmps3
  go_wp2
  go_ret
  exact ⟨rfl, Below.refl _ _⟩
theorem fnCountsAll (a : Option Addr) (len cap : Nat) (a' : Option Addr) (len' cap' : Nat) (w : World) (hb : 0 < len → ∃ b off, a = some ⟨b, off, none⟩ ∧ b < w.heap.size ∧ ∀ i, i < len → ∃ v : Int, w.cell? ⟨b, off + i, none⟩ = some (.int .u8 v) ∧ 0 ≤ v ∧ v ≤ 255)
    (hb' : 0 < len' → ∃ b off, a' = some ⟨b, off, none⟩ ∧ b < w.heap.size ∧ ∀ i, i < len' → ∃ v : Int, w.cell? ⟨b, off + i, none⟩ = some (.int .u8 v) ∧ 0 ≤ v ∧ v ≤ 255) :
    Calls Try.prog 3 #[.slice a len cap, .slice a' len' cap'] w fun e w' => e = .returned (.bool true) ∧ Below w.heap.size w w' := by
  by_cases h : len ≤ 1048576
  · by_cases h' : len' ≤ 1048576
    · exact fnCounts_in a len cap a' len' cap' w h h' hb hb'
    · exact fnCounts_long2 a len cap a' len' cap' w h h'
  · exact fnCounts_long1 a len cap a' len' cap' w h
end Go.Proofs.Ytnoaonflphameaa
