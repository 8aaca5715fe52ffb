/- Answer times, as the model finds them (tools/gen_pn2.py). -/
import Derived.Test.YtnadedncjbibhaaPnGood
import Derived.Test.YtnadedncjbibhaaPnApp
import Derived.Test.YtnadedncjbibhaaTaB
import Derived.BigRegion
namespace Go.Proofs.Ytnadedncjbibhaa
open Go.RowKit
theorem row_zero {w : World} {b n : Nat} (h : w.rowIs b 3 n (fun _ => .int .i64 0)) : IP w b n (fun _ => 0) := ⟨h.lt, fun _ hi => h.cell hi, fun j => h.frozen j⟩
set_option maxRecDepth 20000 in
set_option maxHeartbeats 4000000 in
theorem sTimes (a : Option Addr) (n c : Nat) (F : Nat → Int) (w : World) (h : IL w a (n * 3) F) :
    Calls Try.prog 19 #[.slice a n c] w fun e w' => AnsTb w w' e (atN n F) (atV F) (gcV n F) ∧ Below w.heap.size w w' := by
  cases hv : gcV n F with
  | false =>
    have HV : Hid (gcV n F = false) := hv
    have HA : ∀ w', Hid (AnsTb w w' (.returned (.tuple #[.slice none 0 0, .bool false])) (atN n F) (atV F) false) := fun w' => by unfold atN; rw [hv]; exact ansTb_nil _ _ _ _
    clear hv
    go_enter Try.func19, Try.ntmps19
    go_wp2_with fail
    refine (sGoodC a n c F w h).mono ?_
    rintro e w1 ⟨rfl, hb1⟩
    rw [HV.out]
    go_wp2
    go_ret2
    exact ⟨(HA _).out, hb1⟩
  | true =>
    have HV : Hid (gcV n F = true) := hv
    have HG : Hid (Gc n F) := gcV_gc hv
    have HA : Hid (atN n F = n) := by unfold atN; rw [hv]; rfl
    rw [HA.out]
    have hn6 := HG.out.six
    clear hv
    have hmk := run_make_row' (P := Try.prog) 24 3 (.int .i64 0) 8 Try.underlying24 infoI rfl .i64 .i64 n (by omega) (by omega)
    go_enter Try.func19, Try.ntmps19
    go_wp2_with fail
    refine (sGoodC a n c F w h).mono ?_
    rintro e w1 ⟨rfl, hb1⟩
    rw [HV.out]
    have hi0 : Hid (IP (w1.alloc (.cells (madeCells #[.int .i64 0] n) 3)) w1.heap.size n (fun _ => 0)) := row_zero (World.rowIs_made w1 (.int .i64 0) n 3)
    have hB2 : Below w.heap.size w (w1.alloc (.cells (madeCells #[.int .i64 0] n) 3)) := hb1.alloc hb1.size _
    have hz := hb1.size
    go_wp2
    clear hmk hb1
    generalize w1.alloc (.cells (madeCells #[.int .i64 0] n) 3) = w2 at hi0 hB2 ⊢
    generalize w1.heap.size = K at hi0 hz ⊢
    go_loopw [18] (fun i wr => ∃ (k : Nat), k ≤ n ∧ i = .int .i64 (k : Int) ∧ Below w.heap.size w wr ∧ (∃ G, IP wr K n G ∧ ∀ j, j < k → AtIs F j (G j))) (fun i _ => n - (intOf i).toNat)
    case atStart => exact ⟨0, Nat.zero_le _, rfl, hB2, _, hi0.out, fun j hj => absurd hj (Nat.not_lt_zero _)⟩
    case round =>
      obtain ⟨k, hk, rfl, hB, G, hP, hF⟩ := hrel
      clear hi0 hB2
      by_cases hlt : k < n
      · obtain ⟨gb, go_, ha, gl_, x0, x1, x2⟩ := il_three (h.below hB) hlt
        have i0 : (0 : Int) ≤ (k : Int) := by omega
        have i1 : (k : Int) < (n : Int) := by omega
        have HF : Hid (∀ j, j < k → AtIs F j (G j)) := hF
        have n1 := HG.out.n1 k hlt
        have n2 := HG.out.n2 k hlt
        have d1 := HG.out.d1 k hlt
        have d2 := HG.out.d2 k hlt
        have p2 := HG.out.p2 k hlt
        have hNA := noAt_start F k
        have HNA : Hid (NoAt F k (F (k * 3 + 1))) := hNA
        clear hF hNA
        generalize hPP : F (k * 3) = P at *
        generalize hNN : F (k * 3 + 1) = N at *
        generalize hDD : F (k * 3 + 2) = D at *
        have HNN : Hid (F (k * 3 + 1) = N) := hNN
        have HDD : Hid (F (k * 3 + 2) = D) := hDD
        clear hPP hNN hDD
        subst ha
        have hKl := hP.lt
        have q0 := hP.c k hlt
        have q1 := hP.fz k
        have hP4 := hP.set (k := k) hlt (-1)
        have hB4 := hB.setCell (p := ⟨K, k, none⟩) hz (.int .i64 (-1))
        have b3 := bx_new (w := wr.setCell ⟨K, k, none⟩ (.int .i64 (-1))) (b := wr.heap.size) [.int .i64 P, .int .i64 N, .int .i64 D] 69 (by rw [size_set])
        have hbt : Below (wr.setCell ⟨K, k, none⟩ (.int .i64 (-1))).heap.size (wr.setCell ⟨K, k, none⟩ (.int .i64 (-1))) ((wr.setCell ⟨K, k, none⟩ (.int .i64 (-1))).alloc (.cells #[.int .i64 P, .int .i64 N, .int .i64 D] 69)) := (Below.refl _ _).alloc (Nat.le_refl _) _
        have hB5 := stepA hB4 hbt
        have hP5 := hP4.below hbt hP4.lt
        have y1 := b3
        have z1 := b3.c1
        clear hP hbt hP4 hB4 b3
        go_upto_region 9 with fail
        clear q0 q1 x0 x1 x2 z1
        generalize (wr.setCell ⟨K, k, none⟩ (.int .i64 (-1))).alloc (.cells #[.int .i64 P, .int .i64 N, .int .i64 D] 69) = w5 at *
        generalize wr.heap.size = B at *
        have hN0 : 0 ≤ N := by omega
        go_loopw [7] (fun v wr => ∃ r : Int, N ≤ r ∧ r ≤ D + 1 ∧ v = .int .i64 r ∧ Hid (NoAt F k r) ∧ Below w5.heap.size w5 wr) (fun v _ => (D + 1 - intOf v).toNat)
        case atStart => exact ⟨N, Int.le_refl _, by omega, rfl, HNA, Below.refl _ _⟩
        case round =>
          obtain ⟨r, r0, r1, rfl, HR, hBr⟩ := hrel
          have c2 := (y1.on hBr).c2
          have c1 := (y1.on hBr).c1
          by_cases hrd : r ≤ D
          · have HS0 : Hid (N + snK F r 0 = N) := by show N + 0 = N; omega
            obtain ⟨w8, hw8⟩ : ∃ w8, w8 = wr := ⟨wr, rfl⟩
            subst hw8
            go_upto_region 13 with fail
            clear c1
            go_loopw [8, 9] (fun v i wr => ∃ j : Nat, j ≤ k ∧ i = .int .i64 (j : Int) ∧ v = .int .i64 (N + snK F r j) ∧ Below w5.heap.size w5 wr) (fun _ i _ => k - (intOf i).toNat)
            case atStart => exact ⟨0, Nat.zero_le _, rfl, by rw [HS0.out], hBr⟩
            case round =>
              obtain ⟨j, hj, rfl, rfl, hBj⟩ := hrel
              have bd := snK_bd HG.out (r := r) (by omega) (by omega) j (by omega)
              by_cases hjk : j < k
              · obtain ⟨gb', go', e', gl', v0, v1, v2⟩ := il_three (h.below (hB5.trans (hBj.mono (hB5.size)))) (show j < n by omega)
                cases e'
                have m0 : (0 : Int) ≤ (j : Int) := by omega
                have m1 : (j : Int) < (k : Int) := by omega
                have m2 : (j : Int) < (n : Int) := by omega
                have p1' := HG.out.p1 j (by omega)
                have p2' := HG.out.p2 j (by omega)
                have n1' := HG.out.n1 j (by omega)
                have n2' := HG.out.n2 j (by omega)
                have s1 := sn1_bd (r := r) (p := F (j * 3)) (n := F (j * 3 + 1)) (by omega) (by omega) p1' p2' n1' (by omega)
                have HS : Hid (N + snK F r (j + 1) = N + snK F r j + F (j * 3 + 1) * ((r + F (j * 3) - 1) / F (j * 3))) := by show N + (snK F r j + sn1 r (F (j * 3)) (F (j * 3 + 1))) = _; unfold sn1; omega
                unfold sn1 at s1
                clear HG HF HR
                generalize F (j * 3) = P2 at *
                generalize F (j * 3 + 1) = N2 at *
                generalize F (j * 3 + 2) = D2 at *
                generalize snK F r j = V at *
                have qd := quo_bd (t := r + P2 - 1) (p := P2) (by omega) p1'
                have hq0 : (0 : Int) ≤ r + P2 - 1 := by omega
                have hq1 : ¬ P2 = 0 := by omega
                go_wp2_with fail
                go_region
                go_wp2
                go_roundw
                case rel => exact ⟨j + 1, by omega, by go_num, by rw [HS.out], hBj.drew⟩
                case measure => simp [intOf]; omega
              · have e : j = k := by omega
                subst e
                have m1 : ¬ (j : Int) < (j : Int) := by omega
                have HAS : Hid (asK F j r = N + snK F r j) := by show F (j * 3 + 1) + snK F r j = _; rw [HNN.out]
                cases hq : (N + snK F r j == r) with
                | true =>
                  have HE : Hid (AtIs F j r) := atIs_told HR.out (by rw [HNN.out]; exact n1) (by rw [HNN.out]; exact r0) (by rw [HDD.out]; exact hrd) (by rw [HAS.out]; simpa using hq)
                  have hP6 := hP5.below hBj hP5.lt
                  have q0 := hP6.c j hlt
                  have q1 := hP6.fz j
                  have hP7 := hP6.set (k := j) hlt r
                  have hB7 := (hB5.trans (hBj.mono hB5.size)).setCell (p := ⟨K, j, none⟩) hz (.int .i64 r)
                  generalize N + snK F r j = V at *
                  clear HR HAS c2 HG bd
                  go_wp2
                  go_roundw
                  case rel =>
                    refine ⟨j + 1, by omega, by go_num, hB7, _, hP7, fun i hi => ?_⟩
                    by_cases e : i = j
                    · subst e; simp only [put, if_true]; exact HE.out
                    · simp only [put, if_neg e]; exact HF.out i (by omega)
                  case measure => simp [intOf]; omega
                | false =>
                  have HE : Hid (NoAt F j (r + 1)) := noAt_next HR.out (by rw [HAS.out]; simpa using hq)
                  generalize N + snK F r j = V at *
                  clear HR HAS c2 HG bd
                  go_wp2
                  go_roundw
                  case rel => exact ⟨r + 1, by omega, by omega, by go_num, HE, hBj⟩
                  case measure => simp [intOf]; omega
          · have HE : Hid (AtIs F k (-1)) := atIs_none HR.out (by rw [HDD.out]; omega)
            have hP6 := hP5.below hBr hP5.lt
            have hB7 := hB5.trans (hBr.mono hB5.size)
            clear HR HG
            go_wp2
            go_roundw
            case rel =>
              refine ⟨k + 1, by omega, by go_num, hB7, _, hP6, fun i hi => ?_⟩
              by_cases e : i = k
              · subst e; simp only [put, if_true]; exact HE.out
              · simp only [put, if_neg e]; exact HF.out i (by omega)
            case measure => simp [intOf]; omega
      · have e : k = n := by omega
        subst e
        have i1 : ¬ (k : Int) < (k : Int) := by omega
        have HF : Hid (∀ j, j < k → AtIs F j (G j)) := hF
        clear hF HG
        go_wp2
        go_ret2
        exact ⟨⟨_, _, rfl, lq_of (hP.congr fun i hi => atV_of (HF.out i hi)) hz hP.lt⟩, hB⟩
end Go.Proofs.Ytnadedncjbibhaa
