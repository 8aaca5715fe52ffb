/- What DrawRunBus draws (tools/gen_budw.py). -/
import Derived.Test.YtldagjgpapnfpaaQBuDs
import Derived.Test.YtldagjgpapnfpaaQBuFf
import Derived.Test.YtldagjgpapnfpaaQBuS
import Derived.Deep.CutBlock
namespace Go.Proofs.Ytldagjgpapnfpaa
open Go.RowKit
theorem results_tmp4d {fn : Func} {t u v x : Tmp} (h : fn.results = #[.tmp t, .tmp u, .tmp v, .tmp x]) (tmps : Array Value) (P : Program) (w : World) :
    (results fn tmps).run P w = .ok (.tuple #[tmps.getD t undef, tmps.getD u undef, tmps.getD v undef, tmps.getD x undef]) w := by
  simp [results, h]
def tz : Tks := ⟨fun _ => none, fun _ => 0, fun _ => 0, fun _ => 0, fun _ => 0, fun _ => false, fun _ _ => 0, fun _ _ => none, fun _ _ => 0, fun _ _ => 0⟩
def AnsDb (w w' : World) (e : Ending) : Prop := ∃ (va : Option Addr) (n vc : Nat) (t : Tks) (S : Nat → Nat → Nat → Int) (R W : Int) (sa : Option Addr) (sn sc : Nat) (sf : Nat → Int), e = .returned (.tuple #[.slice va n vc, .int .i64 R, .int .i64 W, .slice sa sn sc]) ∧ n ≤ 7 ∧ (∀ i, i < n → t.qm i ≤ 4 ∧ ∀ j, j < t.qm i → t.N i j ≤ 9) ∧ TkF w' va n t S ∧ IL w' sa sn sf ∧ sn ≤ 5 ∧ Below w.heap.size w w'
set_option maxRecDepth 20000 in
set_option maxHeartbeats 16000000 in
theorem drawBus (a : Option Addr) (len cap : Nat) (w : World) (hl : len ≤ 1048576) (hb : 0 < len → ∃ b off, a = some ⟨b, off, none⟩ ∧ b < w.heap.size ∧ ∀ i, i < len → ∃ v : Int, w.cell? ⟨b, off + i, none⟩ = some (.int .u8 v) ∧ 0 ≤ v ∧ v ≤ 255) :
    Calls Try.prog 5 #[.slice a len cap] w fun e w' => AnsDb w w' e := by
  obtain ⟨i0, hi, hzz⟩ := Option.map_eq_some_iff.1 infoFr
  simp only [Prod.mk.injEq] at hzz
  obtain ⟨hz0, hz1, hz2⟩ := hzz
  obtain ⟨iT, hiT, hzT⟩ := Option.map_eq_some_iff.1 infoTk
  simp only [Prod.mk.injEq] at hzT
  obtain ⟨hT0, hT1, hT2⟩ := hzT
  obtain ⟨iI, hiI, hzI⟩ := Option.map_eq_some_iff.1 infoI
  simp only [Prod.mk.injEq] at hzI
  obtain ⟨hI0, hI1, hI2⟩ := hzI
  have hc0 := cur_new w a len cap hl hb
  have hB0 : Below w.heap.size w (w.alloc (.cells #[.slice a len cap, .int .i64 0, .int .u64 0] 46)) := (Below.refl _ _).alloc (Nat.le_refl _) _
  clear hb
  go_enter Try.func5, Try.ntmps5
  go_wp2_with fail
  refine (pick_any w.heap.size a len cap 0 4 _ hc0 (by omega)).mono ?_
  rintro e w1 ⟨r1, n1, rfl, p1, q1, -, m1, hc1, hO1⟩
  have q1 := q1 (by omega)
  have hB1 := hB0.trans hO1.below
  obtain ⟨K1, rfl⟩ := Int.eq_ofNat_of_zero_le p1
  clear hc0 hB0 hO1 p1
  go_wp2_with fail
  refine (one_any w.heap.size a len cap n1 16 _ hc1 (by omega)).mono ?_
  rintro e w2 ⟨b2, n2, rfl, m2, hc2, hO2⟩
  have hB2 := hB1.trans hO2.below
  clear hc1 hB1 hO2
  go_upto_if 21 with fail
  go_cut [8] from 20 to 24 (fun u wz => ∃ (K m : Nat), u = .int .i64 (K : Int) ∧ K ≤ 7 ∧ m ≤ 10 ∧ Hid (Cur wz w.heap.size a len cap m) ∧ Hid (Below w.heap.size w wz))
  case first =>
    cases b2 with
    | false =>
      go_wp2_with fail
      go_meet
      case rel => exact ⟨K1, n2, rfl, by omega, by omega, hc2, hB2⟩
    | true =>
      go_wp2_with fail
      refine (pick_any w.heap.size a len cap n2 3 _ hc2 (by omega)).mono ?_
      rintro e w3 ⟨r3, n3, rfl, p3, q3, -, m3, hc3, hO3⟩
      have q3 := q3 (by omega)
      have hB3 := hB2.trans hO3.below
      clear hc2 hB2 hO3
      go_wp2_with fail
      go_meet
      case rel => exact ⟨(5 + r3).toNat, n3, by congr 1; omega, by omega, by omega, hc3, hB3⟩
  case rest =>
    obtain ⟨K, m, rfl, hK, hm, HC0, HB0⟩ := hcut
    clear hc2 hB2
    obtain ⟨wL, rfl⟩ : ∃ x, x = wc := ⟨wc, rfl⟩
    have HN0 : Hid (NtP (w.heap.size + 1) wL (.slice none 0 0) 0 tz (fun _ _ _ => 0) tz.qa tz.qc tz.qc tz.qc) := NtP.nil _ _ _ _
    go_wp2_with fail
    go_loopw [7, 8] (fun v i wr => ∃ (k r m : Nat) (t : Tks) (S : Nat → Nat → Nat → Int) (QA : Nat → Option Addr) (QC LO HI : Nat → Nat), k + r ≤ 7 ∧ i = .int .i64 (r : Int) ∧ m ≤ 10 + 1000 * k ∧ Hid (NtP (w.heap.size + 1) wr v k t S QA QC LO HI) ∧ Hid (Cur wr w.heap.size a len cap m) ∧ Hid (Below w.heap.size w wr)) (fun _ i _ => (intOf i).toNat)
    case atStart => exact ⟨0, K, m, tz, _, _, _, _, _, by omega, rfl, by omega, HN0, HC0, HB0⟩
    case round =>
      obtain ⟨k, r, m, t, S, QA, QC, LO, HI, hk, rfl, hm, HN, HC, HB⟩ := hrel
      clear HN0 HC0 HB0
      obtain ⟨wM, rfl⟩ : ∃ x, x = wr := ⟨wr, rfl⟩
      obtain ⟨va, vc, rfl, hvs⟩ := HN.out.shape
      by_cases hr : 0 < r
      · have j1 : (0 : Int) < (r : Int) := by omega
        have hcM := HC.out
        have hlM : w.heap.size < wM.heap.size := hcM.lt
        clear HC
        go_wp2_with fail
        refine (pick_any w.heap.size a len cap m 3 _ hcM (by omega)).mono ?_
        rintro e w2 ⟨r2, n2, rfl, p2, q2, -, m2, hc2, hO2⟩
        have q2 := q2 (by omega)
        have hT2 := tn_only hO2
        clear hcM hO2
        go_wp2_with fail
        refine (pick_any w.heap.size a len cap n2 20 _ hc2 (by omega)).mono ?_
        rintro e w3 ⟨r3, n3, rfl, p3, q3, -, m3, hc3, hO3⟩
        have q3 := q3 (by omega)
        have hT3 := hT2.trans (tn_only hO3)
        clear hc2 hO3 hT2
        have hz3 := hT3.size
        have bB := bx_new (w := w3) (tkL none 0 0 (1 + r2) r3 false) 51 rfl
        have hA3 : Below w3.heap.size w3 (w3.alloc (tkO none 0 0 (1 + r2) r3 false 51)) := (Below.refl _ _).alloc (Nat.le_refl _) _
        have hT4 : Turns w.heap.size (w.heap.size + 1) wM (w3.alloc (tkO none 0 0 (1 + r2) r3 false 51)) := hT3.trans (turns_of hA3)
        have hc4 := hc3.below hA3 hc3.lt
        have hz4 : w3.heap.size + 1 = (w3.alloc (tkO none 0 0 (1 + r2) r3 false 51)).heap.size := (size_al _ _).symm
        clear hA3 hT3 hc3
        go_upto_region 9 with fail
        generalize w3.alloc (tkO none 0 0 (1 + r2) r3 false 51) = w4 at *
        generalize 1 + r2 = sh at *
        generalize w3.heap.size = B at *
        go_wp2_with fail
        refine (pick_any w.heap.size a len cap n3 5 _ hc4 (by omega)).mono ?_
        rintro e w5 ⟨r5, n5, rfl, p5, q5, -, m5, hc5, hO5⟩
        have q5 := q5 (by omega)
        have hT5 := hT4.trans (tn_only hO5)
        have bB5 := bB.turns (tn_only hO5) (.inr (by omega))
        have hz5 := (tn_only hO5).size
        obtain ⟨K5, rfl⟩ := Int.eq_ofNat_of_zero_le p5
        clear hc4 hO5 hT4 bB p5
        have HD0 : Hid (DqP (B + 1) w5 (.slice none 0 0) 0 (fun _ => 0) (fun _ => 0) (fun _ _ => 0) (fun _ => none) (fun _ => 0) (fun _ => 0) (fun _ => 0)) := DqP.nil _ _
        have HC5 : Hid (Cur w5 w.heap.size a len cap n5) := hc5
        have HT5 : Hid (Turns w.heap.size (w.heap.size + 1) wM w5) := hT5
        have HB5 : Hid (Bx w5 B (tkL none 0 0 sh r3 false)) := bB5
        clear hc5 hT5 bB5
        go_wp2_with fail
        go_loopw [10] (fun i wr => ∃ (kk rr mm : Nat) (va : Option Addr) (vc : Nat) (I : Nat → Int) (N : Nat → Nat) (S : Nat → Nat → Int) (A : Nat → Option Addr) (C LO HI : Nat → Nat), kk + rr ≤ 4 ∧ i = .int .i64 (rr : Int) ∧ mm ≤ n5 + 100 * kk ∧ Hid (DqP (B + 1) wr (.slice va kk vc) kk I N S A C LO HI) ∧ Hid (Cur wr w.heap.size a len cap mm) ∧ Hid (Bx wr B (tkL va kk vc sh r3 false)) ∧ Hid (Turns w.heap.size (w.heap.size + 1) wM wr) ∧ Hid (Shp va kk vc)) (fun i _ => (intOf i).toNat)
        case atStart => exact ⟨0, K5, n5, none, 0, _, _, _, _, _, _, _, by omega, rfl, by omega, HD0, HC5, HB5, HT5, shp_none⟩
        case round =>
          obtain ⟨kk, rr, mm, ya, yc, I, N, SS, A, CC, L1, H1, hkk, rfl, hmm, HD, HCr, HBr, HTr, HSr⟩ := hrel
          clear HD0 HC5 HB5 HT5
          obtain ⟨wN, rfl⟩ : ∃ x, x = wr := ⟨wr, rfl⟩
          by_cases hrr : 0 < rr
          · have j2 : (0 : Int) < (rr : Int) := by omega
            have hcN := HCr.out
            have hBl : B < wN.heap.size := HBr.out.lt
            clear HCr
            go_wp2_with fail
            refine (pick_any w.heap.size a len cap mm 9 _ hcN (by omega)).mono ?_
            rintro e w6 ⟨r6, n6, rfl, p6, q6, -, m6, hc6, hO6⟩
            have q6 := q6 (by omega)
            have hT6 := tn_only hO6
            have hz6 := hT6.size
            clear hcN hO6 q6 p6
            go_wp2_with fail
            refine (bytesD w.heap.size a len cap n6 2 _ hc6 (by omega) (by omega)).mono ?_
            rintro e w7 ⟨x, c, l, n7, rfl, hl2, -, m7, hY⟩
            have hQ7 := hY.own.vq.yr
            have hs7 := hY.own.shp
            have hT7 := hT6.trans hY.t
            have hc7 := hY.cur
            have hz7 := hY.t.size
            clear hY hT6 hc6
            have bF := bx_new (w := w7) (frvL r6 x l.length c) 54 rfl
            have hA7 : Below w7.heap.size w7 (w7.alloc (frvO r6 x l.length c 54)) := (Below.refl _ _).alloc (Nat.le_refl _) _
            have hQ8 := hQ7.turns (lo' := 0) (hi' := 0) (turns_of hA7) (.inr (Nat.zero_le _))
            have hT8 := hT7.trans (turns_of hA7)
            have hc8 := hc7.below hA7 hc7.lt
            have hz8 : w7.heap.size + 1 = (w7.alloc (frvO r6 x l.length c 54)).heap.size := (size_al _ _).symm
            clear hA7 hT7 hc7 hQ7
            go_upto_region 13 with fail
            generalize w7.alloc (frvO r6 x l.length c 54) = w8 at *
            generalize w7.heap.size = F at *
            generalize l.length = nn at *
            generalize gL l = ff at *
            go_wp2_with fail
            refine (one_any w.heap.size a len cap n7 60 _ hc8 (by omega)).mono ?_
            rintro e w9 ⟨b9, n9, rfl, m9, hc9, hO9⟩
            have hT9 := hT8.trans (tn_only hO9)
            have bF9 := bF.turns (tn_only hO9) (.inr (by omega))
            have hQ9 := hQ8.turns (tn_only hO9) (.inr (by omega))
            have hz9 := (tn_only hO9).size
            clear hc8 hO9 hT8 bF hQ8
            go_upto_if 47 with fail
            go_cut [11] from 37 to 55 (fun u wz => ∃ (W : Int) (x : Option Addr) (nn c m lo hi : Nat) (f : Nat → Int), u = .pointer (some ⟨F, 0, none⟩) ∧ nn ≤ 9 ∧ m ≤ n7 + 70 ∧ wN.heap.size ≤ lo ∧ hi ≤ wz.heap.size ∧ Hid (Bx wz F (frvL W x nn c)) ∧ Hid (YR wz lo hi x nn f) ∧ Hid (Shp x nn c) ∧ Hid (Cur wz w.heap.size a len cap m) ∧ Hid (Turns w.heap.size (w.heap.size + 1) wN wz))
            case first =>
              clear HD HBr HTr HSr HN HB
              cases b9 with
              | false =>
                go_wp2_with fail
                go_meet
                case rel => exact ⟨r6, x, nn, c, n9, w6.heap.size, F, ff, rfl, by omega, by omega, by omega, by omega, bF9, hQ9, hs7, hc9, hT9⟩
              | true =>
                go_wp2_with fail
                refine (frameN w.heap.size a len cap n9 _ hc9 (by omega)).mono ?_
                rintro e w10 ⟨W, x2, n2, c2, f2, rfl, hn2, hs2, ⟨m2, hm2, hc10⟩, ⟨hi2, hq2⟩, -, hT10⟩
                have bF10 := bF9.turns hT10 (.inr (by omega))
                have hy10 := hq2.yr.fit
                have hz10 := hT10.size
                have hO11 := ((Only.refl F w10).set 0 (.int .i64 W)).set 1 (.slice x2 n2 c2)
                have bF11 := (bF10.set 0 (by simp) (.int .i64 W)).set 1 (by simp) (.slice x2 n2 c2)
                have hy11 := hy10.turns (tn_only hO11) (.inr (by omega))
                have hc11 : Cur ((w10.setCell ⟨F, 0, none⟩ (.int .i64 W)).setCell ⟨F, 1, none⟩ (.slice x2 n2 c2)) w.heap.size a len cap m2 := hc10.below hO11.below (by omega)
                have hT11 : Turns w.heap.size (w.heap.size + 1) wN ((w10.setCell ⟨F, 0, none⟩ (.int .i64 W)).setCell ⟨F, 1, none⟩ (.slice x2 n2 c2)) := tn_below (hT9.trans hT10) hO11.below (by omega)
                have hz11 := hO11.size
                have v0 := bF10.c0
                have v1 := bF10.c1
                have v2 := bF10.fz 0
                have v3 := bF10.fz 1
                have v4 := bF10.lt
                clear bF9 hQ9 hs7 hc9 hT9 hq2 hy10 hc10 hT10 hO11 bF10
                go_wp2_with fail
                go_meet
                case rel => exact ⟨W, x2, n2, c2, m2, w9.heap.size, w10.heap.size, f2, rfl, hn2, by omega, by omega, by omega, bF11, hy11, hs2, hc11, hT11⟩
            case rest =>
              obtain ⟨W, x2, n2, c2, m2, lo2, hi2, f2, rfl, hn2, hm2, hlo2, hhi2, HF, HY2, HS2, HC2, HT2⟩ := hcut
              clear hc9 hT9 bF9 hQ9 hs7
              obtain ⟨wz, rfl⟩ : ∃ x, x = wc := ⟨wc, rfl⟩
              have hBz := HBr.out.turns HT2.out (.inr (by omega))
              have hDz := HD.out.tn HT2.out (by omega)
              have hzz := HT2.out.size
              have hFl := HF.out.lt
              have hown := hDz.own
              have hvl : ∀ q, (Value.slice ya kk yc).ownBlock = some q → q < wN.heap.size := fun q hq => (World.ownsRow.lt HD.out.own q hq).2
              have hvb : ∀ q, (Value.slice ya kk yc).ownBlock = some q → B + 1 ≤ q := fun q hq => (World.ownsRow.lt HD.out.own q hq).1
              have HVL : Hid (∀ q, (Value.slice ya kk yc).ownBlock = some q → q < wN.heap.size ∧ B + 1 ≤ q) := fun q hq => ⟨hvl q hq, hvb q hq⟩
              clear hvl hvb
              have y0 := hBz.c0
              have y1 := HF.out.c0
              have y2 := HF.out.c1
              have y3 := hBz.lt
              have y4 := hBz.fz 0
              go_wp2_with (at_builtin; go_loud (refine wpList_append_own_at (P := Try.prog) _ rfl _ _ 49 rfl (B + 1) 54 i0 (frv 0 none 0 0) 2 32 Try.underlying49 hi hz0 hz1 hz2 rfl (by decide) (.slice ya kk yc) kk (frC I A N CC kk) rfl (World.ownsRow.alloc hown _) ⟨wz.heap.size, 0, none⟩ 1 1 [.int .i64 W, .slice x2 n2 c2] rfl rfl (two_new _ _ _ _) (fun u hu => by simp at hu; rcases hu with rfl | rfl <;> rfl) (by unfold maxLen; omega) (by omega) (by simp only [size_al]; omega) ?_); intro v8 wq hown8 hgr8 _ hat8; have bBq := grown_bx hBz hgr8 (fun q hq => by have := (HVL.out q hq).2; omega); have u0 := bBq.c0; have u1 := bBq.fz 0; have u2 := bBq.lt; have hD8 := hDz.put (fun q hq => .inl (by have := (HVL.out q hq).1; omega)) (by omega) hhi2 HY2.out HS2.out hn2 hown8 hgr8 hat8; obtain ⟨yb, yd, rfl, hsh8⟩ := hD8.shape)
              have hgb : Below (B + 1) wz wq := ((Below.refl (B + 1) wz).alloc (by omega) _).grown hgr8 (by simp only [size_al]; omega) (fun q hq => (HVL.out q hq).2)
              have hOB := (Only.refl B wq).set 0 (.slice yb (kk + 1) yd)
              have hbB := bBq.set 0 (by simp) (.slice yb (kk + 1) yd)
              have hD9 := hD8.tn (tn_only hOB) (Nat.le_refl _)
              have hC9 : Cur (wq.setCell ⟨B, 0, none⟩ (.slice yb (kk + 1) yd)) w.heap.size a len cap m2 := (HC2.out.below hgb (by omega)).below hOB.below (by omega)
              have hT9 : Turns w.heap.size (w.heap.size + 1) wM (wq.setCell ⟨B, 0, none⟩ (.slice yb (kk + 1) yd)) := tn_below (tn_below (HTr.out.trans HT2.out) hgb (by omega)) hOB.below (by omega)
              go_roundw
              case rel => exact ⟨kk + 1, rr - 1, m2, yb, yd, _, _, _, _, _, _, _, by omega, by congr 1; omega, by omega, hD9, hC9, hbB, hT9, hsh8⟩
              case measure => simp [intOf]; omega
          · have j2 : ¬ (0 : Int) < (rr : Int) := by omega
            have hcN := HCr.out
            have hBl : B < wN.heap.size := HBr.out.lt
            clear HCr
            go_wp2_with fail
            refine (pick_any w.heap.size a len cap mm 12 _ hcN (by omega)).mono ?_
            rintro e w6 ⟨r6, n6, rfl, p6, q6, -, m6, hc6, hO6⟩
            have q6 := q6 (by omega)
            have hTx := tn_only hO6
            have HD6 : Hid (DqP (B + 1) w6 (.slice ya kk yc) kk I N SS A CC L1 H1) := HD.out.tn hTx (by omega)
            have HB6 : Hid (Bx w6 B (tkL ya kk yc sh r3 false)) := HBr.out.turns hTx (.inr (by omega))
            have hT6 := HTr.out.trans hTx
            have hz6 := hTx.size
            clear hcN hO6 hTx HD HBr HTr
            go_upto_block 4 with fail
            go_cut [9] from 25 to 77 (fun u wz => ∃ (er : Int) (of : Bool) (m : Nat), u = .pointer (some ⟨B, 0, none⟩) ∧ m ≤ n6 + 2 ∧ Hid (DqP (B + 1) wz (.slice ya kk yc) kk I N SS A CC L1 H1) ∧ Hid (Bx wz B (tkL ya kk yc sh er of)) ∧ Hid (Cur wz w.heap.size a len cap m) ∧ Hid (Turns w.heap.size (w.heap.size + 1) wM wz))
            case first =>
              clear HN HB HSr
              by_cases e0 : r6 = 0
              · subst e0
                go_wp2_with fail
                refine (pick_any w.heap.size a len cap n6 15 _ hc6 (by omega)).mono ?_
                rintro e w8 ⟨r8, n8, rfl, p8, q8, -, m8, hc8, hO8⟩
                have q8 := q8 (by omega)
                have hTx := tn_only hO8
                have hD8 := HD6.out.tn hTx (by omega)
                have bB8 := HB6.out.turns hTx (.inr (by omega))
                have hz8 := hTx.size
                have hOB := (Only.refl B w8).set 2 (.int .i64 (240 + r8))
                have hD9 := hD8.tn (tn_only hOB) (Nat.le_refl _)
                have bB9 := bB8.set 2 (by simp) (.int .i64 (240 + r8))
                have hC9 : Cur (w8.setCell ⟨B, 2, none⟩ (.int .i64 (240 + r8))) w.heap.size a len cap n8 := hc8.below hOB.below (by omega)
                have hT9 : Turns w.heap.size (w.heap.size + 1) wM (w8.setCell ⟨B, 2, none⟩ (.int .i64 (240 + r8))) := tn_below (hT6.trans hTx) hOB.below (by omega)
                have u0 := bB8.c2
                have u1 := bB8.fz 2
                have u2 := bB8.lt
                clear hc6 HD6 HB6 hT6 hTx hO8 hD8 bB8 hOB hc8
                go_wp2_with fail
                go_meet
                case rel => exact ⟨240 + r8, false, n8, rfl, by omega, hD9, bB9, hC9, hT9⟩
              · by_cases e1 : r6 = 1
                · subst e1
                  have hO2 := ((Only.refl B w6).set 2 (.int .i64 255)).set 3 (.bool true)
                  have hD9 := HD6.out.tn (tn_only hO2) (Nat.le_refl _)
                  have bB9 := (HB6.out.set 2 (by simp) (.int .i64 255)).set 3 (by simp) (.bool true)
                  have hC9 : Cur ((w6.setCell ⟨B, 2, none⟩ (.int .i64 255)).setCell ⟨B, 3, none⟩ (.bool true)) w.heap.size a len cap n6 := hc6.below hO2.below (by omega)
                  have hT9 : Turns w.heap.size (w.heap.size + 1) wM ((w6.setCell ⟨B, 2, none⟩ (.int .i64 255)).setCell ⟨B, 3, none⟩ (.bool true)) := tn_below hT6 hO2.below (by omega)
                  have bB6 := HB6.out
                  have u0 := bB6.c2
                  have u1 := bB6.fz 2
                  have u2 := bB6.lt
                  have u3 := bB6.c 3 (by simp)
                  have u4 := bB6.fz 3
                  clear hc6 HD6 HB6 hT6 hO2 bB6
                  go_wp2_with fail
                  go_meet
                  case rel => exact ⟨255, true, n6, rfl, by omega, hD9, bB9, hC9, hT9⟩
                · have t0 : (r6 == 0) = false := beq_eq_false_iff_ne.2 e0
                  have t1 : (r6 == 1) = false := beq_eq_false_iff_ne.2 e1
                  go_wp2_with fail
                  go_meet
                  case rel => exact ⟨r3, false, n6, rfl, by omega, HD6, HB6, hc6, hT6⟩
            case rest =>
              obtain ⟨er, of, m7, rfl, hm7, HD7, HB7, HC7, HT7⟩ := hcut
              clear hc6 HD6 HB6 hT6
              obtain ⟨w7, rfl⟩ : ∃ x, x = wc := ⟨wc, rfl⟩
              have hc7 := HC7.out
              have hzB7 := HB7.out.lt
              clear HC7
              go_wp2_with fail
              refine (one_any w.heap.size a len cap m7 60 _ hc7 (by omega)).mono ?_
              rintro e w8 ⟨b8, n8, rfl, m8, hc8, hO8⟩
              have hTx := tn_only hO8
              have HD8 : Hid (DqP (B + 1) w8 (.slice ya kk yc) kk I N SS A CC L1 H1) := HD7.out.tn hTx (by omega)
              have HB8 : Hid (Bx w8 B (tkL ya kk yc sh er of)) := HB7.out.turns hTx (.inr (by omega))
              have HT8 : Hid (Turns w.heap.size (w.heap.size + 1) wM w8) := HT7.out.trans hTx
              have hz8 := hTx.size
              clear hc7 hO8 hTx HD7 HB7 HT7
              go_upto_if 69 with fail
              go_cut [9] from 25 to 77 (fun u wz => ∃ (of : Bool), u = .pointer (some ⟨B, 0, none⟩) ∧ Hid (DqP (B + 1) wz (.slice ya kk yc) kk I N SS A CC L1 H1) ∧ Hid (Bx wz B (tkL ya kk yc sh er of)) ∧ Hid (Cur wz w.heap.size a len cap n8) ∧ Hid (Turns w.heap.size (w.heap.size + 1) wM wz))
              case first =>
                clear HN HB HSr
                cases b8 with
                | false =>
                  go_wp2_with fail
                  go_meet
                  case rel => exact ⟨of, rfl, HD8, HB8, hc8, HT8⟩
                | true =>
                  have hOB := (Only.refl B w8).set 3 (.bool (!of))
                  have hD9 := HD8.out.tn (tn_only hOB) (Nat.le_refl _)
                  have bB9 := HB8.out.set 3 (by simp) (.bool (!of))
                  have hC9 : Cur (w8.setCell ⟨B, 3, none⟩ (.bool (!of))) w.heap.size a len cap n8 := hc8.below hOB.below (by omega)
                  have hT9 : Turns w.heap.size (w.heap.size + 1) wM (w8.setCell ⟨B, 3, none⟩ (.bool (!of))) := tn_below HT8.out hOB.below (by omega)
                  have bB8 := HB8.out
                  have u3 := bB8.c 3 (by simp)
                  have u4 := bB8.fz 3
                  have u2 := bB8.lt
                  clear hc8 HD8 HB8 HT8 hOB bB8
                  go_wp2_with fail
                  go_meet
                  case rel => exact ⟨!of, rfl, hD9, bB9, hC9, hT9⟩
              case rest =>
                obtain ⟨of9, rfl, HD9, HB9, HC9, HT9⟩ := hcut
                clear hc8 HD8 HB8 HT8
                obtain ⟨w9, rfl⟩ : ∃ x, x = wc := ⟨wc, rfl⟩
                have hN9 := HN.out.tn HT9.out (Nat.le_refl _)
                have hown := hN9.g.own
                have hz9 := HT9.out.size
                have HVL : Hid (∀ q, (Value.slice va k vc).ownBlock = some q → q < wM.heap.size ∧ w.heap.size + 1 ≤ q) := fun q hq => ⟨(World.ownsRow.lt HN.out.g.own q hq).2, (World.ownsRow.lt HN.out.g.own q hq).1⟩
                have y0 := HB9.out.c0
                have y1 := HB9.out.c1
                have y2 := HB9.out.c2
                have y3 := HB9.out.c 3 (by simp)
                have y4 := HB9.out.lt
                go_wp2_with (at_builtin; go_loud (refine wpList_append_own_at (P := Try.prog) _ rfl _ _ 23 rfl (w.heap.size + 1) 51 iT (tkv none 0 0 0 0 false) 4 48 Try.underlying23 hiT hT0 hT1 hT2 rfl (by decide) (.slice va k vc) k (tkC t QA QC k) rfl (World.ownsRow.alloc hown _) ⟨w9.heap.size, 0, none⟩ 1 1 [.slice ya kk yc, .int .i64 sh, .int .i64 er, .bool of9] rfl rfl (four_new _ _ _ _ _ _) (fun u hu => by simp at hu; rcases hu with rfl | rfl | rfl | rfl <;> rfl) (by unfold maxLen; omega) (by omega) (by simp only [size_al]; omega) ?_); intro v8 wq hown8 hgr8 _ hat8)
                have hN8 := hN9.put (fun q hq => .inl (by have := (HVL.out q hq).1; omega)) (show w.heap.size + 1 ≤ B + 1 by omega) (Nat.le_refl _) HD9.out.end HSr.out (by omega) (fun j hj => (HD9.out.q j hj).2.2.2.2) hown8 hgr8 hat8
                have hgb : Below (w.heap.size + 1) w9 wq := ((Below.refl (w.heap.size + 1) w9).alloc (by omega) _).grown hgr8 (by simp only [size_al]; omega) (fun q hq => (HVL.out q hq).2)
                have hC8 := HC9.out.below hgb (Nat.lt_succ_self _)
                have hBf : Below w.heap.size w wq := HB.out.trans ((HT9.out.below (Nat.le_refl _) (by omega)).trans (hgb.mono (Nat.le_succ _)))
                go_roundw
                case rel => exact ⟨k + 1, r - 1, n8, _, _, _, _, _, _, by omega, by congr 1; omega, by omega, hN8, hC8, hBf⟩
                case measure => simp [intOf]; omega
      · have j1 : ¬ (0 : Int) < (r : Int) := by omega
        have hcM := HC.out
        clear HC
        go_wp2_with fail
        refine (pick_any w.heap.size a len cap m 16 _ hcM (by omega)).mono ?_
        rintro e w2 ⟨r2, n2, rfl, p2, q2, -, m2, hc2, hO2⟩
        have q2 := q2 (by omega)
        have HN2 : Hid (NtP (w.heap.size + 1) w2 (.slice va k vc) k t S QA QC LO HI) := HN.out.tn (tn_only hO2) (Nat.le_refl _)
        have hB2 := HB.out.trans hO2.below
        clear hcM hO2 HN HB
        go_wp2_with fail
        refine (one_any w.heap.size a len cap n2 16 _ hc2 (by omega)).mono ?_
        rintro e w3 ⟨b3, n3, rfl, m3, hc3, hO3⟩
        have HN3 : Hid (NtP (w.heap.size + 1) w3 (.slice va k vc) k t S QA QC LO HI) := HN2.out.tn (tn_only hO3) (Nat.le_refl _)
        have hB3 := hB2.trans hO3.below
        clear hc2 hO3 HN2 hB2
        go_upto_if 81 with fail
        go_cut [12] from 78 to 84 (fun u wz => ∃ (R : Int) (m : Nat), u = .int .i64 R ∧ m ≤ n3 + 2 ∧ Hid (NtP (w.heap.size + 1) wz (.slice va k vc) k t S QA QC LO HI) ∧ Hid (Cur wz w.heap.size a len cap m) ∧ Hid (Below w.heap.size w wz))
        case first =>
          cases b3 with
          | false =>
            go_wp2_with fail
            go_meet
            case rel => exact ⟨r2, n3, rfl, by omega, HN3, hc3, hB3⟩
          | true =>
            have hL := lit_ip w3 [-1, 40, 41] 3
            have hA : Below w3.heap.size w3 (w3.alloc (.cells ([-1, 40, 41].map (Value.int .i64)).toArray 3)) := (Below.refl _ _).alloc (Nat.le_refl _) _
            have hc4 := hc3.below hA hc3.lt
            have hN4 := HN3.out.tn (lo := 0) (hi := 0) (turns_of hA) (Nat.zero_le _)
            have hB4 := hB3.trans (hA.mono hB3.size)
            have hne : w3.heap.size ≠ w.heap.size := Nat.ne_of_gt hc3.lt
            clear HN3 hc3 hB3 hA
            go_wp2_with fail
            refine (among_any w.heap.size a len cap n3 w3.heap.size 3 _ _ _ hc4 (by omega) hL hne (by omega) (by omega)).mono ?_
            rintro e w5 ⟨i, n5, -, rfl, m5, hc5, hO5⟩
            have hN5 := hN4.tn (tn_only hO5) (Nat.le_refl _)
            have hB5 := hB4.trans hO5.below
            generalize List.getD [-1, 40, 41] i (0 : Int) = R at *
            clear hc4 hN4 hB4 hL hO5
            go_wp2_with fail
            go_meet
            case rel => exact ⟨R, n5, rfl, by omega, hN5, hc5, hB5⟩
        case rest =>
          obtain ⟨R, m4, rfl, hm4, HN4, HC4, HB4⟩ := hcut
          clear HN3 hc3 hB3
          obtain ⟨w4, rfl⟩ : ∃ x, x = wc := ⟨wc, rfl⟩
          have hc4 := HC4.out
          clear HC4
          go_wp2_with fail
          refine (pick_any w.heap.size a len cap m4 6 _ hc4 (by omega)).mono ?_
          rintro e w5 ⟨r5, n5, rfl, p5, q5, -, m5, hc5, hO5⟩
          have q5 := q5 (by omega)
          have HN5 : Hid (NtP (w.heap.size + 1) w5 (.slice va k vc) k t S QA QC LO HI) := HN4.out.tn (tn_only hO5) (Nat.le_refl _)
          have HB5 : Hid (Below w.heap.size w w5) := HB4.out.trans hO5.below
          obtain ⟨K5, rfl⟩ := Int.eq_ofNat_of_zero_le p5
          have HC5 : Hid (Cur w5 w.heap.size a len cap n5) := hc5
          clear hc4 hO5 HN4 HB4 hc5 p5
          have HO0 : Hid (Own w5 w5.heap.size (.slice none 0 0) 0 (fun _ => 0)) := World.ownsRow_nil _ _ _ _
          have hlw : w.heap.size < w5.heap.size := HC5.out.lt
          go_wp2_with fail
          go_loopw [13, 14] (fun v i wr => ∃ (kk rr mm : Nat) (F : Nat → Int), kk + rr ≤ 5 ∧ i = .int .i64 (rr : Int) ∧ mm ≤ n5 + 10 * kk ∧ Hid (Own wr w5.heap.size v kk F) ∧ Hid (Cur wr w.heap.size a len cap mm) ∧ Hid (Turns w.heap.size (w.heap.size + 1) w5 wr)) (fun _ i _ => (intOf i).toNat)
          case atStart => exact ⟨0, K5, n5, _, by omega, rfl, by omega, HO0, HC5, (OnlyIn.refl _ _ _).turns⟩
          case round =>
            obtain ⟨kk, rr, mm, F, hkk, rfl, hmm, HO, HCr, HTr⟩ := hrel
            clear HO0 HC5
            obtain ⟨wN, rfl⟩ : ∃ x, x = wr := ⟨wr, rfl⟩
            obtain ⟨sa, sc, rfl⟩ := HO.out.shape
            have hcN := HCr.out
            clear HCr
            have hzN := HTr.out.size
            by_cases hrr : 0 < rr
            · have j2 : (0 : Int) < (rr : Int) := by omega
              go_wp2_with fail
              refine (pick_any w.heap.size a len cap mm 16 _ hcN (by omega)).mono ?_
              rintro e w6 ⟨r6, n6, rfl, p6, q6, -, m6, hc6, hO6⟩
              have q6 := q6 (by omega)
              have hO6w := HO.out.only hO6 hlw
              have hT6 := HTr.out.trans (tn_only hO6)
              have hz6 := (tn_only hO6).size
              clear hcN hO6 HO HTr
              go_wp2_with (at_builtin; go_loud (refine wpList_append_own_at (P := Try.prog) _ rfl _ _ 24 rfl w5.heap.size 3 iI (.int .i64 0) 1 8 Try.underlying24 hiI hI0 hI1 hI2 rfl (by decide) _ _ _ rfl (World.ownsRow.alloc hO6w _) ⟨w6.heap.size, 0, none⟩ 1 1 [.int .i64 r6] rfl rfl (cell_one_new _ _ _) (fun y hy => by simp at hy; subst hy; rfl) (by unfold maxLen; omega) (by omega) (by simp only [size_al]; omega) ?_); intro v8 wq hown8 hgr8 _ hat8)
              have hOq : Own wq w5.heap.size v8 (kk + 1) (put F kk r6) := own_put hown8
              have hgb : Below w5.heap.size w6 wq := ((Below.refl w5.heap.size w6).alloc (by omega) _).grown hgr8 (by simp only [size_al]; omega) (fun q hq => (World.ownsRow.lt hO6w q hq).1)
              have hCq := hc6.below hgb hlw
              have hTq := tn_below hT6 hgb (Nat.le_refl _)
              exact ⟨⟨kk + 1, rr - 1, n6, _, by omega, by congr 1; omega, by omega, hOq, hCq, hTq⟩, by simp [intOf]; omega⟩
            · have j2 : ¬ (0 : Int) < (rr : Int) := by omega
              go_wp2_with fail
              refine (pick_any w.heap.size a len cap mm 8 _ hcN (by omega)).mono ?_
              rintro e w6 ⟨r6, n6, rfl, p6, q6, -, m6, hc6, hO6⟩
              have q6 := q6 (by omega)
              have hO6w := HO.out.only hO6 hlw
              have hT6 := HTr.out.trans (tn_only hO6)
              have hN6 := HN5.out.tn hT6 (Nat.le_refl _)
              have hB6 := HB5.out.trans (hT6.below (Nat.le_refl _) (by omega))
              obtain ⟨AA, CC, hF⟩ := hN6.tf
              have hIL := hO6w.il
              have hbd := hN6.b
              clear hcN hO6 HO HTr HN5 HB5 hT6 hN6 hO6w
              go_wp2
              refine bodyPost_ret (results_tmp4d rfl _ _ _) rfl ?_
              exact ⟨va, k, vc, { t with qa := QA, qc := QC, A := AA, C := CC }, S, R, _, sa, kk, sc, F, rfl, by omega, hbd, hF, hIL, by omega, hB6⟩
end Go.Proofs.Ytldagjgpapnfpaa
