/- Drawn counts. -/
import Derived.Test.YtnoaonflphameaaCnCnt
namespace Go.Proofs.Ytnoaonflphameaa
open Go.RowKit

/-- the answer: some counts -/
def AnsCn (w w' : World) (e : Ending) (C : Nat) (a : Option Addr) (len cap n : Nat) : Prop := ∃ (V : Int) (av : Option Addr) (k c : Nat) (bv : Option Addr) (j d : Nat) (F G : Nat → Int) (n' : Nat), e = .returned (cnt V av k c bv j d) ∧ IL w' av k F ∧ IL w' bv j G ∧ k ≤ 256 ∧ j ≤ 257 ∧ 0 ≤ V ∧ V ≤ 20 ∧ n' ≤ n + 3000 ∧ Cur w' C a len cap n' ∧ Turns C (C + 1) w w' ∧ (∀ x off, av = some ⟨x, off, none⟩ → C < x) ∧ (∀ x off, bv = some ⟨x, off, none⟩ → C < x)

set_option maxHeartbeats 8000000 in
set_option maxRecDepth 20000 in
theorem counts_any (C : Nat) (a : Option Addr) (len cap n : Nat) (w : World) (h : Cur w C a len cap n) (hn : n ≤ 800000) :
    Calls Try.prog 28 #[.pointer (some ⟨C, 0, none⟩)] w fun e w' => AnsCn w w' e C a len cap n := by
  obtain ⟨i0, hi, hzz⟩ := Option.map_eq_some_iff.1 infoI
  simp only [Prod.mk.injEq] at hzz
  obtain ⟨hz0, hz1, hz2⟩ := hzz
  have hC := h.lt
  have hA : Below w.heap.size w (w.alloc (cntO 0 none 0 0 none 0 0 25)) := (Below.refl _ _).alloc (Nat.le_refl _) _
  have r0 := bx_new (b := w.heap.size) (w := w) (cntL 0 none 0 0 none 0 0) 25 rfl
  have hc0 := h.below hA hC
  have hT0 : Turns C (C + 1) w (w.alloc (cntO 0 none 0 0 none 0 0 25)) := turns_of hA
  clear h hA
  go_enter Try.func28, Try.ntmps28
  go_upto_region 1 with fail
  generalize w.alloc (cntO 0 none 0 0 none 0 0 25) = w0 at r0 hc0 hT0 ⊢
  go_wp2_with fail
  refine (extent_any C a len cap n _ hc0 (by omega)).mono ?_
  rintro e w1 ⟨p, q, n1, rfl, p0, p1, q0, q1, hn1, hc1, hT⟩
  have r1 := r0.turns hT (.inr (by omega))
  have hT1 := hT0.trans hT
  clear r0 hc0 hT0 hT
  go_wp2_with fail
  refine (specNewO p q _).mono ?_
  rintro e w2 ⟨hA2, hb2⟩
  have hN := nwN_le p q
  have hV : 0 ≤ nwW p q ∧ nwW p q ≤ 17 := by unfold nwW; split <;> omega
  generalize nwN p q = N at hA2 hN
  generalize nwW p q = V at hA2 hV
  have hR1 := r1.lt
  have hz2' := hb2.size
  have hX : ∃ av bv, e = .returned (cnt V av N N bv N N) ∧ Ls (w2.alloc (cntO V av N N bv N N 25)) w.heap.size w2.heap.size N av bv (fun _ => 0) (fun _ => 0) := by
    rcases hA2 with ⟨rfl, rfl, rfl⟩ | ⟨ga, gb, rfl, l1, l2, l3, l4, l5, l6, -⟩
    · exact ⟨none, none, rfl, .none rfl rfl rfl⟩
    · have kb : ∀ o, Below w2.heap.size w2 (w2.alloc o) := fun o => (Below.refl _ _).alloc (Nat.le_refl _) o
      have g1 := l4.lt
      have g2 := l5.lt
      exact ⟨_, _, rfl, .some ga gb rfl rfl (by omega) (by omega) l3 (by omega) (by omega) (l4.below (kb _) l4.lt) (l5.below (kb _) l5.lt) (l6.same ((kb _).block gb l5.lt))⟩
  obtain ⟨av, bv, rfl, hL⟩ := hX
  clear hA2
  go_upto_region 3 with fail
  have kb : Below w2.heap.size w2 (w2.alloc (cntO V av N N bv N N 25)) := (Below.refl _ _).alloc (Nat.le_refl _) _
  have hM : w.heap.size < w2.heap.size := by omega
  have D : Dc w (w2.alloc (cntO V av N N bv N N 25)) C a len cap n1 w2.heap.size V av bv N (fun _ => 0) (fun _ => 0) :=
    ⟨(hc1.below hb2 hc1.lt).below kb (Nat.lt_of_lt_of_le hc1.lt hb2.size), (r1.on hb2).on kb, bx_new _ _ rfl, hL, (hT1.trans (turns_of hb2)).trans (turns_of kb)⟩
  clear kb hL hb2 hc1 hT1 r1 hR1 hz2'
  generalize w2.alloc (cntO V av N N bv N N 25) = w3 at D ⊢
  generalize w2.heap.size = M at D hM ⊢
  have y1 := D.x.c1
  go_wp2_with fail
  clear y1
  go_loopw [18] (fun i wr => ∃ (k m : Nat) (F G : Nat → Int), k ≤ N ∧ i = .int .i64 k ∧ m ≤ n + 6 + 8 * k ∧ Dc w wr C a len cap m M V av bv N F G) (fun i _ => N - (intOf i).toNat)
  case atStart => exact ⟨0, n1, _, _, Nat.zero_le _, rfl, by omega, D⟩
  case round =>
    obtain ⟨k, m, F, G, hk, rfl, hm, Dr⟩ := hrel
    clear D
    by_cases hlt : k < N
    · have j3 : (k : Int) < (N : Int) := by omega
      obtain ⟨ga, gb, rfl, rfl, la, lb, hgaM, hgbM⟩ := Dr.pos (by omega)
      go_upto_region 6 with fail
      go_cut [6] from 21 to 26 (fun sx wx => ∃ (m2 : Nat) (F2 : Nat → Int), sx = .int .i64 k ∧ m2 ≤ m + 2 ∧ Dc w wx C a len cap m2 M V (some ⟨ga, 0, none⟩) (some ⟨gb, 0, none⟩) N F2 G)
      case first =>
        have ct := Dr.drew
        obtain ⟨o1, o2, o3, o4, o5, o6⟩ := Dr.at hlt
        go_region_with (first | (go_at_call 30; refine (pick_any C a len cap m _ _ ct.cur (by omega)).mono ?_; rintro e w5 ⟨p5, m5, rfl, g5, -, q5, hm5, hc5, hO⟩; have D5 := ct.turn hO hc5 hC hM; have HD5 : Hid (Dc w w5 C a len cap m5 M V (some ⟨ga, 0, none⟩) (some ⟨gb, 0, none⟩) N F G) := D5; obtain ⟨v1, v2, v3, v4, v5, v6⟩ := D5.at hlt; clear D5 hO hc5) | (fail))
        all_goals
          go_wp2_with fail
          go_meet
          case rel => exact ⟨m5, _, rfl, by omega, (HD5.out.put hC hlt _).1⟩
      case rest =>
        obtain ⟨m2, F2, rfl, hm2, D2⟩ := hcut
        clear Dr
        generalize wc = w6 at D2 ⊢
        go_upto_region 7 with fail
        go_cut [6] from 27 to 32 (fun sx wx => ∃ (m3 : Nat) (G2 : Nat → Int), sx = .int .i64 k ∧ m3 ≤ m + 4 ∧ Dc w wx C a len cap m3 M V (some ⟨ga, 0, none⟩) (some ⟨gb, 0, none⟩) N F2 G2)
        case first =>
          have ct := D2.drew
          obtain ⟨o1, o2, o3, o4, o5, o6⟩ := D2.at hlt
          go_region_with (first | (go_at_call 30; refine (pick_any C a len cap m2 _ _ ct.cur (by omega)).mono ?_; rintro e w5 ⟨p5, m5, rfl, g5, -, q5, hm5, hc5, hO⟩; have D5 := ct.turn hO hc5 hC hM; have HD5 : Hid (Dc w w5 C a len cap m5 M V (some ⟨ga, 0, none⟩) (some ⟨gb, 0, none⟩) N F2 G) := D5; obtain ⟨v1, v2, v3, v4, v5, v6⟩ := D5.at hlt; clear D5 hO hc5) | (fail))
          all_goals
            go_wp2_with fail
            go_meet
            case rel => exact ⟨m5, _, rfl, by omega, (HD5.out.put hC hlt _).2⟩
        case rest =>
          obtain ⟨m3, G2, rfl, hm3, D3⟩ := hcut
          clear D2
          generalize wc = w7 at D3 ⊢
          go_wp2_with fail
          refine (one_any C a len cap m3 60 _ D3.cur (by omega)).mono ?_
          rintro e w8 ⟨u8, m8, rfl, hm8, hc8, hO8⟩
          have D8 := D3.turn hO8 hc8 hC hM
          clear D3 hO8 hc8
          cases u8 with
          | false =>
            go_wp2_with fail
            go_roundw
            case rel => exact ⟨k + 1, m8, F2, G2, by omega, by go_num, by omega, D8⟩
            case measure => simp [intOf]; omega
          | true =>
            have ct := D8.drew
            have ca := D8.drew.al (.cells #[.int .i64 1000000, .int .i64 999999, .int .i64 1000001] 3)
            have hLA := lit_ip w8.drew [1000000, 999999, 1000001] 3
            have hneA : w8.drew.heap.size ≠ C := Nat.ne_of_gt ct.cur.lt
            obtain ⟨o1, o2, o3, o4, o5, o6⟩ := D8.at hlt
            obtain ⟨s1, s2, s3, s4, s5, s6⟩ := ct.at hlt
            obtain ⟨t1, t2, t3, t4, t5, t6⟩ := ca.at hlt
            go_wp2_with fail
            go_region_held3 (fun w' => w'.cell? ⟨M, 2, none⟩ = some (.slice (some ⟨gb, 0, none⟩) N N))
              (first | (exact s2) | (exact t2) | (exact v2) | (exact (World.cell?_setCell_other _ _ _ _ (by simp <;> omega)).trans v2) | (fail))
              (first | (go_at_call 61; refine (among_any C a len cap _ _ 3 _ _ _ ca.cur (by omega) hLA hneA (by omega) (by omega)).mono ?_; rintro e w9 ⟨y9, m9, -, rfl, hm9, hc9, hO9⟩; have D9 := ca.turn hO9 hc9 hC hM; have HD9 : Hid (Dc w w9 C a len cap m9 M V (some ⟨ga, 0, none⟩) (some ⟨gb, 0, none⟩) N F2 G2) := D9; obtain ⟨v1, v2, v3, v4, v5, v6⟩ := D9.at hlt; generalize List.getD [1000000, 999999, 1000001] y9 (0 : Int) = y; clear D9 hO9 hc9) | (fail))
            all_goals
              go_wp2_with fail
              go_roundw
              case rel => exact ⟨k + 1, m9, F2, _, by omega, by go_num, by omega, (HD9.out.put hC hlt _).2⟩
              case measure => simp [intOf]; omega
    · go_wp2_with fail
      refine (pick_any C a len cap m 24 _ Dr.cur (by omega)).mono ?_
      rintro e w5 ⟨p5, m5, rfl, g5, -, q5, hm5, hc5, hO⟩
      have D5 := Dr.turn hO hc5 hC hM
      clear Dr hO hc5
      have hmE : m5 ≤ n + 3000 := by omega
      by_cases e0 : p5 = 0
      · subst e0
        have c0 := D5.x.c0
        have k0 := D5.x.fz 0
        have hwV : IntKind.i64.wrap (V + 1) = V + 1 := IntWalk.i64_in _ ⟨by omega, by omega⟩
        go_upto_region 16 with fail
        have b6 : Below (w.heap.size + 1) w5 (w5.setCell ⟨M, 0, none⟩ (.int .i64 (V + 1))) := (Below.refl _ _).setCell (p := ⟨M, 0, none⟩) (by simp; omega) _
        have cu := D5.cur.below b6 (by omega)
        have rr := D5.r.below b6 (by omega)
        have xx : Bx (w5.setCell ⟨M, 0, none⟩ (.int .i64 (V + 1))) M (cntL (V + 1) av N N bv N N) := D5.x.set 0 (by simp) _
        have ll := D5.l.far (b := M) (j := 0) (.int .i64 (V + 1)) (.inr rfl)
        have tt := turns_below D5.t (b6.mono (by omega)) (Nat.le_refl _)
        have ll1 := D5.avC hC
        have ll2 := D5.bvC hC
        clear D5 c0 k0 b6
        generalize w5.setCell ⟨M, 0, none⟩ (.int .i64 (V + 1)) = w6 at cu rr xx ll tt ⊢
        obtain ⟨c0, c1, c2⟩ := cnt_three xx
        obtain ⟨r0, r1, r2⟩ := cnt_three rr
        have f0 := rr.fz 0
        have f1 := rr.fz 1
        have f2 := rr.fz 2
        have hbe := below_three (Below.refl w.heap.size w6) (b := w.heap.size) (Nat.le_refl _) (.int .i64 (V + 1)) (.slice av N N) (.slice bv N N)
        have bE := rr.set3 (.int .i64 (V + 1)) (.slice av N N) (.slice bv N N)
        have lE := (((ll.far (b := w.heap.size) (j := 0) (.int .i64 (V + 1)) (.inl (Nat.le_refl _))).far (b := w.heap.size) (j := 1) (.slice av N N) (.inl (Nat.le_refl _))).far (b := w.heap.size) (j := 2) (.slice bv N N) (.inl (Nat.le_refl _)))
        go_wp2
        refine ret_cnt Try.results28 rfl bE.c0 bE.c1 bE.c2 rfl ?_
        exact ⟨V + 1, av, N, N, bv, N, N, F, G, m5, rfl, lE.il1, lE.il2, hN, by omega, by omega, by omega, hmE, cu.below hbe (by omega), turns_below tt hbe (Nat.le_refl _), ll1, ll2⟩
      by_cases e1 : p5 = 1
      · subst e1
        obtain ⟨c0, c1, c2⟩ := cnt_three D5.x
        have k2 := D5.x.fz 2
        have hown := D5.l.own (by omega)
        have hsz : w.heap.size < w5.heap.size := D5.r.lt
        have hMl := D5.x.lt
        go_wp2_with (at_builtin; refine wpList_append_lies _ rfl _ _ 23 rfl (w.heap.size + 1) 3 i0 (.int .i64 0) 1 8 Try.underlying23 hi hz0 hz1 hz2 rfl (by decide) _ _ _ rfl (World.ownsRow.alloc hown _) ⟨w5.heap.size, 0, none⟩ 1 1 [.int .i64 0] rfl rfl (cell_one_new _ _ _) (fun x hx => by simp at hx; subst hx; rfl) (by omega) (by unfold maxLen; omega) (by omega) (by simp; omega) _ rfl ?_; intro g6 c6 w6 hown' hgrow hat hlt6; have hown6 := own_put hown'; have hgne : g6 ≠ M := (D5.ne hat hMl); obtain ⟨x6, rr, iA, cu, tt, hs6⟩ := D5.app hC hgrow; have z1 := x6.c2; have z2 := x6.fz 2; have z3 := x6.c0; have z4 := x6.c1; have z5 := x6.fz 0; have r0 := rr.c0; have r1 := rr.c1; have r2 := rr.c2; have f0 := rr.fz 0; have f1 := rr.fz 1; have f2 := rr.fz 2; have l6 := x6.lt)
        have b7 : Below (w.heap.size + 1) w6 (w6.setCell ⟨M, 2, none⟩ (.slice (some ⟨g6, 0, none⟩) (N + 1) c6)) := (Below.refl _ _).setCell (p := ⟨M, 2, none⟩) (by simp; omega) _
        have cu7 := cu.below b7 (by omega)
        have rr7 := rr.below b7 (by omega)
        have xx7 : Bx (w6.setCell ⟨M, 2, none⟩ (.slice (some ⟨g6, 0, none⟩) (N + 1) c6)) M (cntL V av N N (some ⟨g6, 0, none⟩) (N + 1) c6) := x6.set 2 (by simp) _
        have tt7 := turns_below tt (b7.mono (by omega)) (Nat.le_refl _)
        obtain ⟨g7, c7, eq7, hge7, ip7⟩ := hown6.some (by omega)
        cases eq7
        have ip8 := ip_far (k := 2) ip7 hgne (.slice (some ⟨g6, 0, none⟩) (N + 1) c6)
        have iA8 : IL (w6.setCell ⟨M, 2, none⟩ (.slice (some ⟨g6, 0, none⟩) (N + 1) c6)) av N F := D5.ilf iA
        clear hown6 hown' hgrow hat z1 z2 z3 z4 z5 r0 r1 r2 f0 f1 f2 l6 b7
        have hbe := below_three (Below.refl w.heap.size (w6.setCell ⟨M, 2, none⟩ (.slice (some ⟨g6, 0, none⟩) (N + 1) c6))) (b := w.heap.size) (Nat.le_refl _) (.int .i64 V) (.slice av N N) (.slice (some ⟨g6, 0, none⟩) (N + 1) c6)
        have bE := rr7.set3 (.int .i64 V) (.slice av N N) (.slice (some ⟨g6, 0, none⟩) (N + 1) c6)
        have ip9 := (ip_three ip8 (b' := w.heap.size) (by omega) (.int .i64 V) (.slice av N N) (.slice (some ⟨g6, 0, none⟩) (N + 1) c6)).il
        have iA9 := il_far (j := 2) (v := .slice (some ⟨g6, 0, none⟩) (N + 1) c6) (il_far (j := 1) (v := .slice av N N) (il_far (j := 0) (v := .int .i64 V) iA8 D5.avR) D5.avR) D5.avR
        refine ret_cnt Try.results28 rfl bE.c0 bE.c1 bE.c2 rfl ?_
        exact ⟨V, av, N, N, _, N + 1, c6, F, _, m5, rfl, iA9, ip9, hN, by omega, by omega, by omega, hmE, cu7.below hbe (by omega), turns_below tt7 hbe (Nat.le_refl _), D5.avC hC, fun x off e => by injection e with e; injection e with e; omega⟩
      · obtain ⟨c0, c1, c2⟩ := cnt_three D5.x
        obtain ⟨r0, r1, r2⟩ := cnt_three D5.r
        have f0 := D5.r.fz 0
        have f1 := D5.r.fz 1
        have f2 := D5.r.fz 2
        have hbe := below_three (Below.refl w.heap.size w5) (b := w.heap.size) (Nat.le_refl _) (.int .i64 V) (.slice av N N) (.slice bv N N)
        have bE := D5.r.set3 (.int .i64 V) (.slice av N N) (.slice bv N N)
        have lE := (((D5.l.far (b := w.heap.size) (j := 0) (.int .i64 V) (.inl (Nat.le_refl _))).far (b := w.heap.size) (j := 1) (.slice av N N) (.inl (Nat.le_refl _))).far (b := w.heap.size) (j := 2) (.slice bv N N) (.inl (Nat.le_refl _)))
        go_wp2
        refine ret_cnt Try.results28 rfl bE.c0 bE.c1 bE.c2 rfl ?_
        exact ⟨V, av, N, N, bv, N, N, F, G, m5, rfl, lE.il1, lE.il2, hN, by omega, by omega, by omega, hmE, D5.cur.below hbe (by omega), turns_below D5.t hbe (Nat.le_refl _), D5.avC hC, D5.bvC hC⟩
end Go.Proofs.Ytnoaonflphameaa
