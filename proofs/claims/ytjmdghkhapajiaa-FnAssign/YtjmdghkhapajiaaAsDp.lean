/- Prices that are drawn (tools/gen_asdp.py). -/
import Derived.Test.YtjmdghkhapajiaaAsDg
import Derived.Test.YtjmdghkhapajiaaCurPick
import Derived.Deep.CutRange
import Derived.Deep.RegionHeld3
import Derived.BigRegion
namespace Go.Proofs.Ytjmdghkhapajiaa
open Go.RowKit
theorem infoII2 : (Try.prog.info? 24).map (fun i => (i.zero, i.size, i.bytes)) = some (some (.slice none 0 0), 1, 24) := by kernel_rfl
theorem three_le (i : Nat) (h : i < 3) : 0 ≤ List.getD [0, 6, 7] i (0 : Int) ∧ List.getD [0, 6, 7] i (0 : Int) ≤ 7 := by
  have : ∀ i : Fin 3, 0 ≤ List.getD [0, 6, 7] i.1 (0 : Int) ∧ List.getD [0, 6, 7] i.1 (0 : Int) ≤ 7 := by decide
  exact this ⟨i, h⟩
theorem most_le (i : Nat) (h : i < 3) : 0 ≤ List.getD [4, 20, 100000] i (0 : Int) ∧ List.getD [4, 20, 100000] i (0 : Int) ≤ 100000 := by
  have : ∀ i : Fin 3, 0 ≤ List.getD [4, 20, 100000] i.1 (0 : Int) ∧ List.getD [4, 20, 100000] i.1 (0 : Int) ≤ 100000 := by decide
  exact this ⟨i, h⟩
def dpS (p : Addr) (v : Value) (w : World) : Prop := w.cell? p = some v
/-- drawn prices, and the cursor behind them -/
def AnsPr (w w' : World) (e : Ending) (C : Nat) (a : Option Addr) (len cap n0 : Nat) : Prop := ∃ (N n' : Nat) (p : Option Addr) (c : Nat) (K : Nat → Nat) (F : Nat → Nat → Int), e = .returned (.slice p N c) ∧ N ≤ 7 ∧ (∀ i, i < N → K i ≤ 8) ∧ RK w' (C + 1) w'.heap.size p N K F ∧ n' ≤ n0 + 1000 ∧ Cur w' C a len cap n' ∧ Below C w w'
def AnsP0 (n0 : Nat) (w wx : World) (C : Nat) (a : Option Addr) (len cap : Nat) (s : Value) : Prop := ∃ (r m : Nat), s = .int .i64 (r : Int) ∧ r ≤ 7 ∧ m ≤ n0 + 6 ∧ Cur wx C a len cap m ∧ Below C w wx
set_option maxRecDepth 20000 in
set_option maxHeartbeats 16000000 in
theorem prices_any (C : Nat) (a : Option Addr) (len cap n0 : Nat) (w : World) (h : Cur w C a len cap n0) (hn0 : n0 ≤ 1000) :
    Calls Try.prog 31 #[.pointer (some ⟨C, 0, none⟩)] w fun e w' => AnsPr w w' e C a len cap n0 := by
  obtain ⟨ii, hii, hyy⟩ := Option.map_eq_some_iff.1 infoII2
  simp only [Prod.mk.injEq] at hyy
  obtain ⟨hy0, hy1, hy2⟩ := hyy
  obtain ⟨i0', hi, hzz⟩ := Option.map_eq_some_iff.1 infoI
  simp only [Prod.mk.injEq] at hzz
  obtain ⟨hz0, hz1, hz2⟩ := hzz
  go_enter Try.func31, Try.ntmps31
  go_wp2_with fail
  refine (pick_any C a len cap _ _ _ h (by omega)).mono ?_
  rintro e w1 ⟨r1, n1, rfl, p1, q1, -, m1, hc1, hO1⟩
  have hB1 : Below C w w1 := hO1.below
  have q1 := q1 (by omega)
  clear h hO1
  go_wp2_with fail
  refine (one_any C a len cap _ _ _ hc1 (by omega)).mono ?_
  rintro e w2 ⟨b2, n2, rfl, m2, hc2, hO2⟩
  have hB2 := hB1.trans hO2.below
  clear hc1 hB1 hO2
  go_upto_if 13 with fail
  go_cut [3] from 14 to 16 (fun s3 wx => AnsP0 n0 w wx C a len cap s3)
  case first =>
    cases b2 with
    | false =>
      go_wp2_with fail
      go_meet
      case rel => exact ⟨(1 + r1).toNat, n2, by congr 1; omega, by omega, by omega, hc2, hB2⟩
    | true =>
      have L2 := lit_ip w2 [0, 6, 7] 3
      have hb : Below w2.heap.size w2 (w2.alloc (.cells #[.int .i64 0, .int .i64 6, .int .i64 7] 3)) := (Below.refl _ _).alloc (Nat.le_refl _) _
      have hc3 := hc2.below hb hc2.lt
      have cl := hc2.lt
      have hB3 := hB2.trans (hb.mono (Nat.le_of_lt hc2.lt))
      go_wp2_with fail
      refine (among_any C a len cap _ w2.heap.size 3 _ _ _ hc3 (by omega) L2 (by omega) (by omega) (by omega)).mono ?_
      rintro e w4 ⟨i4, n4, hi4, rfl, m4, hc4, hO4⟩
      have hB4 := hB3.trans hO4.below
      have hX := three_le i4 hi4
      generalize List.getD [0, 6, 7] i4 (0 : Int) = X4 at *
      clear hO4 hc3 hB3 L2 hb
      go_wp2
      go_meet
      case rel => exact ⟨X4.toNat, n4, by congr 1; omega, by omega, by omega, hc4, hB4⟩
  case rest =>
    clear hc2 hB2
    obtain ⟨N, m0, rfl, hN, hm0, hc0, hB0⟩ := hcut
    obtain ⟨wq, hwq⟩ : ∃ x, x = wc := ⟨_, rfl⟩
    subst hwq
    have L2 := lit_ip wq [4, 20, 100000] 3
    have hb : Below wq.heap.size wq (wq.alloc (.cells #[.int .i64 4, .int .i64 20, .int .i64 100000] 3)) := (Below.refl _ _).alloc (Nat.le_refl _) _
    have hc3 := hc0.below hb hc0.lt
    have cl := hc0.lt
    have hB3 := hB0.trans (hb.mono (Nat.le_of_lt hc0.lt))
    go_upto_region 5 with fail
    go_wp2_with fail
    refine (among_any C a len cap _ wq.heap.size 3 _ _ _ hc3 (by omega) L2 (by omega) (by omega) (by omega)).mono ?_
    rintro e w4 ⟨i4, n4, hi4, rfl, m4, hc4, hO4⟩
    have hB4 := hB3.trans hO4.below
    have hX := most_le i4 hi4
    generalize List.getD [4, 20, 100000] i4 (0 : Int) = MX at *
    clear hO4 hc3 hB3 L2 hb hc0 hB0 cl
    go_wp2_with fail
    go_loopw [4, 6] (fun v i wr => ∃ (k m : Nat) (A : Nat → Option Addr) (K Cp : Nat → Nat) (R : Nat → Nat → Int), k ≤ N ∧ i = .int .i64 (k : Int) ∧ m ≤ n0 + 8 + 20 * k ∧ Hid (Gt wr (C + 1) v k A K Cp R) ∧ Hid (∀ i, i < k → K i = N) ∧ Cur wr C a len cap m ∧ Below C w wr) (fun _ i _ => N - (intOf i).toNat)
    case atStart => exact ⟨0, n4, fun _ => none, fun _ => 0, fun _ => 0, fun _ _ => 0, Nat.zero_le _, rfl, by omega, gt_nil _ _ _ _ _ _, fun i hi => absurd hi (Nat.not_lt_zero _), hc4, hB4⟩
    case round =>
      obtain ⟨k, m, A, K, Cp, R, hk, rfl, hm, HG, HK, hcur, hB⟩ := hrel
      clear hc4 hB4
      have i0 : (0 : Int) ≤ (k : Int) := by omega
      by_cases hlt : k < N
      · have i1 : (k : Int) < (N : Int) := by omega
        obtain ⟨wz, hwz⟩ : ∃ x, x = wr := ⟨_, rfl⟩
        subst hwz
        go_wp2_with fail
        go_loopw [7, 8] (fun u j wr => ∃ (q m2 : Nat) (F : Nat → Int), q ≤ N ∧ j = .int .i64 (q : Int) ∧ m2 ≤ n0 + 8 + 20 * k + 2 * q ∧ Es wz wr C a len cap m2 u q F) (fun _ j _ => N - (intOf j).toNat)
        case atStart => exact ⟨0, m, fun _ => 0, Nat.zero_le _, rfl, by omega, hcur, World.ownsRow_nil _ _ _ _, turns_of (Below.refl _ _)⟩
        case round =>
          obtain ⟨q, m2, F, hq, rfl, hm2, hE⟩ := hrel
          have k0 : (0 : Int) ≤ (q : Int) := by omega
          by_cases hlq : q < N
          · have k1 : (q : Int) < (N : Int) := by omega
            go_wp2_with fail
            refine (pick_any C a len cap _ _ _ hE.cur (by omega)).mono ?_
            rintro e w5 ⟨x5, n5, rfl, p5, -, q5, m5, hc5, hO5⟩
            have hE5 := hE.step hc5 hO5 hcur.lt
            clear hE
            have hsz5 := hE5.t.size
            have hown5 := hE5.own
            go_wp2_with (at_builtin; refine wpList_append_own _ rfl _ _ 24 rfl wz.heap.size 3 i0' (.int .i64 0) 1 8 Try.underlying24 hi hz0 hz1 hz2 rfl (by decide) _ _ _ rfl (World.ownsRow.alloc hown5 _) ⟨w5.heap.size, 0, none⟩ 1 1 [.int .i64 x5] rfl rfl (cell_one_new _ _ _) (fun x hx => by simp at hx; subst hx; rfl) (by unfold maxLen; omega) (by omega) (by simp; omega) ?_; intro vN w6 hown6 hgrow6 _)
            have hE6 := hE5.app hown6 hgrow6 hcur.lt
            exact ⟨⟨q + 1, n5, _, by omega, by go_num, by omega, hE6⟩, by simp [intOf]; omega⟩
          · have hqn : q = N := by omega
            subst hqn
            have k1 : ¬ (q : Int) < (q : Int) := by omega
            have hcl := hcur.lt
            have hown := hE.own
            obtain ⟨ra, rc, rfl⟩ := Own.shape hown
            have hGr : Gt wr (C + 1) u4 k A K Cp R := HG.out.turns hE.t (Nat.le_refl _)
            have hGh := HG.out
            have hsz := hE.t.size
            have hB7 : Below C w wr := hB.trans ⟨hE.t.os, hE.t.tape, hE.t.output, hE.t.size, fun x hx => hE.t.block x (by omega) (.inl hx)⟩
            have hAz : ∀ i B, i < k → A i = some ⟨B, 0, none⟩ → B < wz.heap.size := fun i B hi9 e9 => by
              obtain ⟨B2, e2, _, hP⟩ := hGh.at_ hi9
              rw [e2] at e9; injection e9 with e3; injection e3 with e4; subst e4; exact hP.lt
            have hvz : ∀ g, u4.ownBlock = some g → g < wz.heap.size := fun g hg9 => (World.ownsRow.lt hGh.own g hg9).2
            have hcu := hE.cur
            have hgo := hGr.own
            have HKq : Hid (∀ i, i < k + 1 → (if i = k then q else K i) = q) := fun i hi9 => by
              by_cases e9 : i = k
              · rw [if_pos e9]
              · rw [if_neg e9]; exact HK.out i (by omega)
            clear hE HG hcur HK
            go_upto_region 8 with (at_builtin; refine wpList_append_own_at _ rfl _ _ 23 rfl (C + 1) 24 ii (.slice none 0 0) 1 24 Try.underlying23 hii hy0 hy1 hy2 rfl (by decide) _ _ _ rfl (World.ownsRow.alloc hgo _) ⟨wr.heap.size, 0, none⟩ 1 1 [.slice ra q rc] rfl rfl (cell_one_new _ _ _) (fun x hx => by simp at hx; subst hx; rfl) (by unfold maxLen; omega) (by omega) (by simp; omega) ?_; intro vN w6 hown6 hgrow6 _ hat6)
            have hG6 := hGr.app hown (by omega) (by omega) hAz hvz hown6 hgrow6 hat6
            have hb6 : Below (C + 1) wr w6 := ((Below.refl _ _).alloc (by omega) _).grown hgrow6 (by simp; omega) (fun q hq => (World.ownsRow.lt hgo q hq).1)
            have hc6 := hcu.below hb6 (by omega)
            have hB6 := hB7.trans (hb6.mono (by omega))
            have HG6 : Hid (Gt w6 (C + 1) vN (k + 1) _ _ _ _) := hG6
            clear hG6 hGr hGh hown hown6 hgrow6 hat6 hgo hAz hvz
            go_wp2
            exact ⟨⟨k + 1, m2, _, _, _, _, by omega, by go_num, by omega, HG6, HKq, hc6, hB6⟩, by simp [intOf]; omega⟩
      · have hkN : k = N := by omega
        subst hkN
        have i1 : ¬ (k : Int) < (k : Int) := by omega
        have hcl := hcur.lt
        go_upto_region 15 with fail
        go_wp2_with fail
        refine (pick_any C a len cap _ _ _ hcur (by omega)).mono ?_
        rintro e w5 ⟨x5, n5, rfl, p5, -, q5, m5, hc5, hO5⟩
        have HG5 : Hid (Gt w5 (C + 1) u4 k A K Cp R) := HG.out.turns (tn_only hO5) (Nat.le_refl _)
        have hB5 := hB.trans hO5.below
        clear HG hcur hB hO5
        obtain ⟨sa, sc, rfl⟩ := HG5.out.shape
        have HEnd : Hid (∀ (w9 : World) (K2 : Nat → Nat) (R2 : Nat → Nat → Int) (n9 : Nat), n9 ≤ n5 + 2 → (∀ i, i < k → K2 i ≤ 8) → RK w9 (C + 1) w9.heap.size sa k K2 R2 → Cur w9 C a len cap n9 → Below C w w9 → AnsPr w w9 (.returned (.slice sa k sc)) C a len cap n0) := fun w9 K2 R2 n9 h1 h2 h3 h4 h5 => ⟨k, n9, sa, sc, K2, R2, rfl, hN, h2, h3, by omega, h4, h5⟩
        have HR5 : Hid (RK w5 (C + 1) w5.heap.size sa k K R) := HG5.out.rk (Nat.le_refl _)
        have HK8 : Hid (∀ i, i < k → K i ≤ 8) := fun i hi9 => by rw [HK.out i hi9]; omega
        have HA5 : Hid (AnsPr w w5 (.returned (.slice sa k sc)) C a len cap n0) := HEnd.out w5 K R n5 (by omega) HK8.out HR5.out hc5 hB5
        by_cases hk0 : 0 < k
        rotate_left
        · have i2 : ¬ (0 : Int) < (k : Int) := by omega
          clear HG5 HEnd HR5
          by_cases e0 : x5 = 0
          · have e1 : (x5 == 0) = true := by simpa using e0
            go_wp2
            go_ret
            exact HA5.out
          · have e1 : (x5 == 0) = false := by simpa using e0
            by_cases e2 : x5 = 1
            · have e3 : (x5 == 1) = true := by simpa using e2
              go_wp2
              go_ret
              exact HA5.out
            · have e3 : (x5 == 1) = false := by simpa using e2
              go_wp2
              go_ret
              exact HA5.out
        have i2 : (0 : Int) < (k : Int) := by omega
        by_cases e0 : x5 = 0
        · have e1 : (x5 == 0) = true := by simpa using e0
          obtain ⟨g, cp, ev, hg1, hg2, hg3, hg4, hg5⟩ := HG5.out.head hk0
          have esa : sa = some ⟨g, 0, none⟩ := by injection ev
          subst esa
          obtain ⟨B, eA, hb1, hP⟩ := HG5.out.at_ hk0
          have x0 := hg4 0 hk0
          rw [HK.out 0 hk0, eA] at x0
          have hPc := hP.c 0 (by rw [HK.out 0 hk0]; exact hk0)
          have hPf := hP.fz 0
          have hPl := hP.lt
          have HP : Hid (IP w5 B (K 0) (R 0)) := hP
          clear HA5 HR5 hg4 hg5 hP ev
          go_upto_region 18 with fail
          refine wp_region_held (S := (dpS ⟨g, 0, none⟩ (.slice (some ⟨B, 0, none⟩) k (Cp 0)))) (by kernel_rfl) ?_
          change wpAnyH _ _ _ _ _ _ _ _ (World.drew _)
          have hSw := (x0 : dpS ⟨g, 0, none⟩ (.slice (some ⟨B, 0, none⟩) k (Cp 0)) w5.drew)
          refine wpAnyH_take (i := 0) (v := .slice (some ⟨g, 0, none⟩) k sc) rfl (by kernel_rfl) (by kernel_rfl) (by kernel_rfl) (fun _ _ _ h => h) (Or.inl ⟨by rfl, ?_⟩) hSw ?_
          · intro wz hsz
            have hc8 : wz.cell? ⟨g, 0, none⟩ = some (.slice (some ⟨B, 0, none⟩) k (Cp 0)) := hsz
            clear hsz
            go_simp
          try simp [Act.put]
          refine wpAnyH_take (i := 1) (v := .pointer (some ⟨g, 0, none⟩)) rfl (by kernel_rfl) (by kernel_rfl) (by kernel_rfl) (fun _ _ _ h => h) (Or.inl ⟨by rfl, ?_⟩) hSw ?_
          · intro wz hsz
            have hc8 : wz.cell? ⟨g, 0, none⟩ = some (.slice (some ⟨B, 0, none⟩) k (Cp 0)) := hsz
            clear hsz
            go_simp
            try (intro h9; omega)
          try simp [Act.put]
          refine wpAnyH_take (i := 2) (v := .slice (some ⟨B, 0, none⟩) k (Cp 0)) rfl (by kernel_rfl) (by kernel_rfl) (by kernel_rfl) (fun _ _ _ h => h) (Or.inl ⟨by rfl, ?_⟩) hSw ?_
          · intro wz hsz
            have hc8 : wz.cell? ⟨g, 0, none⟩ = some (.slice (some ⟨B, 0, none⟩) k (Cp 0)) := hsz
            clear hsz
            go_simp
          try simp [Act.put]
          refine wpAnyH_take (i := 3) (v := .pointer (some ⟨C, 0, none⟩)) rfl (by kernel_rfl) (by kernel_rfl) (by kernel_rfl) (fun _ _ _ h => h) (Or.inl ⟨by rfl, ?_⟩) hSw ?_
          · intro wz hsz
            have hc8 : wz.cell? ⟨g, 0, none⟩ = some (.slice (some ⟨B, 0, none⟩) k (Cp 0)) := hsz
            clear hsz
            go_simp
          try simp [Act.put]
          refine wpAnyH_ready (rs := [4]) (by kernel_rfl) (by simp) ?_
          refine AllReadyH.cons rfl (fun K9 hK => ?_) AllReadyH.nil
          go_simp
          have hbl : Below w5.heap.size w5 (w5.drew.alloc (.cells #[.int .i64 (-1), .int .i64 100001] 3)) := ((Below.refl w5.heap.size w5).drew).alloc (Nat.le_refl _) _
          have hL6 := lit_ip w5.drew [-1, 100001] 3
          have hc6 := hc5.below hbl hc5.lt
          have hG6 := HG5.out.on hbl
          have hB6 := hB5.trans (hbl.mono (Nat.le_of_lt hc5.lt))
          refine hK.out _ _ ((hbl.cell (p := ⟨g, 0, none⟩) hg2).trans x0) (fun hSn => ?_)
          clear hK K9 hSw
          have hSw := hSn
          clear hSn
          try simp [Act.put]
          refine wpAnyH_ready (rs := [5]) (by kernel_rfl) (by simp) ?_
          refine AllReadyH.cons rfl (fun K9 hK => ?_) AllReadyH.nil
          go_simp
          go_at_call 48
          refine (among_any C a len cap _ w5.heap.size 2 _ _ _ hc6 (by omega) hL6 (by have := hc5.lt; omega) (by omega) (by omega)).mono ?_
          rintro e9 w7 ⟨i7, n7, hi7, rfl, m7, hc7, hO7⟩
          generalize List.getD [-1, 100001] i7 (0 : Int) = X7 at *
          have hG7 := hG6.turns (tn_only hO7) (Nat.le_refl _)
          have hB7 := hB6.trans hO7.below
          have y0 := (cell_same (hO7.block g (by omega)) 0).trans ((hbl.cell (p := ⟨g, 0, none⟩) hg2).trans x0)
          refine hK.out _ _ (y0) (fun hSn => ?_)
          clear hK K9 hSw
          have hSw := hSn
          clear hSn
          try simp [Act.put]
          obtain ⟨B2, eA2, hb2, hP7⟩ := hG7.at_ hk0
          have eB2 : B = B2 := by rw [eA] at eA2; injection eA2 with e4; injection e4
          subst eB2
          have z0 := hP7.c 0 (by rw [HK.out 0 hk0]; exact hk0)
          have zf := hP7.fz 0
          have zl := hP7.lt
          have hgB : g ≠ B := fun e => hG7.ne 0 g hk0 rfl (by rw [eA, e])
          refine wpAnyH_take (i := 6) (v := .pointer (some ⟨B, 0, none⟩)) rfl (by kernel_rfl) (by kernel_rfl) (by kernel_rfl) (fun _ _ _ h => h) (Or.inl ⟨by rfl, ?_⟩) hSw ?_
          · intro wz hsz
            have hc8 : wz.cell? ⟨g, 0, none⟩ = some (.slice (some ⟨B, 0, none⟩) k (Cp 0)) := hsz
            clear hsz
            go_simp
            try (intro h9; omega)
          try simp [Act.put]
          refine wpAnyH_ready (rs := [7]) (by kernel_rfl) (by simp) ?_
          refine AllReadyH.cons rfl (fun K9 hK => ?_) AllReadyH.nil
          go_simp
          have hG9 := hG7.put hk0 (by rw [HK.out 0 hk0]; exact hk0) eA2 X7
          have hbs : Below (C + 1) w7 (w7.setCell ⟨B, 0, none⟩ (.int .i64 X7)) := (Below.refl _ _).setCell (p := ⟨B, 0, none⟩) (by show C + 1 ≤ B; omega) _
          have HA9 : Hid (AnsPr w (w7.setCell ⟨B, 0, none⟩ (.int .i64 X7)) (.returned (.slice (some ⟨g, 0, none⟩) k sc)) C a len cap n0) := HEnd.out _ _ _ n7 (by omega) HK8.out (hG9.rk (Nat.le_refl _)) (hc7.below hbs (by omega)) (hB7.trans (hbs.mono (by omega)))
          refine hK.out _ _ ((World.cell?_setCell_other _ _ _ _ (by simp <;> omega)).trans y0) (fun hSn => ?_)
          clear hK K9 hSw
          have hSw := hSn
          clear hSn
          try simp [Act.put]
          refine wpAnyH_done (by kernel_rfl) ?_ _
          clear hSw
          go_wp2
          go_ret
          exact HA9.out
        · have e1 : (x5 == 0) = false := by simpa using e0
          by_cases e2 : x5 = 1
          · have e3 : (x5 == 1) = true := by simpa using e2
            obtain ⟨g, cp, ev, hg1, hg2, hg3, hg4, hg5⟩ := HG5.out.head hk0
            have esa : sa = some ⟨g, 0, none⟩ := by injection ev
            have esc : cp = sc := by injection ev with _ _ e9; exact e9.symm
            subst esa
            subst esc
            have x0 := hg4 0 hk0
            have xf := hg5 0
            have hrow := HG5.out.row 0 hk0
            rw [HK.out 0 hk0] at x0 hrow
            have hcl5 := hc5.lt
            clear hg4 hg5 ev
            clear HA5 HR5
            go_upto_region 21 with fail
            go_upto_region 22 with (at_builtin; refine wpList_append_own_at _ rfl _ _ 24 rfl (C + 1) 3 i0' (.int .i64 0) 1 8 Try.underlying24 hi hz0 hz1 hz2 rfl (by decide) (.slice (A 0) k (Cp 0)) k (vL (R 0) k) rfl (World.ownsRow.alloc hrow _) ⟨w5.heap.size, 0, none⟩ 1 1 [.int .i64 1] rfl rfl (cell_one_new _ _ _) (fun x hx => by simp at hx; subst hx; rfl) (by unfold maxLen; omega) (by omega) (by simp; omega) ?_; intro vN w6 hown6 hgrow6 _ hat6; obtain ⟨ra, rc, rfl⟩ := Own.shape (F := put (R 0) k 1) (by unfold Own; rw [vL_put]; exact hown6); have hGa := HG5.out.on ((Below.refl w5.heap.size w5).alloc (Nat.le_refl _) (.cells #[.int .i64 1] 3)); obtain ⟨t6, tf6, tl6, tg6⟩ := hGa.tab3 hk0 (by rw [HK.out 0 hk0]; exact hgrow6); have hown7 : Own w6 (C + 1) (.slice ra (k + 1) rc) (k + 1) (put (R 0) k 1) := (by unfold Own; rw [vL_put]; exact hown6))
            have hR7 : RK (w6.setCell ⟨g, 0, none⟩ (.slice ra (k + 1) rc)) (C + 1) (w6.setCell ⟨g, 0, none⟩ (.slice ra (k + 1) rc)).heap.size (some ⟨g, 0, none⟩) k _ _ := hGa.grown_rk (Nat.le_refl _) hk0 (by rw [HK.out 0 hk0]; exact hgrow6) hown7 (by omega) (by rw [HK.out 0 hk0]; exact hat6)
            have hb6 : Below (C + 1) w5 w6 := ((Below.refl _ _).alloc (by have := hc5.lt; omega) _).grown hgrow6 (by have := hc5.lt; simp; omega) (fun q hq => (World.ownsRow.lt hrow q hq).1)
            have hb7 : Below (C + 1) w5 (w6.setCell ⟨g, 0, none⟩ (.slice ra (k + 1) rc)) := hb6.setCell (p := ⟨g, 0, none⟩) (by show C + 1 ≤ g; omega) _
            have HA9 : Hid (AnsPr w (w6.setCell ⟨g, 0, none⟩ (.slice ra (k + 1) rc)) (.returned (.slice (some ⟨g, 0, none⟩) k cp)) C a len cap n0) := HEnd.out _ _ _ n5 (by omega) (fun i hi9 => by
              by_cases e9 : i = 0
              · rw [if_pos e9]; omega
              · rw [if_neg e9]; exact HK8.out i hi9) hR7 (hc5.below hb7 (by omega)) (hB5.trans (hb7.mono (by omega)))
            clear hR7 hGa hown7 hown6 hgrow6 hat6 HEnd HG5
            go_wp2
            go_ret
            exact HA9.out
          · have e3 : (x5 == 1) = false := by simpa using e2
            clear HG5 HEnd HR5
            go_wp2
            go_ret
            exact HA5.out
end Go.Proofs.Ytjmdghkhapajiaa
