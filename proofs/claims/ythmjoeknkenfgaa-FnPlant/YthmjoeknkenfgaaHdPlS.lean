/- RunPlant, as the specification takes it. -/
import Derived.Test.YthmjoeknkenfgaaHdPlI
namespace Go.Proofs.Ythmjoeknkenfgaa
open Go.RowKit

/-- two lists of the call's own that do not share a block -/
def Apart (u v : Value) : Prop := u.ownBlock = none ∨ v.ownBlock = none ∨ u.ownBlock ≠ v.ownBlock
theorem Apart.symm {u v : Value} (h : Apart u v) : Apart v u := by
  rcases h with e | e | e
  · exact .inr (.inl e)
  · exact .inl e
  · exact .inr (.inr fun h => e h.symm)
theorem own_kept {w w' : World} {base k : Nat} {u v : Value} {F : Nat → Int} (h : Own w base u k F) (hg : w.grownBy w' v.ownBlock) (ha : Apart u v) : Own w' base u k F := by
  refine World.ownsRow.kept h hg ?_
  rcases ha with e | e | e
  · exact .inl e
  · by_cases e2 : u.ownBlock = none
    · exact .inl e2
    · exact .inr (by rw [e]; exact e2)
  · exact .inr e
theorem apart_new {w : World} {base k s : Nat} {u u' v : Value} {F : Nat → Int} (ha : Apart u v) (hv : Own w base v k F) (hb : u'.ownBlock = u.ownBlock ∨ u'.ownBlock = some s) (hs : w.heap.size ≤ s) : Apart u' v := by
  rcases hb with e | e
  · unfold Apart; rw [e]; exact ha
  · cases e2 : v.ownBlock with
    | none => exact .inr (.inl e2)
    | some q =>
      have := (World.ownsRow.lt hv q e2).2
      refine .inr (.inr ?_)
      rw [e, e2]
      intro h
      have := Option.some.inj h
      omega

set_option maxHeartbeats 4000000 in
set_option maxRecDepth 20000 in
theorem specPl_in (l : Lp) (m : Int) (a : Option Addr) (n c : Nat) (f : Nat → Int) (w : World) (hg : goodL l = true) (hm : 1 ≤ m ∧ m ≤ 1000) (hn : n ≤ 60) (hA : IL w a n f) (N : Nat) (B : Bool)
    (HY : Hid (okP l m f n = true → N = n ∧ B = true)) (HN : Hid (okP l m f n = false → N = 0 ∧ B = false)) :
    Calls Try.prog 22 #[lv l, .int .i64 m, .slice a n c] w fun e w' => AnsS2 w w' N (plcF l m f) (oupF l m f) B e := by
  obtain ⟨i0, hi, hzz⟩ := Option.map_eq_some_iff.1 infoI
  simp only [Prod.mk.injEq] at hzz
  obtain ⟨hz0, hz1, hz2⟩ := hzz
  have z0 := bx_new (b := w.heap.size) (w := w) (lvs l) 34 rfl
  have hB0 : Below w.heap.size w (w.alloc (lvo l)) := below_al (Below.refl _ _)
  have hG := fun w => specGoodL l w
  rw [hg] at hG
  have j1 : (n : Int) ≤ 60 := by omega
  go_enter Try.func22, Try.ntmps22
  go_wp2_with fail
  refine (hG _).mono ?_
  rintro e w1 ⟨rfl, hb⟩
  have b0 := z0.on hb
  have hB1 := stepA hB0 hb
  clear hb z0 hB0 hG
  have d0 := b0.alloc (hvo hd0)
  have dh := bx_new (b := w1.heap.size) (w := w1) (hvs hd0) 36 rfl
  have hBc : Below w.heap.size w (w1.alloc (hvo hd0)) := hB1.alloc hB1.size _
  have hl0 := b0.lt
  clear b0 hB1
  go_wp2_with fail
  generalize w1.alloc (hvo hd0) = w2 at d0 dh hBc ⊢
  generalize w1.heap.size = K at dh hl0 ⊢
  go_loopw [10, 11, 12, 13, 37] (fun sp ss va vb i wr => ∃ k : Nat, k ≤ n ∧ i = .int .i64 k ∧ okP l m f k = true ∧ sp = .int .i64 (pnN l m f k).p ∧ ss = .int .i64 (pnN l m f k).s ∧ Bx wr w.heap.size (lvs l) ∧ Bx wr K (hvs (pnN l m f k).h) ∧ Below w.heap.size w wr ∧ Own wr (K + 1) va k (plcF l m f) ∧ Own wr (K + 1) vb k (oupF l m f) ∧ Apart va vb) (fun _ _ _ _ i _ => n - (intOf i).toNat)
  case atStart => exact ⟨0, Nat.zero_le _, rfl, rfl, rfl, rfl, d0, dh, hBc, ⟨rfl, .inl ⟨rfl, rfl⟩⟩, ⟨rfl, .inl ⟨rfl, rfl⟩⟩, .inl rfl⟩
  case round =>
    obtain ⟨k, hk, rfl, hok, rfl, rfl, c0, c1, hB, hoA, hoB, hap⟩ := hrel
    clear d0 dh hBc
    by_cases hlt : k < n
    · have j3 : (k : Int) < (n : Int) := by omega
      obtain ⟨ba, oa, rfl, hba, hca⟩ := hA (by omega)
      have q0 : wr.cell? ⟨ba, oa + k, none⟩ = some (.int .i64 (f k)) := (hB.cell (p := ⟨ba, _, none⟩) hba).trans (hca k hlt)
      have HS : Hid (pnN l m f (k + 1) = pnStep l m (pnN l m f k) (f k)) := rfl
      have HX : Hid (okP l m f (k + 1) = (okP l m f k && okS l (pnN l m f k).h (f k) (pnN l m f k).p)) := rfl
      have HO : Hid (okS l (pnN l m f k).h (f k) (pnN l m f k).p = false → okP l m f n = false) := fun e => okP_no hlt e
      have HOK : Hid (okP l m f k = true) := hok
      clear hok hca hA
      generalize pnN l m f k = x at c1 HS HX HO ⊢
      obtain ⟨xh, xp, xs⟩ := x
      simp only at c1 HO HX ⊢
      have hS := fun w => specStep l xh (f k) xp w
      have HS2 : Hid (pnN l m f (k + 1) = ⟨stepH l xh (f k) xp, cutI (wrap64 (xp + cutI (wrap64 (xs + dnI (stepH l xh (f k) xp).out m)) (-1000000) 1000000)) (-1000000) 1000000, cutI (wrap64 (xs + dnI (stepH l xh (f k) xp).out m)) (-1000000) 1000000⟩) := HS.out
      clear HS
      generalize stepH l xh (f k) xp = R at hS HS2
      generalize hQq : okS l xh (f k) xp = Q at hS HX HO
      clear hQq
      have hD := fun w => l13Down_any R.out m w (by omega)
      generalize dnI R.out m = dd at hD HS2
      have hC1 := fun w => l13Cut_any (wrap64 (xs + dd)) (-1000000) 1000000 w
      generalize cutI (wrap64 (xs + dd)) (-1000000) 1000000 = s2 at hC1 HS2
      have hC2 := fun w => l13Cut_any (wrap64 (xp + s2)) (-1000000) 1000000 w
      generalize cutI (wrap64 (xp + s2)) (-1000000) 1000000 = p2 at hC2 HS2
      obtain ⟨x0, x1, x2, x3, x4, x5, x6⟩ := loop_at c0
      obtain ⟨y0, y1, y2, y3⟩ := hold_at c1
      go_wp2_with fail
      refine (hS _).mono ?_
      rintro e w3 ⟨rfl, hb⟩
      have e0 := (c0.on hb).alloc (hvo R)
      have e1 := (c1.on hb).alloc (hvo R)
      have eg := bx_new (b := w3.heap.size) (w := w3) (hvs R) 36 rfl
      have hA2 := (hoA.below hb).below ((Below.refl w3.heap.size w3).alloc (Nat.le_refl _) (hvo R))
      have hB2' := (hoB.below hb).below ((Below.refl w3.heap.size w3).alloc (Nat.le_refl _) (hvo R))
      have hB2 : Below w.heap.size w (w3.alloc (hvo R)) := (stepA hB hb).alloc (stepA hB hb).size _
      have hs3 := hb.size
      have t1 := c1.lt
      clear x0 x1 x2 x3 x4 x5 x6 y0 y1 y2 y3 c0 c1 hB hoA hoB hb q0 hS
      cases Q
      · obtain ⟨rfl, rfl⟩ := HN.out (HO.out rfl)
        clear HY HN HO
        go_wp2
        exact ret_three rfl rfl ⟨⟨none, 0, none, 0, rfl, IL.none _ _, IL.none _ _⟩, hB2⟩
      · clear HO HN
        go_upto_region 13 with fail
        generalize w3.alloc (hvo R) = w4 at e0 e1 eg hA2 hB2' hB2 ⊢
        have g1 : K < w3.heap.size := by omega
        generalize w3.heap.size = gb at eg g1 ⊢
        obtain ⟨m0, m1, m2, m3⟩ := hold_at eg
        obtain ⟨y0, y1, y2, y3⟩ := hold_at e1
        have f0 := e1.fz 0
        have f1 := e1.fz 1
        have f2 := e1.fz 2
        have f3 := e1.fz 3
        go_upto_region 14 with fail
        have d0 := bx_four e0 (b' := K) (by omega) (.bool R.on) (.int .i64 R.sum) (.int .i64 R.last) (.int .i64 R.out)
        have d1 := e1.set4 R
        have hA3 := hA2.only (((((Only.refl K w4).set 0 (.bool R.on)).set 1 (.int .i64 R.sum)).set 2 (.int .i64 R.last)).set 3 (.int .i64 R.out)) (by omega)
        have hB3' := hB2'.only (((((Only.refl K w4).set 0 (.bool R.on)).set 1 (.int .i64 R.sum)).set 2 (.int .i64 R.last)).set 3 (.int .i64 R.out)) (by omega)
        have hB3 := below_four hB2 (b := K) (by omega) (.bool R.on) (.int .i64 R.sum) (.int .i64 R.last) (.int .i64 R.out)
        clear e0 e1 eg hA2 hB2' hB2 m0 m1 m2 m3 y0 y1 y2 y3 f0 f1 f2 f3
        generalize (((w4.setCell ⟨K, 0, none⟩ (.bool R.on)).setCell ⟨K, 1, none⟩ (.int .i64 R.sum)).setCell ⟨K, 2, none⟩ (.int .i64 R.last)).setCell ⟨K, 3, none⟩ (.int .i64 R.out) = w5 at d0 d1 hA3 hB3' hB3 ⊢
        have p3 := d1.at 3 rfl
        have hs5 := d1.lt
        go_wp2_with fail
        refine (hD _).mono ?_
        rintro e w6 ⟨rfl, hw'⟩
        subst hw'
        go_wp2_with fail
        refine (hC1 _).mono ?_
        rintro e w6 ⟨rfl, hw'⟩
        subst hw'
        go_wp2_with fail
        refine (hC2 _).mono ?_
        rintro e w6 ⟨rfl, hw'⟩
        subst hw'
        clear hD hC1 hC2
        go_upto_region 17 with (at_builtin; refine wpList_append_own_at _ rfl _ _ 23 rfl (K + 1) 3 i0 (.int .i64 0) 1 8 Try.underlying23 hi hz0 hz1 hz2 rfl (by decide) _ _ _ rfl (World.ownsRow.alloc hA3 _) ⟨w6.heap.size, 0, none⟩ 1 1 [.int .i64 p2] rfl rfl (cell_one_new _ _ _) (fun x hx => by simp at hx; subst hx; rfl) (by unfold maxLen; omega) (by omega) (by simp; omega) ?_; intro v' w7 hA4 hgrow4 _ hblk4)
        have hBx4 : Below (K + 1) w6 w7 := ((Below.refl (K + 1) w6).alloc (by omega) (.cells #[.int .i64 p2] 3)).grown hgrow4 (by simp; omega) (fun q hq => (World.ownsRow.lt hA3 q hq).1)
        have hB4' : Own w7 (K + 1) u13 k (oupF l m f) := own_kept (World.ownsRow.alloc hB3' _) hgrow4 hap.symm
        have hap4 : Apart v' u13 := apart_new hap hB3' hblk4 (by simp)
        have d2 := d0.below hBx4 (by omega)
        have d3 := d1.below hBx4 (by omega)
        have hB4 := hB3.trans (hBx4.mono (by omega))
        clear d0 d1 hA3 hB3' hB3 p3 hgrow4 hblk4 hBx4 hap
        have p3 := d3.at 3 rfl
        have hs7 := d3.lt
        go_wp2_with (at_builtin; refine wpList_append_own_at _ rfl _ _ 23 rfl (K + 1) 3 i0 (.int .i64 0) 1 8 Try.underlying23 hi hz0 hz1 hz2 rfl (by decide) _ _ _ rfl (World.ownsRow.alloc hB4' _) ⟨w7.heap.size, 0, none⟩ 1 1 [.int .i64 R.out] rfl rfl (cell_one_new _ _ _) (fun x hx => by simp at hx; subst hx; rfl) (by unfold maxLen; omega) (by omega) (by simp; omega) ?_; intro v8 w8 hB5 hgrow5 _ hblk5)
        have hBx5 : Below (K + 1) w7 w8 := ((Below.refl (K + 1) w7).alloc (by omega) (.cells #[.int .i64 R.out] 3)).grown hgrow5 (by simp; omega) (fun q hq => (World.ownsRow.lt hB4' q hq).1)
        have ep : plcF l m f k = p2 := by unfold plcF; rw [HS2.out]
        have eo : oupF l m f k = R.out := by unfold oupF; rw [HS2.out]
        have hA5 : Own w7 (K + 1) v' (k + 1) (plcF l m f) := by unfold Own; rw [vL_succ, ep]; exact hA4
        have hA6 : Own w8 (K + 1) v' (k + 1) (plcF l m f) := own_kept (World.ownsRow.alloc hA5 _) hgrow5 hap4
        have hap5 : Apart v' v8 := (apart_new hap4.symm hA5 hblk5 (by simp)).symm
        refine ⟨⟨k + 1, by omega, by go_num, by rw [HX.out, HOK.out]; rfl, by rw [HS2.out], by rw [HS2.out], d2.below hBx5 (by omega), ?_, hB4.trans (hBx5.mono (by omega)), hA6, ?_, hap5⟩, by simp [intOf]; omega⟩
        · rw [HS2.out]; exact d3.below hBx5 (by omega)
        · unfold Own; rw [vL_succ, eo]; exact hB5
    · have hke : k = n := by omega
      subst hke
      obtain ⟨hN1, rfl⟩ := HY.out hok
      have hN2 := hN1.symm
      subst hN2
      clear HY HN hA hN1 hok
      obtain ⟨xa, ca, rfl⟩ := hoA.shape
      obtain ⟨xb, cb, rfl⟩ := hoB.shape
      go_wp2
      exact ret_three rfl rfl ⟨⟨xa, ca, xb, cb, rfl, hoA.il, hoB.il⟩, hB⟩

set_option maxHeartbeats 1000000 in
set_option maxRecDepth 20000 in
theorem implPl_no0 (l : Lp) (m : Int) (a : Option Addr) (n c : Nat) (w : World) (hg : goodL l = false) :
    Calls Try.prog 21 #[lv l, .int .i64 m, .slice a n c] w fun e w' => e = .returned (.tuple #[.slice none 0 0, .slice none 0 0, .bool false]) ∧ Below w.heap.size w w' := by
  have z0 := bx_new (b := w.heap.size) (w := w) (lvs l) 34 rfl
  have hB0 : Below w.heap.size w (w.alloc (lvo l)) := below_al (Below.refl _ _)
  have hG := fun w => implGoodL l w
  rw [hg] at hG
  go_enter Try.func21, Try.ntmps21
  go_wp2_with fail
  refine (hG _).mono ?_
  rintro e w1 ⟨rfl, hb⟩
  have hB1 := stepA hB0 hb
  clear hb z0 hB0 hG
  go_wp2
  exact ret_three rfl rfl ⟨rfl, hB1⟩
set_option maxHeartbeats 1000000 in
set_option maxRecDepth 20000 in
theorem implPl_no1 (l : Lp) (m : Int) (a : Option Addr) (n c : Nat) (w : World) (hg : goodL l = true) (hm : m < 1) :
    Calls Try.prog 21 #[lv l, .int .i64 m, .slice a n c] w fun e w' => e = .returned (.tuple #[.slice none 0 0, .slice none 0 0, .bool false]) ∧ Below w.heap.size w w' := by
  have z0 := bx_new (b := w.heap.size) (w := w) (lvs l) 34 rfl
  have hB0 : Below w.heap.size w (w.alloc (lvo l)) := below_al (Below.refl _ _)
  have hG := fun w => implGoodL l w
  rw [hg] at hG
  go_enter Try.func21, Try.ntmps21
  go_wp2_with fail
  refine (hG _).mono ?_
  rintro e w1 ⟨rfl, hb⟩
  have hB1 := stepA hB0 hb
  clear hb z0 hB0 hG
  go_wp2
  exact ret_three rfl rfl ⟨rfl, hB1⟩
set_option maxHeartbeats 1000000 in
set_option maxRecDepth 20000 in
theorem implPl_no2 (l : Lp) (m : Int) (a : Option Addr) (n c : Nat) (w : World) (hg : goodL l = true) (hm : 1 ≤ m) (hm2 : 1000 < m) :
    Calls Try.prog 21 #[lv l, .int .i64 m, .slice a n c] w fun e w' => e = .returned (.tuple #[.slice none 0 0, .slice none 0 0, .bool false]) ∧ Below w.heap.size w w' := by
  have z0 := bx_new (b := w.heap.size) (w := w) (lvs l) 34 rfl
  have hB0 : Below w.heap.size w (w.alloc (lvo l)) := below_al (Below.refl _ _)
  have hG := fun w => implGoodL l w
  rw [hg] at hG
  go_enter Try.func21, Try.ntmps21
  go_wp2_with fail
  refine (hG _).mono ?_
  rintro e w1 ⟨rfl, hb⟩
  have hB1 := stepA hB0 hb
  clear hb z0 hB0 hG
  go_wp2
  exact ret_three rfl rfl ⟨rfl, hB1⟩
set_option maxHeartbeats 1000000 in
set_option maxRecDepth 20000 in
theorem implPl_no3 (l : Lp) (m : Int) (a : Option Addr) (n c : Nat) (w : World) (hg : goodL l = true) (hm : 1 ≤ m) (hm2 : m ≤ 1000) (hn : ¬ n ≤ 60) :
    Calls Try.prog 21 #[lv l, .int .i64 m, .slice a n c] w fun e w' => e = .returned (.tuple #[.slice none 0 0, .slice none 0 0, .bool false]) ∧ Below w.heap.size w w' := by
  have z0 := bx_new (b := w.heap.size) (w := w) (lvs l) 34 rfl
  have hB0 : Below w.heap.size w (w.alloc (lvo l)) := below_al (Below.refl _ _)
  have hG := fun w => implGoodL l w
  rw [hg] at hG
  have j1 : ¬ (n : Int) ≤ 60 := by omega
  go_enter Try.func21, Try.ntmps21
  go_wp2_with fail
  refine (hG _).mono ?_
  rintro e w1 ⟨rfl, hb⟩
  have hB1 := stepA hB0 hb
  clear hb z0 hB0 hG
  go_wp2
  exact ret_three rfl rfl ⟨rfl, hB1⟩
theorem implPl (l : Lp) (m : Int) (a : Option Addr) (n c : Nat) (f : Nat → Int) (w : World) (hA : IL w a n f) :
    Calls Try.prog 21 #[lv l, .int .i64 m, .slice a n c] w fun e w' => AnsP2 w w' (plN l m n f) (plcF l m f) (oupF l m f) (plB l m n f) e := by
  have no : plB l m n f = false → (∀ {e : Ending} {w' : World}, (e = .returned (.tuple #[.slice none 0 0, .slice none 0 0, .bool false]) ∧ Below w.heap.size w w') → AnsP2 w w' (plN l m n f) (plcF l m f) (oupF l m f) (plB l m n f) e) := by
    intro e1 e w' hh
    unfold plN
    rw [e1, if_neg (by decide)]
    exact ⟨⟨none, 0, none, 0, hh.1, fun h0 => absurd h0 (Nat.lt_irrefl _)⟩, hh.2⟩
  cases hg : goodL l
  · exact (implPl_no0 l m a n c w hg).mono fun e w' hh => no (plB_bad (by rw [hg]; rfl)) hh
  by_cases hm : 1 ≤ m
  rotate_left
  · exact (implPl_no1 l m a n c w hg (by omega)).mono fun e w' hh => no (plB_bad (by have : massB m = false := decide_eq_false (by omega); rw [hg, this]; rfl)) hh
  by_cases hm2 : m ≤ 1000
  rotate_left
  · exact (implPl_no2 l m a n c w hg hm (by omega)).mono fun e w' hh => no (plB_bad (by have : massB m = false := decide_eq_false (by omega); rw [hg, this]; rfl)) hh
  have hmb : massB m = true := decide_eq_true ⟨hm, hm2⟩
  by_cases hn : n ≤ 60
  rotate_left
  · exact (implPl_no3 l m a n c w hg hm hm2 hn).mono fun e w' hh => no (plB_bad (by rw [hg, hmb, decide_eq_false hn]; rfl)) hh
  have e0 : plB l m n f = okP l m f n := by unfold plB; rw [hg, hmb, decide_eq_true hn]; rfl
  refine implPl_in l m a n c f w hg ⟨hm, hm2⟩ hn hA _ _ (fun e => ?_) (fun e => ?_)
  · unfold plN; rw [e0, e, if_pos rfl]; exact ⟨rfl, rfl⟩
  · unfold plN; rw [e0, e, if_neg (by decide)]; exact ⟨rfl, rfl⟩

set_option maxHeartbeats 1000000 in
set_option maxRecDepth 20000 in
theorem specPl_no0 (l : Lp) (m : Int) (a : Option Addr) (n c : Nat) (w : World) (hg : goodL l = false) :
    Calls Try.prog 22 #[lv l, .int .i64 m, .slice a n c] w fun e w' => e = .returned (.tuple #[.slice none 0 0, .slice none 0 0, .bool false]) ∧ Below w.heap.size w w' := by
  have z0 := bx_new (b := w.heap.size) (w := w) (lvs l) 34 rfl
  have hB0 : Below w.heap.size w (w.alloc (lvo l)) := below_al (Below.refl _ _)
  have hG := fun w => specGoodL l w
  rw [hg] at hG
  go_enter Try.func22, Try.ntmps22
  go_wp2_with fail
  refine (hG _).mono ?_
  rintro e w1 ⟨rfl, hb⟩
  have hB1 := stepA hB0 hb
  clear hb z0 hB0 hG
  go_wp2
  exact ret_three rfl rfl ⟨rfl, hB1⟩
set_option maxHeartbeats 1000000 in
set_option maxRecDepth 20000 in
theorem specPl_no1 (l : Lp) (m : Int) (a : Option Addr) (n c : Nat) (w : World) (hg : goodL l = true) (hm : m < 1) :
    Calls Try.prog 22 #[lv l, .int .i64 m, .slice a n c] w fun e w' => e = .returned (.tuple #[.slice none 0 0, .slice none 0 0, .bool false]) ∧ Below w.heap.size w w' := by
  have z0 := bx_new (b := w.heap.size) (w := w) (lvs l) 34 rfl
  have hB0 : Below w.heap.size w (w.alloc (lvo l)) := below_al (Below.refl _ _)
  have hG := fun w => specGoodL l w
  rw [hg] at hG
  go_enter Try.func22, Try.ntmps22
  go_wp2_with fail
  refine (hG _).mono ?_
  rintro e w1 ⟨rfl, hb⟩
  have hB1 := stepA hB0 hb
  clear hb z0 hB0 hG
  go_wp2
  exact ret_three rfl rfl ⟨rfl, hB1⟩
set_option maxHeartbeats 1000000 in
set_option maxRecDepth 20000 in
theorem specPl_no2 (l : Lp) (m : Int) (a : Option Addr) (n c : Nat) (w : World) (hg : goodL l = true) (hm : 1 ≤ m) (hm2 : 1000 < m) :
    Calls Try.prog 22 #[lv l, .int .i64 m, .slice a n c] w fun e w' => e = .returned (.tuple #[.slice none 0 0, .slice none 0 0, .bool false]) ∧ Below w.heap.size w w' := by
  have z0 := bx_new (b := w.heap.size) (w := w) (lvs l) 34 rfl
  have hB0 : Below w.heap.size w (w.alloc (lvo l)) := below_al (Below.refl _ _)
  have hG := fun w => specGoodL l w
  rw [hg] at hG
  go_enter Try.func22, Try.ntmps22
  go_wp2_with fail
  refine (hG _).mono ?_
  rintro e w1 ⟨rfl, hb⟩
  have hB1 := stepA hB0 hb
  clear hb z0 hB0 hG
  go_wp2
  exact ret_three rfl rfl ⟨rfl, hB1⟩
set_option maxHeartbeats 1000000 in
set_option maxRecDepth 20000 in
theorem specPl_no3 (l : Lp) (m : Int) (a : Option Addr) (n c : Nat) (w : World) (hg : goodL l = true) (hm : 1 ≤ m) (hm2 : m ≤ 1000) (hn : ¬ n ≤ 60) :
    Calls Try.prog 22 #[lv l, .int .i64 m, .slice a n c] w fun e w' => e = .returned (.tuple #[.slice none 0 0, .slice none 0 0, .bool false]) ∧ Below w.heap.size w w' := by
  have z0 := bx_new (b := w.heap.size) (w := w) (lvs l) 34 rfl
  have hB0 : Below w.heap.size w (w.alloc (lvo l)) := below_al (Below.refl _ _)
  have hG := fun w => specGoodL l w
  rw [hg] at hG
  have j1 : ¬ (n : Int) ≤ 60 := by omega
  go_enter Try.func22, Try.ntmps22
  go_wp2_with fail
  refine (hG _).mono ?_
  rintro e w1 ⟨rfl, hb⟩
  have hB1 := stepA hB0 hb
  clear hb z0 hB0 hG
  go_wp2
  exact ret_three rfl rfl ⟨rfl, hB1⟩
theorem specPl (l : Lp) (m : Int) (a : Option Addr) (n c : Nat) (f : Nat → Int) (w : World) (hA : IL w a n f) :
    Calls Try.prog 22 #[lv l, .int .i64 m, .slice a n c] w fun e w' => AnsS2 w w' (plN l m n f) (plcF l m f) (oupF l m f) (plB l m n f) e := by
  have no : plB l m n f = false → (∀ {e : Ending} {w' : World}, (e = .returned (.tuple #[.slice none 0 0, .slice none 0 0, .bool false]) ∧ Below w.heap.size w w') → AnsS2 w w' (plN l m n f) (plcF l m f) (oupF l m f) (plB l m n f) e) := by
    intro e1 e w' hh
    unfold plN
    rw [e1, if_neg (by decide)]
    exact ⟨⟨none, 0, none, 0, hh.1, IL.none _ _, IL.none _ _⟩, hh.2⟩
  cases hg : goodL l
  · exact (specPl_no0 l m a n c w hg).mono fun e w' hh => no (plB_bad (by rw [hg]; rfl)) hh
  by_cases hm : 1 ≤ m
  rotate_left
  · exact (specPl_no1 l m a n c w hg (by omega)).mono fun e w' hh => no (plB_bad (by have : massB m = false := decide_eq_false (by omega); rw [hg, this]; rfl)) hh
  by_cases hm2 : m ≤ 1000
  rotate_left
  · exact (specPl_no2 l m a n c w hg hm (by omega)).mono fun e w' hh => no (plB_bad (by have : massB m = false := decide_eq_false (by omega); rw [hg, this]; rfl)) hh
  have hmb : massB m = true := decide_eq_true ⟨hm, hm2⟩
  by_cases hn : n ≤ 60
  rotate_left
  · exact (specPl_no3 l m a n c w hg hm hm2 hn).mono fun e w' hh => no (plB_bad (by rw [hg, hmb, decide_eq_false hn]; rfl)) hh
  have e0 : plB l m n f = okP l m f n := by unfold plB; rw [hg, hmb, decide_eq_true hn]; rfl
  refine specPl_in l m a n c f w hg ⟨hm, hm2⟩ hn hA _ _ (fun e => ?_) (fun e => ?_)
  · unfold plN; rw [e0, e, if_pos rfl]; exact ⟨rfl, rfl⟩
  · unfold plN; rw [e0, e, if_neg (by decide)]; exact ⟨rfl, rfl⟩
end Go.Proofs.Ythmjoeknkenfgaa
