/- A frame that is drawn, where the cursor has gone some way (tools/gen_bufb.py). -/
import Derived.Test.YtldagjgpapnfpaaQBuFb
import Derived.Test.YtldagjgpapnfpaaQCurNew
import Derived.Deep.OwnRows
namespace Go.Proofs.Ytldagjgpapnfpaa
open Go.RowKit
/-- what stands while a frame is drawn -/
structure Fd (w wx : World) (C : Nat) (a : Option Addr) (len cap m : Nat) (R B lo hi : Nat) (W : Int) (x : Option Addr) (n c : Nat) (f : Nat → Int) : Prop where
  cur : Cur wx C a len cap m
  r : Bx wx R (frvL 0 none 0 0)
  b : Bx wx B (frvL W x n c)
  q : VQ wx lo hi x n (fun i => .int .u8 (f i))
  t : Turns C (C + 1) w wx
  bd : Hid (∀ i, i < n → 0 ≤ f i ∧ f i ≤ 255)
  n9 : n ≤ 9
  sh : Shp x n c
  lc : C < lo ∧ R < lo ∧ C < R ∧ R < B ∧ (B < lo ∨ hi ≤ B) ∧ w.heap.size ≤ R
section
variable {w wx wy : World} {C : Nat} {a : Option Addr} {len cap m m2 R B lo hi : Nat} {W : Int} {x : Option Addr} {n c : Nat} {f : Nat → Int}
theorem Fd.step (h : Fd w wx C a len cap m R B lo hi W x n c f) (hc : Cur wy C a len cap m2) (T : Turns C (C + 1) wx wy) : Fd w wy C a len cap m2 R B lo hi W x n c f := by
  obtain ⟨l1, l2, l3, l4, l5, l6⟩ := h.lc
  exact ⟨hc, h.r.turns T (.inr (by omega)), h.b.turns T (.inr (by omega)), h.q.turns T (.inr (by omega)), h.t.trans T, h.bd, h.n9, h.sh, h.lc⟩
theorem Fd.al (h : Fd w wx C a len cap m R B lo hi W x n c f) (o : Obj) : Fd w (wx.alloc o) C a len cap m R B lo hi W x n c f := by
  have hb : Below wx.heap.size wx (wx.alloc o) := (Below.refl _ _).alloc (Nat.le_refl _) _
  exact h.step (h.cur.below hb h.cur.lt) (turns_of hb)
theorem Fd.id (h : Fd w wx C a len cap m R B lo hi W x n c f) (V : Int) : Fd w (wx.setCell ⟨B, 0, none⟩ (.int .i64 V)) C a len cap m R B lo hi V x n c f := by
  obtain ⟨l1, l2, l3, l4, l5, l6⟩ := h.lc
  have hb : Below B wx (wx.setCell ⟨B, 0, none⟩ (.int .i64 V)) := (Below.refl _ _).setCell (p := ⟨B, 0, none⟩) (Nat.le_refl _) _
  exact ⟨h.cur.below hb (by omega), h.r.far _ (by omega), h.b.set 0 (by simp) _, vq_set h.q _ l5, tn_below h.t hb (by omega), h.bd, h.n9, h.sh, h.lc⟩
theorem Fd.data (h : Fd w wx C a len cap m R B lo hi W x n c f) {y : Option Addr} {k d lo2 hi2 : Nat} {g : Nat → Int} (hq : VQ wx lo2 hi2 y k (fun i => .int .u8 (g i))) (hk : k ≤ 9) (hg : ∀ i, i < k → 0 ≤ g i ∧ g i ≤ 255) (h1 : B < lo2) (hs : Shp y k d) : Fd w (wx.setCell ⟨B, 1, none⟩ (.slice y k d)) C a len cap m R B lo2 hi2 W y k d g := by
  obtain ⟨l1, l2, l3, l4, l5, l6⟩ := h.lc
  have hb : Below B wx (wx.setCell ⟨B, 1, none⟩ (.slice y k d)) := (Below.refl _ _).setCell (p := ⟨B, 1, none⟩) (Nat.le_refl _) _
  exact ⟨h.cur.below hb (by omega), h.r.far _ (by omega), h.b.set 1 (by simp) _, vq_set hq _ (.inl h1), tn_below h.t hb (by omega), hg, hk, hs, by omega, by omega, l3, l4, .inl h1, l6⟩
end
/-- a drawn frame, told -/
def AnsDn (C : Nat) (a : Option Addr) (len cap M : Nat) (w : World) (e : Ending) (w' : World) : Prop := ∃ (W : Int) (x : Option Addr) (n c : Nat) (f : Nat → Int), e = .returned (frv W x n c) ∧ n ≤ 9 ∧ Shp x n c ∧ (∃ m, m ≤ M ∧ Cur w' C a len cap m) ∧ (∃ hi, VQ w' w.heap.size hi x n (fun i => .int .u8 (f i))) ∧ (∀ i, i < n → 0 ≤ f i ∧ f i ≤ 255) ∧ Turns C (C + 1) w w'
theorem Fd.ans {w wx : World} {C : Nat} {a : Option Addr} {len cap m R B lo hi : Nat} {W : Int} {x : Option Addr} {n c : Nat} {f : Nat → Int} {M : Nat} (h : Fd w wx C a len cap m R B lo hi W x n c f) (hM : m ≤ M) :
    AnsDn C a len cap M w (.returned (frv W x n c)) ((wx.setCell ⟨R, 0, none⟩ (.int .i64 W)).setCell ⟨R, 1, none⟩ (.slice x n c)) := by
  obtain ⟨l1, l2, l3, l4, l5, l6⟩ := h.lc
  have hb : Below R wx ((wx.setCell ⟨R, 0, none⟩ (.int .i64 W)).setCell ⟨R, 1, none⟩ (.slice x n c)) := ((Below.refl _ _).setCell (p := ⟨R, 0, none⟩) (Nat.le_refl _) _).setCell (p := ⟨R, 1, none⟩) (Nat.le_refl _) _
  exact ⟨W, x, n, c, f, rfl, h.n9, h.sh, ⟨m, hM, h.cur.below hb (by omega)⟩, ⟨hi, (vq_set (vq_set h.q _ (.inl l2)) _ (.inl l2)).wide (by omega) (Nat.le_refl _)⟩, h.bd.out, tn_below h.t hb (by omega)⟩
set_option maxRecDepth 20000 in
set_option maxHeartbeats 4000000 in
theorem frameN (C : Nat) (a : Option Addr) (len cap m0 : Nat) (w : World) (h : Cur w C a len cap m0) (hm0 : m0 ≤ 90000) :
    Calls Try.prog 23 #[.pointer (some ⟨C, 0, none⟩)] w fun e w' => AnsDn C a len cap (m0 + 60) w e w' := by
  have hC := h.lt
  have hmk := fun n (hn : n ≤ 9) => run_make_row' (P := Try.prog) 22 5 (.int .u8 0) 1 Try.underlying22 infoU8 rfl .i64 .i64 n (by omega) (by omega)
  have hx0 : Below w.heap.size w (w.alloc (frvO 0 none 0 0 54)) := (Below.refl _ _).alloc (Nat.le_refl _) _
  have z0 := bx_new (w := w) (frvL 0 none 0 0) 54 rfl
  have hs0 : (w.alloc (frvO 0 none 0 0 54)).heap.size = w.heap.size + 1 := size_al _ _
  have hc0 := h.below hx0 hC
  have kP := pick_any C a len cap m0 40 (w.alloc (frvO 0 none 0 0 54)) hc0 (by omega)
  go_enter Try.func23, Try.ntmps23
  go_wp2_with fail
  refine kP.mono ?_
  rintro e w1 ⟨I, m1, rfl, -, -, -, hm1, hc1, hO1⟩
  have z1 := z0.turns (tn_only hO1) (.inr (by omega))
  have hT1 : Turns C (C + 1) w w1 := (turns_of hx0).trans (tn_only hO1)
  have hs1 := hO1.size
  rw [hs0] at hs1
  clear kP hO1 hc0 h hx0 z0 hs0
  have kB := bytesD C a len cap m1 4 w1 hc1 (by omega) (by omega)
  go_wp2_with fail
  refine kB.mono ?_
  rintro e w2 ⟨x, c, o, m2, rfl, ho4, hg, hm2, hY⟩
  have hQ := hY.own.vq
  have hs2 := hY.own.shp
  have z2 := z1.turns hY.t (.inr (by omega))
  have hT2 := hT1.trans hY.t
  have hc2 := hY.cur
  have hn2 := hY.t.size
  clear kB hY hc1 z1 hT1
  have hx2 : Below w2.heap.size w2 (w2.alloc (frvO I x o.length c 54)) := (Below.refl _ _).alloc (Nat.le_refl _) _
  have F3 : Fd w (w2.alloc (frvO I x o.length c 54)) C a len cap m2 w.heap.size w2.heap.size w1.heap.size w2.heap.size I x o.length c (gL o) :=
    ⟨hc2.below hx2 hc2.lt, z2.on hx2, bx_new (w := w2) (frvL I x o.length c) 54 rfl, hQ.on hx2, hT2.trans (turns_of hx2), hg, by omega, hs2, by omega, by omega, hC, by omega, .inr (Nat.le_refl _), Nat.le_refl _⟩
  have kQ := pick_any C a len cap m2 12 (w2.alloc (frvO I x o.length c 54)) F3.cur (by omega)
  clear hQ z2 hT2 hc2 hx2 hg
  go_wp2_with fail
  refine kQ.mono ?_
  rintro e w4 ⟨Q, m4, rfl, hq0, -, -, hm4, hc4, hO4⟩
  have F4 := F3.step hc4 (tn_only hO4)
  clear kQ F3 hc4 hO4
  generalize w2.heap.size = B at *
  generalize w1.heap.size = lo at *
  generalize o.length = N at *
  generalize gL o = f at *
  by_cases e0 : Q = 0
  · subst e0
    have hIP := lit_ip w4 [-1, 0, 2047, 2048] 3
    have F5 := F4.al (.cells #[.int .i64 (-1), .int .i64 0, .int .i64 2047, .int .i64 2048] 3)
    have kA := among_any C a len cap m4 w4.heap.size 4 4 _ _ F5.cur (by omega) hIP (by have := F4.cur.lt; omega) (by omega) (by omega)
    clear hIP
    go_wp2_with fail
    refine kA.mono ?_
    rintro e w6 ⟨i, m6, -, rfl, hm6, hc6, hO6⟩
    have F6 := F5.step hc6 (tn_only hO6)
    clear kA F5 F4 hc6 hO6
    generalize List.getD [-1, 0, 2047, 2048] i (0 : Int) = V at *
    have b0 := F6.b.c0
    have b1 := F6.b.c1
    have bf0 := F6.b.fz 0
    have bf1 := F6.b.fz 1
    have bl := F6.b.lt
    have F7 := F6.id V
    go_upto_region 11 with fail
    generalize w6.setCell ⟨B, 0, none⟩ (.int .i64 V) = w7 at *
    clear b0 b1 bf0 bf1 bl F6
    have v0 := F7.b.c0
    have v1 := F7.b.c1
    have u0 := F7.r.c0
    have u1 := F7.r.c1
    have f0 := F7.r.fz 0
    have f1 := F7.r.fz 1
    have l0 := F7.r.lt
    have rE := (F7.r.set 0 (by simp) (.int .i64 (V))).set 1 (by simp) (.slice x N c)
    have hA := F7.ans (M := m0 + 60) (by omega)
    go_wp2
    refine ret_frv Try.results23 rfl rE.c0 rE.c1 rfl ?_
    exact hA
  · by_cases e1 : Q = 1
    · subst e1
      have kB := bytesD C a len cap m4 9 w4 F4.cur (by omega) (by omega)
      go_wp2_with fail
      refine kB.mono ?_
      rintro e w6 ⟨y, d, o2, m6, rfl, ho9, hg, hm6, hY⟩
      have F6 := F4.step hY.cur hY.t
      have hQ := hY.own.vq
      have hBl := F4.b.lt
      have F7 := F6.data (d := d) hQ ho9 hg hBl hY.own.shp
      clear kB hY F4 hQ hg
      have b0 := F6.b.c0
      have b1 := F6.b.c1
      have bf0 := F6.b.fz 0
      have bf1 := F6.b.fz 1
      have bl := F6.b.lt
      clear F6
      generalize o2.length = N2 at *
      generalize gL o2 = g2 at *
      go_upto_region 11 with fail
      generalize w6.setCell ⟨B, 1, none⟩ (.slice y N2 d) = w7 at *
      clear b0 b1 bf0 bf1 bl
      have v0 := F7.b.c0
      have v1 := F7.b.c1
      have u0 := F7.r.c0
      have u1 := F7.r.c1
      have f0 := F7.r.fz 0
      have f1 := F7.r.fz 1
      have l0 := F7.r.lt
      have rE := (F7.r.set 0 (by simp) (.int .i64 (I))).set 1 (by simp) (.slice y N2 d)
      have hA := F7.ans (M := m0 + 60) (by omega)
      go_wp2
      refine ret_frv Try.results23 rfl rE.c0 rE.c1 rfl ?_
      exact hA
    · by_cases e2 : Q = 2
      · subst e2
        have kA := pick_any C a len cap m4 2048 w4 F4.cur (by omega)
        go_wp2_with fail
        refine kA.mono ?_
        rintro e w6 ⟨V, m6, rfl, -, -, -, hm6, hc6, hO6⟩
        have F6 := F4.step hc6 (tn_only hO6)
        clear kA F4 hc6 hO6
        have b0 := F6.b.c0
        have b1 := F6.b.c1
        have bf0 := F6.b.fz 0
        have bf1 := F6.b.fz 1
        have bl := F6.b.lt
        have F7 := F6.id V
        go_upto_region 11 with fail
        generalize w6.setCell ⟨B, 0, none⟩ (.int .i64 V) = w7 at *
        clear b0 b1 bf0 bf1 bl F6
        have v0 := F7.b.c0
        have v1 := F7.b.c1
        have u0 := F7.r.c0
        have u1 := F7.r.c1
        have f0 := F7.r.fz 0
        have f1 := F7.r.fz 1
        have l0 := F7.r.lt
        have rE := (F7.r.set 0 (by simp) (.int .i64 (V))).set 1 (by simp) (.slice x N c)
        have hA := F7.ans (M := m0 + 60) (by omega)
        go_wp2
        refine ret_frv Try.results23 rfl rE.c0 rE.c1 rfl ?_
        exact hA
      · by_cases e3 : Q = 3
        · subst e3
          have kA := pick_any C a len cap m4 9 w4 F4.cur (by omega)
          go_wp2_with fail
          refine kA.mono ?_
          rintro e w6 ⟨V, m6, rfl, hv0, hv1, -, hm6, hc6, hO6⟩
          have hv2 := hv1 (by omega)
          obtain ⟨K, rfl⟩ := Int.eq_ofNat_of_zero_le hv0
          have F6 := F4.step hc6 (tn_only hO6)
          have hm := hmk K (by omega)
          have F7 := F6.al (.cells (madeCells #[.int .u8 0] K) 5)
          have hrow := World.rowIs_alloc w6 (madeCells #[.int .u8 0] K) 5 (fun _ => .int .u8 0) (by intro i hi; simp [madeCells] at hi; simp [madeCells, hi, Nat.mod_one])
          have hsK : (madeCells #[.int .u8 0] K).size = K := by simp [madeCells]
          rw [hsK] at hrow
          have hQ : VQ (w6.alloc (.cells (madeCells #[.int .u8 0] K) 5)) w6.heap.size (w6.heap.size + 1) (some ⟨w6.heap.size, 0, none⟩) K (fun i => .int .u8 ((fun _ => (0 : Int)) i)) := fun _ => ⟨w6.heap.size, rfl, Nat.le_refl _, Nat.lt_succ_self _, vp_row hrow⟩
          have hBl := F6.b.lt
          have F8 := F7.data (d := K) hQ (by omega) (fun i hi => ⟨Int.le_refl _, by decide⟩) hBl (shp_at _ _ (Nat.le_refl _))
          rw [World.setCell_alloc_past _ _ _ _ hBl] at F8
          clear kA F4 hc6 hO6 F6 hQ hrow hsK hmk hv1
          have b0 := F7.b.c0
          have b1 := F7.b.c1
          have bf0 := F7.b.fz 0
          have bf1 := F7.b.fz 1
          have bl := F7.b.lt
          clear F7
          go_upto_region 11 with fail
          generalize w6.heap.size = S6 at *
          generalize (w6.setCell ⟨B, 1, none⟩ (.slice (some ⟨S6, 0, none⟩) K K)).alloc (.cells (madeCells #[.int .u8 0] K) 5) = w7 at *
          clear b0 b1 bf0 bf1 bl hm
          have v0 := F8.b.c0
          have v1 := F8.b.c1
          have u0 := F8.r.c0
          have u1 := F8.r.c1
          have f0 := F8.r.fz 0
          have f1 := F8.r.fz 1
          have l0 := F8.r.lt
          have rE := (F8.r.set 0 (by simp) (.int .i64 (I))).set 1 (by simp) (.slice (some ⟨S6, 0, none⟩) K K)
          have hA := F8.ans (M := m0 + 60) (by omega)
          go_wp2
          refine ret_frv Try.results23 rfl rE.c0 rE.c1 rfl ?_
          exact hA
        · have t0 : (Q == 0) = false := beq_eq_false_iff_ne.2 e0
          have t1 : (Q == 1) = false := beq_eq_false_iff_ne.2 e1
          have t2 : (Q == 2) = false := beq_eq_false_iff_ne.2 e2
          have t3 : (Q == 3) = false := beq_eq_false_iff_ne.2 e3
          have v0 := F4.b.c0
          have v1 := F4.b.c1
          have u0 := F4.r.c0
          have u1 := F4.r.c1
          have f0 := F4.r.fz 0
          have f1 := F4.r.fz 1
          have l0 := F4.r.lt
          have rE := (F4.r.set 0 (by simp) (.int .i64 (I))).set 1 (by simp) (.slice x N c)
          have hA := F4.ans (M := m0 + 60) (by omega)
          go_wp2
          refine ret_frv Try.results23 rfl rE.c0 rE.c1 rfl ?_
          exact hA
end Go.Proofs.Ytldagjgpapnfpaa
