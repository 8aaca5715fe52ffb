/- A ray over counts, as the program adds it. -/
import Derived.Test.YtnoaonflphameaaRyImplA
import Derived.Deep.CutRange
import Derived.Deep.RegionHeld
namespace Go.Proofs.Ytnoaonflphameaa
open Go.RowKit

/-- what stands while the cells of the line are gone through: the boxes, both lists -/
structure Rst (w wx : World) (W H : Int) (n Sb A gh ch gm cm : Nat) (F G : Nat → Int) : Prop where
  s : Bx wx Sb (sdL W H)
  r : Bx wx (w.heap.size + 1) (cntL 0 none 0 0 none 0 0)
  a : Bx wx A (cntL W (some ⟨gh, 0, none⟩) n ch (some ⟨gm, 0, none⟩) n cm)
  h : IP wx gh n F
  m : IP wx gm n G
  be : Below w.heap.size w wx
/-- what does not change -/
structure Rfx (w : World) (n Sb A gh gm : Nat) : Prop where
  fs : w.heap.size + 1 < Sb
  fa : Sb < A
  fh : Sb < gh
  fm : Sb < gm
  ah : A ≠ gh
  am : A ≠ gm
  hm : gh ≠ gm
theorem Rst.on {w wx w2 : World} {W H : Int} {n Sb A gh ch gm cm : Nat} {F G : Nat → Int} (g : Rst w wx W H n Sb A gh ch gm cm F G) (k : Below wx.heap.size wx w2) : Rst w w2 W H n Sb A gh ch gm cm F G :=
  ⟨g.s.on k, g.r.on k, g.a.on k, g.h.below k g.h.lt, g.m.below k g.m.lt, stepA g.be k⟩
theorem Rst.putM {w wx : World} {W H : Int} {n Sb A gh ch gm cm : Nat} {F G : Nat → Int} (g : Rst w wx W H n Sb A gh ch gm cm F G) (x : Rfx w n Sb A gh gm) {k : Nat} (hk : k < n) (v : Int) : Rst w (wx.setCell ⟨gm, k, none⟩ (.int .i64 v)) W H n Sb A gh ch gm cm F (put G k v) := by
  have h1 := x.fs
  have h2 := x.fa
  have h3 := x.fm
  exact ⟨g.s.far _ (by omega), g.r.far _ (by omega), g.a.far _ x.am, ip_far g.h x.hm _, g.m.set hk v, g.be.setCell (p := ⟨gm, k, none⟩) (by simp; omega) _⟩
theorem Rst.putH {w wx : World} {W H : Int} {n Sb A gh ch gm cm : Nat} {F G : Nat → Int} (g : Rst w wx W H n Sb A gh ch gm cm F G) (x : Rfx w n Sb A gh gm) {k : Nat} (hk : k < n) (v : Int) : Rst w (wx.setCell ⟨gh, k, none⟩ (.int .i64 v)) W H n Sb A gh ch gm cm (put F k v) G := by
  have h1 := x.fs
  have h2 := x.fa
  have h3 := x.fh
  exact ⟨g.s.far _ (by omega), g.r.far _ (by omega), g.a.far _ x.ah, g.h.set hk v, ip_far g.m x.hm.symm _, g.be.setCell (p := ⟨gh, k, none⟩) (by simp; omega) _⟩
structure Lns (wx : World) (gl N : Nat) (Bl : Nat → Nat) (LX LY : Nat → Int) : Prop where
  c : ∀ i, i < N + 1 → wx.cell? ⟨gl, i, none⟩ = some (hd2 (Bl i))
  p : ∀ i, i < N + 1 → IP wx (Bl i) 2 (pr (LX i) (LY i))
theorem Lns.on {wx w2 : World} {gl N : Nat} {Bl : Nat → Nat} {LX LY : Nat → Int} (g : Lns wx gl N Bl LX LY) (k : Below wx.heap.size wx w2) : Lns w2 gl N Bl LX LY :=
  ⟨fun i hi => (k.cell (p := ⟨gl, i, none⟩) (World.block_lt_of_cell? _ _ (g.c i hi))).trans (g.c i hi), fun i hi => (g.p i hi).below k (g.p i hi).lt⟩
theorem Lns.putX {wx : World} {gl N : Nat} {Bl : Nat → Nat} {LX LY : Nat → Int} (g : Lns wx gl N Bl LX LY) {b : Nat} (j : Nat) (hg : gl ≠ b) (hb : ∀ i, i < N + 1 → Bl i ≠ b) (v : Value) : Lns (wx.setCell ⟨b, j, none⟩ v) gl N Bl LX LY :=
  ⟨fun i hi => (cell_same (((Only.refl b wx).set j v).block gl hg) i).trans (g.c i hi), fun i hi => ip_far (g.p i hi) (hb i hi) v⟩
theorem ip_il {w : World} {b n : Nat} {F : Nat → Int} (h : IP w b n F) : IL w (some ⟨b, 0, none⟩) n F := (lq_of h (Nat.le_refl b) (Nat.lt_succ_self b)).il
def S9 (A gm m cm Sb : Nat) (W H : Int) (Bk : Nat) (xk yk : Int) (w' : World) : Prop := w'.cell? ⟨A, 2, none⟩ = some (.slice (some ⟨gm, 0, none⟩) m cm) ∧ w'.cell? ⟨Sb, 0, none⟩ = some (.int .i64 W) ∧ w'.cell? ⟨Sb, 1, none⟩ = some (.int .i64 H) ∧ w'.cell? ⟨Bk, 0, none⟩ = some (.int .i64 xk) ∧ w'.cell? ⟨Bk, 1, none⟩ = some (.int .i64 yk)
theorem keep9 {w wx w2 : World} {W H : Int} {n Sb A gh ch gm cm : Nat} {F G : Nat → Int} {B : Nat} {X Y : Int} (g : Rst w wx W H n Sb A gh ch gm cm F G) (hp : IP wx B 2 (pr X Y)) (k : Below wx.heap.size wx w2) :
    S9 A gm n cm Sb W H B X Y w2 :=
  ⟨(g.a.on k).c2, (g.s.on k).c0, (g.s.on k).c1, (hp.below k hp.lt).c 0 (by omega), (hp.below k hp.lt).c 1 (by omega)⟩
theorem keep9s {w wx : World} {W H : Int} {n Sb A gh ch gm cm : Nat} {F G : Nat → Int} {B : Nat} {X Y : Int} (x : Rfx w n Sb A gh gm) (g : Rst w wx W H n Sb A gh ch gm cm F G) (hp : IP wx B 2 (pr X Y)) (hB : B ≠ gm) (j : Nat) (v : Value) :
    S9 A gm n cm Sb W H B X Y (wx.setCell ⟨gm, j, none⟩ v) := by
  have h3 := x.fm
  have q := ip_far (k := j) hp hB v
  exact ⟨(g.a.far _ x.am).c2, (g.s.far _ (by omega)).c0, (g.s.far _ (by omega)).c1, q.c 0 (by omega), q.c 1 (by omega)⟩

set_option maxHeartbeats 4000000 in
set_option maxRecDepth 20000 in
theorem implRay_yes (W : Int) (a b : Option Addr) (n c m d : Nat) (f g : Nat → Int) (x1 y1 x2 y2 : Int) (hit : Bool) (w : World) (hn : n ≤ 1048576) (hm : m ≤ 1048576) (hf : IL w a n f) (hg : IL w b m g) (hray : rayB W n f m g x1 y1 x2 y2 = true) :
    Calls Try.prog 9 #[cnt W a n c b m d, .int .i64 x1, .int .i64 y1, .int .i64 x2, .int .i64 y2, .bool hit] w fun e w' => AnsA w w' e W n (rayF f (rid W x1 y1 x2 y2) (rN x1 y1 x2 y2) hit) (rayG g (rid W x1 y1 x2 y2) (rN x1 y1 x2 y2) hit) (rayQ W n f m g x1 y1 x2 y2 hit) ∧ Below w.heap.size w w' := by
  have hR := ray_of hray
  obtain ⟨R, hmn, hfB, hgB, h1, h2⟩ := hR
  subst hmn
  have hc : cntB W m f m g = true := by unfold rayB at hray; simp only [Bool.and_eq_true] at hray; exact hray.1.1
  have hq := rayQ_yes (hit := hit) hray
  have hN := sized_le R.sz
  have hsd := sidesOf_any W a b m c m d f g ((w.alloc (cntO W a m c b m d 25)).alloc (cntO 0 none 0 0 none 0 0 25)) hn hm ((hf.alloc _).alloc _) ((hg.alloc _).alloc _)
  have bA0 := (bx_new (w := w) (cntL W a m c b m d) 25 rfl).alloc (cntO 0 none 0 0 none 0 0 25)
  have bR0 := bx_new (w := w.alloc (cntO W a m c b m d 25)) (b := w.heap.size + 1) (cntL 0 none 0 0 none 0 0) 25 (by simp)
  rw [sof_t hc, hc] at hsd
  simp only at hsd
  generalize hH : hgt W m = H at hsd h1 h2
  go_enter Try.func9, Try.ntmps9
  go_wp2_with fail
  refine hsd.mono ?_
  rintro e w1 ⟨rfl, hb1⟩
  have hB1 := below_al (below_al hb1)
  have bA1 := bA0.on hb1
  have bR1 := bR0.on hb1
  clear hsd bA0 bR0 hb1
  go_upto_region 2 with fail
  have hA1 := (Below.refl w1.heap.size w1).alloc (Nat.le_refl _) (.cells #[.int .i64 W, .int .i64 H] 67)
  have bS := bx_new (b := w1.heap.size) (w := w1) (sdL W H) 67 rfl
  have bA := bA1.on hA1
  have bR := bR1.on hA1
  have hB := stepA hB1 hA1
  have hlS : w.heap.size + 1 < w1.heap.size := bR1.lt
  clear bA1 bR1 hB1 hA1
  generalize w1.alloc (.cells #[.int .i64 W, .int .i64 H] 67) = w2 at bS bA bR hB ⊢
  generalize w1.heap.size = Sb at bS hlS ⊢
  have hv1 := fun w => have_any W H x1 y1 w
  rw [h1] at hv1
  have hv2 := fun w => have_any W H x2 y2 w
  rw [h2] at hv2
  have v0 := bS.c0
  have v1 := bS.c1
  go_wp2_with fail
  refine (hv1 _).mono ?_
  rintro e w3 ⟨rfl, hbn⟩
  replace bS := bS.on hbn
  replace bA := bA.on hbn
  replace bR := bR.on hbn
  replace hB := stepA hB hbn
  clear hbn v0 v1
  have v0 := bS.c0
  have v1 := bS.c1
  go_wp2_with fail
  refine (hv2 _).mono ?_
  rintro e w4 ⟨rfl, hbn⟩
  replace bS := bS.on hbn
  replace bA := bA.on hbn
  replace bR := bR.on hbn
  replace hB := stepA hB hbn
  clear hbn v0 v1
  clear hv1 hv2 h1 h2 hray hc
  have hf4 := hf.below hB
  have hg4 := hg.below hB
  have hw0 := Below.refl w4.heap.size w4
  have hlS4 : Sb < w4.heap.size := bS.lt
  obtain ⟨q0, q1, q2⟩ := cnt_three bA
  have hn1 : 1 ≤ m := by omega
  have hn2 : m ≤ 1000 := by omega
  go_upto_region 4 with fail
  go_cut [16] from 43 to 51 (fun sx wx => ∃ A gh ch gm cm, sx = .pointer (some ⟨A, 0, none⟩) ∧ Bx wx A (cntL W (some ⟨gh, 0, none⟩) m ch (some ⟨gm, 0, none⟩) m cm) ∧ IP wx gh m f ∧ IP wx gm m g ∧ w4.heap.size ≤ A ∧ w4.heap.size ≤ gh ∧ w4.heap.size ≤ gm ∧ A ≠ gh ∧ A ≠ gm ∧ gh ≠ gm ∧ Below w4.heap.size w4 wx)
  case first =>
    go_region_held3 (fun w' => w'.cell? ⟨w.heap.size, 0, none⟩ = some (.int .i64 W) ∧ w'.cell? ⟨w.heap.size, 1, none⟩ = some (.slice a m c) ∧ w'.cell? ⟨w.heap.size, 2, none⟩ = some (.slice b m d))
      (first | (refine cnt_three (bA.on ?_); (repeat' (first | (with_reducible assumption) | (with_reducible exact Below.refl _ _) | (with_reducible refine Below.drew ?_) | (with_reducible refine Below.alloc ?_ (by first | omega | (simp only [size_al]; omega) | (simp; omega)) _) | (with_reducible refine below_three ?_ (by first | omega | (simp; omega)) _ _ _))); done) | (fail))
      (first | (go_at_call_of 33 (Value.slice a m c); refine (clone_any a m c f _ (by first | exact hf4.below hw0.drew | exact hf4.below (hw0.alloc (Nat.le_refl _) _).drew) hn1 hn2).mono ?_; rintro e w5 ⟨⟨ta, tc, rfl, hO⟩, hb5⟩; obtain ⟨gh, ch, e1, hge, hP1⟩ := hO.some (by omega); cases e1; (first | (have hw1 := stepA hw0.drew hb5) | (have tk := below_al ((Below.refl _ _).drew.trans hb5); have hw1 := stepA hw0 tk; have nb := (bx_new (b := w4.heap.size) (w := w4) (cntL 0 none 0 0 none 0 0) 25 rfl).on ((Below.refl _ _).drew.trans hb5); have nbA : w4.heap.size < gh := Nat.lt_of_lt_of_le (Nat.lt_of_lt_of_eq (Nat.lt_succ_self _) (size_al w4 _).symm) hge)); have gh4 : w4.heap.size ≤ gh := (by first | exact hge | omega); have gh5 := hP1.lt; clear hb5 hge hO) | (go_at_call 33; refine (clone_any b m d g _ (by first | exact hg4.below hw1 | exact hg4.below (hw1.alloc hw1.size _)) hn1 hn2).mono ?_; rintro e w6 ⟨⟨ta, tc, rfl, hO⟩, hb6⟩; obtain ⟨gm, cm, e1, hge, hP2⟩ := hO.some (by omega); cases e1; (first | (have hw2 := stepA hw1 hb6; have hP3 := hP1.below hb6 gh5; have hgm5 : w5.heap.size ≤ gm := hge; try (have nb2 := nb.on hb6)) | (have tk := below_al hb6; have hw2 := stepA hw1 tk; have hP3 := hP1.below tk gh5; have nb2 := (bx_new (b := w5.heap.size) (w := w5) (cntL 0 none 0 0 none 0 0) 25 rfl).on hb6; have hgm5 : w5.heap.size + 1 ≤ gm := Nat.le_trans (Nat.le_of_eq (size_al w5 _).symm) hge)); have gm6 := hP2.lt; have hz5 := hw1.size; have hz6 := hw2.size; (try (obtain ⟨p0, p1, p2⟩ := cnt_three nb2; have l0 := nb2.fz 0; have l1 := nb2.fz 1; have l2 := nb2.fz 2)); clear hb6 hge hO) | (fail))
    all_goals
      go_wp2_with fail
      go_meet
      case rel =>
        first
        | exact ⟨_, gh, _, gm, _, rfl, bx_new _ _ rfl, (hP3.below ((Below.refl _ _).alloc (Nat.le_refl _) _) hP3.lt), (hP2.below ((Below.refl _ _).alloc (Nat.le_refl _) _) hP2.lt), by omega, by omega, by omega, by omega, by omega, by omega, hw2.alloc hw2.size _⟩
        | exact ⟨_, gh, _, gm, _, rfl, nb2.set3 _ _ _, ip_three hP3 (by omega) _ _ _, ip_three hP2 (by omega) _ _ _, by omega, by omega, by omega, by omega, by omega, by omega, below_three hw2 (by omega) _ _ _⟩
  case rest =>
    obtain ⟨A, gh, ch, gm, cm, rfl, cA, cH, cM, k1, k2, k3, k4, k5, k6, hbc⟩ := hcut
    have X : Rfx w m Sb A gh gm := ⟨hlS, by omega, by omega, by omega, k4, k5, k6⟩
    have G5 : Rst w wc W H m Sb A gh ch gm cm f g := ⟨bS.on hbc, bR.on hbc, cA, cH, cM, stepA hB hbc⟩
    clear bS bA bR hB hf4 hg4 hw0 q0 q1 q2 cA cH cM hbc hlS4 hf hg
    generalize wc = w5 at G5 ⊢
    have hLn := implLine_yes x1 y1 x2 y2 w5 R.lb
    have eN : steps (ab (x2 - x1)) (ab (y2 - y1)) = rN x1 y1 x2 y2 := rfl
    rw [eN] at hLn
    go_wp2_with fail
    refine hLn.mono ?_
    rintro e w6 ⟨⟨la, lc, rfl, hLP, hlc⟩, hb6⟩
    obtain ⟨gl, Bl, rfl, hgl, hgl2, hgl3, hcl, hin, -⟩ := hLP (Nat.succ_pos _)
    have G6 := G5.on hb6
    have hz5 := G5.h.lt
    have hz5m := G5.m.lt
    have hNle := R.le
    have hpt := R.pt
    have hfin := R.fin
    generalize hid : rid W x1 y1 x2 y2 = id at hpt hq
    have HID : Hid (rid W x1 y1 x2 y2 = id) := hid
    generalize lnX x1 y1 x2 y2 = LX at hin hpt hfin
    generalize lnY x1 y1 x2 y2 = LY at hin hpt hfin
    generalize hNN : rN x1 y1 x2 y2 = N at hcl hin hlc hNle hpt hfin hq ⊢
    have HNN : Hid (rN x1 y1 x2 y2 = N) := hNN
    clear hLn hLP eN R hb6 G5 hid hNN
    have j1 : (N : Int) ≤ (lc : Int) := by omega
    have j2 : (0 : Int) ≤ (N : Int) := by omega
    have j4 : ((N + 1 : Nat) : Int) - 1 = (N : Int) := by omega
    go_wp2_with fail
    have Ln6 : Lns w6 gl N Bl LX LY := ⟨hcl, fun i hi => (hin i hi).2.2⟩
    have hne : ∀ i, i < N + 1 → Bl i ≠ gm ∧ Bl i ≠ gh := fun i hi => by have := (hin i hi).1; omega
    have hgl9 : gl ≠ gm ∧ gl ≠ gh := by omega
    clear hcl hin hgl hgl2 hgl3 hz5 hz5m hlc
    go_loopw [63] (fun i wr => ∃ k : Nat, k ≤ N ∧ i = .int .i64 k ∧ Rst w wr W H m Sb A gh ch gm cm f (am g id k) ∧ Lns wr gl N Bl LX LY) (fun i _ => N - (intOf i).toNat)
    case atStart => exact ⟨0, Nat.zero_le _, rfl, G6, Ln6⟩
    case round =>
      obtain ⟨k, hk, rfl, G, Ln⟩ := hrel
      clear G6 Ln6
      by_cases hlt : k < N
      · have j5 : (k : Int) < (N : Int) := by omega
        have hcell := Ln.c k (by omega)
        have hp := Ln.p k (by omega)
        have hB1 := (hne k (by omega)).1
        obtain ⟨⟨p1, p2⟩, ⟨p3, p4⟩, -, p5, p6⟩ := hpt k (by omega)
        have hNum := fun w => number_any W H (LX k) (LY k) w p1 p2 p3 p4
        rw [← p5] at hNum
        have hv := am_bd2 hgB (id := id) k (id k) p6
        have hG2 : ∀ (wx : World), Rst w wx W H m Sb A gh ch gm cm f (am g id k) → wx.cell? ⟨gm, id k, none⟩ = some (.int .i64 (am g id k (id k))) ∧ wx.frozen? ⟨gm, id k, none⟩ = false := fun wx q => ⟨q.m.c (id k) p6, q.m.fz (id k)⟩
        have HAM : Hid (am g id (k + 1) = put (am g id k) (id k) (am g id k (id k) + 1)) := rfl
        have HG : Hid (Rst w wr W H m Sb A gh ch gm cm f (am g id k)) := G
        have HL : Hid (Lns wr gl N Bl LX LY) := Ln
        generalize am g id k (id k) = v at hv hG2 HAM
        have hv1 : v ≤ 1000016 := by omega
        have hv0 : 0 ≤ v := by omega
        have hwv : IntKind.i64.wrap (v + 1) = v + 1 := IntWalk.i64_in _ ⟨by omega, by omega⟩
        have i1 : (0 : Int) ≤ ((id k : Nat) : Int) := by omega
        have i2 : ((id k : Nat) : Int) < (m : Int) := by omega
        have H6 : Hid (id k < m) := p6
        clear p1 p2 p3 p4 p5 p6 hv
        generalize LX k = xk at hp hNum
        generalize LY k = yk at hp hNum
        generalize Bl k = Bk at hp hcell hB1
        generalize hik : id k = ik at hNum hG2 HAM i1 i2 H6
        clear hik
        have G0 := G
        clear G Ln
        go_upto_region 9 with fail
        refine wp_region_held (S := S9 A gm m cm Sb W H Bk xk yk) (by kernel_rfl) ?_
        change wpAnyH _ _ _ _ _ _ _ _ (World.drew _)
        have hSw := keep9 G0 hp (Below.refl _ _).drew
        refine wpAnyH_take (i := 0) (v := .pointer (some ⟨A, 2, none⟩)) rfl (by kernel_rfl) (by kernel_rfl) (by kernel_rfl) (fun _ _ _ h => h) (Or.inl ⟨by rfl, ?_⟩) hSw ?_
        · intro wz hsz
          obtain ⟨z0, z1, z2, z3, z4⟩ := hsz
          go_simp
        try simp [Act.put]
        refine wpAnyH_take (i := 1) (v := .slice (some ⟨gm, 0, none⟩) m cm) rfl (by kernel_rfl) (by kernel_rfl) (by kernel_rfl) (fun _ _ _ h => h) (Or.inl ⟨by rfl, ?_⟩) hSw ?_
        · intro wz hsz
          obtain ⟨z0, z1, z2, z3, z4⟩ := hsz
          go_simp
        try simp [Act.put]
        refine wpAnyH_take (i := 2) (v := sd W H) rfl (by kernel_rfl) (by kernel_rfl) (by kernel_rfl) (fun _ _ _ h => h) (Or.inl ⟨by rfl, ?_⟩) hSw ?_
        · intro wz hsz
          obtain ⟨z0, z1, z2, z3, z4⟩ := hsz
          go_simp
        try simp [Act.put]
        refine wpAnyH_take (i := 3) (v := hd2 Bk) rfl (by kernel_rfl) (by kernel_rfl) (by kernel_rfl) (fun _ _ _ h => h) (Or.inl ⟨by rfl, ?_⟩) hSw ?_
        · intro wz hsz
          obtain ⟨z0, z1, z2, z3, z4⟩ := hsz
          go_simp
        try simp [Act.put]
        refine wpAnyH_take (i := 4) (v := .pointer (some ⟨Bk, 0, none⟩)) rfl (by kernel_rfl) (by kernel_rfl) (by kernel_rfl) (fun _ _ _ h => h) (Or.inl ⟨by rfl, ?_⟩) hSw ?_
        · intro wz hsz
          obtain ⟨z0, z1, z2, z3, z4⟩ := hsz
          go_simp
        try simp [Act.put]
        refine wpAnyH_take (i := 5) (v := .int .i64 xk) rfl (by kernel_rfl) (by kernel_rfl) (by kernel_rfl) (fun _ _ _ h => h) (Or.inl ⟨by rfl, ?_⟩) hSw ?_
        · intro wz hsz
          obtain ⟨z0, z1, z2, z3, z4⟩ := hsz
          go_simp
        try simp [Act.put]
        refine wpAnyH_take (i := 6) (v := hd2 Bk) rfl (by kernel_rfl) (by kernel_rfl) (by kernel_rfl) (fun _ _ _ h => h) (Or.inl ⟨by rfl, ?_⟩) hSw ?_
        · intro wz hsz
          obtain ⟨z0, z1, z2, z3, z4⟩ := hsz
          go_simp
        try simp [Act.put]
        refine wpAnyH_take (i := 7) (v := .pointer (some ⟨Bk, 1, none⟩)) rfl (by kernel_rfl) (by kernel_rfl) (by kernel_rfl) (fun _ _ _ h => h) (Or.inl ⟨by rfl, ?_⟩) hSw ?_
        · intro wz hsz
          obtain ⟨z0, z1, z2, z3, z4⟩ := hsz
          go_simp
        try simp [Act.put]
        refine wpAnyH_take (i := 8) (v := .int .i64 yk) rfl (by kernel_rfl) (by kernel_rfl) (by kernel_rfl) (fun _ _ _ h => h) (Or.inl ⟨by rfl, ?_⟩) hSw ?_
        · intro wz hsz
          obtain ⟨z0, z1, z2, z3, z4⟩ := hsz
          go_simp
        try simp [Act.put]
        refine wpAnyH_ready (rs := [9]) (by kernel_rfl) (by simp) ?_
        refine AllReadyH.cons rfl (fun K hK => ?_) AllReadyH.nil
        go_simp
        refine (hNum _).mono ?_
        rintro e w7 ⟨rfl, hbn⟩
        have t7 := (Below.refl wr.heap.size wr).drew.trans hbn
        have G7 := G0.on t7
        have hp7 := hp.below t7 hp.lt
        have L7 := HL.out.on t7
        obtain ⟨u0, u1⟩ := hG2 _ G7
        have hS7 := keep9 G0 hp t7
        clear hbn
        go_simp
        refine hK.out _ _ (hS7) (fun hSn => ?_)
        clear hK K hSw
        have hSw := hSn
        clear hSn
        try simp [Act.put]
        refine wpAnyH_take (i := 10) (v := .pointer (some ⟨gm, ik, none⟩)) rfl (by kernel_rfl) (by kernel_rfl) (by kernel_rfl) (fun _ _ _ h => h) (Or.inl ⟨by rfl, ?_⟩) hSw ?_
        · intro wz hsz
          obtain ⟨z0, z1, z2, z3, z4⟩ := hsz
          go_simp
        try simp [Act.put]
        refine wpAnyH_ready (rs := [11]) (by kernel_rfl) (by simp) ?_
        refine AllReadyH.cons rfl (fun K hK => ?_) AllReadyH.nil
        go_simp
        refine hK.out _ _ (hS7) (fun hSn => ?_)
        clear hK K hSw
        have hSw := hSn
        clear hSn
        try simp [Act.put]
        refine wpAnyH_take (i := 12) (v := .int .i64 (v + 1)) rfl (by kernel_rfl) (by kernel_rfl) (by kernel_rfl) (fun _ _ _ h => h) (Or.inl ⟨by rfl, ?_⟩) hSw ?_
        · intro wz hsz
          obtain ⟨z0, z1, z2, z3, z4⟩ := hsz
          go_simp
        try simp [Act.put]
        refine wpAnyH_take (i := 13) (v := .pointer (some ⟨gm, ik, none⟩)) rfl (by kernel_rfl) (by kernel_rfl) (by kernel_rfl) (fun _ _ _ h => h) (Or.inl ⟨by rfl, ?_⟩) hSw ?_
        · intro wz hsz
          obtain ⟨z0, z1, z2, z3, z4⟩ := hsz
          go_simp
        try simp [Act.put]
        refine wpAnyH_ready (rs := [14]) (by kernel_rfl) (by simp) ?_
        refine AllReadyH.cons rfl (fun K hK => ?_) AllReadyH.nil
        go_simp
        refine hK.out _ _ (keep9s X G7 hp7 hB1 _ _) (fun hSn => ?_)
        clear hK K hSw
        have hSw := hSn
        clear hSn
        try simp [Act.put]
        refine wpAnyH_done (by kernel_rfl) ?_ _
        go_wp2_with fail
        go_roundw
        case rel => exact ⟨k + 1, by omega, by go_num, by rw [HAM.out]; exact G7.putM X H6.out _, L7.putX _ hgl9.1 (fun i hi => (hne i hi).1) _⟩
        case measure => simp [intOf]; omega
      · have hke : k = N := by omega
        subst hke
        obtain ⟨hfx, hfy⟩ := hfin
        subst hfx
        subst hfy
        obtain ⟨⟨p1, p2⟩, ⟨p3, p4⟩, -, p5, p6⟩ := hpt k (Nat.le_refl _)
        have hNum := fun w => number_any W H (LX k) (LY k) w p1 p2 p3 p4
        rw [← p5] at hNum
        have i1 : (0 : Int) ≤ ((id k : Nat) : Int) := by omega
        have i2 : ((id k : Nat) : Int) < (m : Int) := by omega
        clear p1 p2 p3 p4 p5
        have v0 := G.s.c0
        have v1 := G.s.c1
        go_wp2_with fail
        refine (hNum _).mono ?_
        rintro e w8 ⟨rfl, hb8⟩
        have G8 := G.on hb8
        clear hb8 G Ln v0 v1 hNum hpt hne
        cases hit with
        | false =>
          obtain ⟨q0, q1, q2⟩ := cnt_three G8.a
          have u0 := G8.m.c (id k) p6
          have u1 := G8.m.fz (id k)
          have hv := am_bd2 hgB (id := id) k (id k) p6
          generalize hv9 : am g id k (id k) = v at u0 hv
          have hv1 : v ≤ 1000016 := by omega
          have hv0 : 0 ≤ v := by omega
          go_upto_region 15 with fail
          have G9 := G8.putM X p6 (v + 1)
          rw [← hv9] at G9
          have eF : f = rayF f id k false := rfl
          have eG : put (am g id k) (id k) (am g id k (id k) + 1) = rayG g id k false := rfl
          rw [eG] at G9
          generalize hF0 : rayG g id k false = GG at G9 hq
          rw [eF] at G9
          subst hF0
          rw [hv9] at G9
          clear G8 u0 u1 q0 q1 q2 hv hv1 hv0 hv9 eF eG
          generalize w8.setCell ⟨gm, id k, none⟩ (.int .i64 (v + 1)) = w9 at G9 ⊢
          have hgd := fun w hx hy => implGoodC W (some ⟨gh, 0, none⟩) (some ⟨gm, 0, none⟩) m ch m cm (rayF f id k false) (rayG g id k false) w (by omega) (by omega) hx hy
          rw [← hq] at hgd
          generalize hQ : rayQ W m f m g x1 y1 (LX k) (LY k) false = qq at hgd
          have HQ : Hid (rayQ W m f m g x1 y1 (LX k) (LY k) false = qq) := hQ
          clear hQ hq
          obtain ⟨q0, q1, q2⟩ := cnt_three G9.a
          go_wp2_with fail
          refine (hgd _ (ip_il G9.h) (ip_il G9.m)).mono ?_
          rintro e w10 ⟨rfl, hb10⟩
          have GA := G9.on hb10
          clear hb10 G9 q0 q1 q2 hgd
          obtain ⟨q0, q1, q2⟩ := cnt_three GA.a
          obtain ⟨r0, r1, r2⟩ := cnt_three GA.r
          have f0 := GA.r.fz 0
          have f1 := GA.r.fz 1
          have f2 := GA.r.fz 2
          have xs := X.fs
          have xa := X.fa
          have xh := X.fh
          have xm := X.fm
          cases qq with
          | false =>
            have bE := GA.r.set3 (.int .i64 0) (.slice none 0 0) (.slice none 0 0)
            have hBE := below_three GA.be (b := w.heap.size + 1) (by omega) (.int .i64 0) (.slice none 0 0) (.slice none 0 0)
            go_wp2
            refine ret_cnt_tmp Try.results9 rfl bE.c0 bE.c1 bE.c2 rfl ?_
            exact ⟨ansA_nil HQ.out hBE.size, hBE⟩
          | true =>
            have bE := GA.r.set3 (.int .i64 W) (.slice (some ⟨gh, 0, none⟩) m ch) (.slice (some ⟨gm, 0, none⟩) m cm)
            have hBE := below_three GA.be (b := w.heap.size + 1) (by omega) (.int .i64 W) (.slice (some ⟨gh, 0, none⟩) m ch) (.slice (some ⟨gm, 0, none⟩) m cm)
            have e1 := ip_three GA.h (b' := w.heap.size + 1) (by omega) (.int .i64 W) (.slice (some ⟨gh, 0, none⟩) m ch) (.slice (some ⟨gm, 0, none⟩) m cm)
            have e2 := ip_three GA.m (b' := w.heap.size + 1) (by omega) (.int .i64 W) (.slice (some ⟨gh, 0, none⟩) m ch) (.slice (some ⟨gm, 0, none⟩) m cm)
            go_wp2
            refine ret_cnt_tmp Try.results9 rfl bE.c0 bE.c1 bE.c2 rfl ?_
            refine ⟨?_, hBE⟩
            rw [HID.out, HNN.out]
            exact ansA_mk HQ.out (ch := ch) (cm := cm) e1 e2 (by omega) (by omega) X.hm
        | true =>
          obtain ⟨q0, q1, q2⟩ := cnt_three G8.a
          have u0 := G8.h.c (id k) p6
          have u1 := G8.h.fz (id k)
          have hv := allB_at hfB p6
          generalize hv9 : f (id k) = v at u0 hv
          have hv1 : v ≤ 1000016 := by omega
          have hv0 : 0 ≤ v := by omega
          go_upto_region 15 with fail
          have G9 := G8.putH X p6 (v + 1)
          rw [← hv9] at G9
          have eF : put f (id k) (f (id k) + 1) = rayF f id k true := rfl
          have eG : am g id k = rayG g id k true := rfl
          rw [eF, eG] at G9
          rw [hv9] at G9
          clear G8 u0 u1 q0 q1 q2 hv hv1 hv0 hv9 eF eG
          generalize w8.setCell ⟨gh, id k, none⟩ (.int .i64 (v + 1)) = w9 at G9 ⊢
          have hgd := fun w hx hy => implGoodC W (some ⟨gh, 0, none⟩) (some ⟨gm, 0, none⟩) m ch m cm (rayF f id k true) (rayG g id k true) w (by omega) (by omega) hx hy
          rw [← hq] at hgd
          generalize hQ : rayQ W m f m g x1 y1 (LX k) (LY k) true = qq at hgd
          have HQ : Hid (rayQ W m f m g x1 y1 (LX k) (LY k) true = qq) := hQ
          clear hQ hq
          obtain ⟨q0, q1, q2⟩ := cnt_three G9.a
          go_wp2_with fail
          refine (hgd _ (ip_il G9.h) (ip_il G9.m)).mono ?_
          rintro e w10 ⟨rfl, hb10⟩
          have GA := G9.on hb10
          clear hb10 G9 q0 q1 q2 hgd
          obtain ⟨q0, q1, q2⟩ := cnt_three GA.a
          obtain ⟨r0, r1, r2⟩ := cnt_three GA.r
          have f0 := GA.r.fz 0
          have f1 := GA.r.fz 1
          have f2 := GA.r.fz 2
          have xs := X.fs
          have xa := X.fa
          have xh := X.fh
          have xm := X.fm
          cases qq with
          | false =>
            have bE := GA.r.set3 (.int .i64 0) (.slice none 0 0) (.slice none 0 0)
            have hBE := below_three GA.be (b := w.heap.size + 1) (by omega) (.int .i64 0) (.slice none 0 0) (.slice none 0 0)
            go_wp2
            refine ret_cnt_tmp Try.results9 rfl bE.c0 bE.c1 bE.c2 rfl ?_
            exact ⟨ansA_nil HQ.out hBE.size, hBE⟩
          | true =>
            have bE := GA.r.set3 (.int .i64 W) (.slice (some ⟨gh, 0, none⟩) m ch) (.slice (some ⟨gm, 0, none⟩) m cm)
            have hBE := below_three GA.be (b := w.heap.size + 1) (by omega) (.int .i64 W) (.slice (some ⟨gh, 0, none⟩) m ch) (.slice (some ⟨gm, 0, none⟩) m cm)
            have e1 := ip_three GA.h (b' := w.heap.size + 1) (by omega) (.int .i64 W) (.slice (some ⟨gh, 0, none⟩) m ch) (.slice (some ⟨gm, 0, none⟩) m cm)
            have e2 := ip_three GA.m (b' := w.heap.size + 1) (by omega) (.int .i64 W) (.slice (some ⟨gh, 0, none⟩) m ch) (.slice (some ⟨gm, 0, none⟩) m cm)
            go_wp2
            refine ret_cnt_tmp Try.results9 rfl bE.c0 bE.c1 bE.c2 rfl ?_
            refine ⟨?_, hBE⟩
            rw [HID.out, HNN.out]
            exact ansA_mk HQ.out (ch := ch) (cm := cm) e1 e2 (by omega) (by omega) X.hm
end Go.Proofs.Ytnoaonflphameaa
