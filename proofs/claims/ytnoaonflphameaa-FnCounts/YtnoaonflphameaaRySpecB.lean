/- A ray over counts, as the specification adds it. -/
import Derived.Test.YtnoaonflphameaaRySpecA
namespace Go.Proofs.Ytnoaonflphameaa
open Go.RowKit

def S3 (A0 : Nat) (W : Int) (a : Option Addr) (m c : Nat) (b : Option Addr) (d : Nat) (w' : World) : Prop := w'.cell? ⟨A0, 0, none⟩ = some (.int .i64 W) ∧ w'.cell? ⟨A0, 1, none⟩ = some (.slice a m c) ∧ w'.cell? ⟨A0, 2, none⟩ = some (.slice b m d)
structure Rfs (w : World) (A gh gm : Nat) : Prop where
  fa : w.heap.size + 1 < A
  fh : w.heap.size + 1 < gh
  fm : w.heap.size + 1 < gm
  ah : A ≠ gh
  am : A ≠ gm
  hm : gh ≠ gm
/-- what stands while the cells of the line are gone through -/
structure Rsp (w wx : World) (W : Int) (a : Option Addr) (c : Nat) (b : Option Addr) (d n A gh ch gm cm : Nat) (F G : Nat → Int) : Prop where
  s : Bx wx w.heap.size (cntL W a n c b n d)
  r : Bx wx (w.heap.size + 1) (cntL 0 none 0 0 none 0 0)
  a : Bx wx A (cntL W (some ⟨gh, 0, none⟩) n ch (some ⟨gm, 0, none⟩) n cm)
  h : IP wx gh n F
  m : IP wx gm n G
  be : Below w.heap.size w wx
theorem Rsp.on {w wx w2 : World} {W : Int} {a : Option Addr} {c : Nat} {b : Option Addr} {d n A gh ch gm cm : Nat} {F G : Nat → Int} (g : Rsp w wx W a c b d n A gh ch gm cm F G) (k : Below wx.heap.size wx w2) : Rsp w w2 W a c b d n A gh ch gm cm F G :=
  ⟨g.s.on k, g.r.on k, g.a.on k, g.h.below k g.h.lt, g.m.below k g.m.lt, stepA g.be k⟩
theorem Rsp.putM {w wx : World} {W : Int} {a : Option Addr} {c : Nat} {b : Option Addr} {d n A gh ch gm cm : Nat} {F G : Nat → Int} (g : Rsp w wx W a c b d n A gh ch gm cm F G) (x : Rfs w A gh gm) {k : Nat} (hk : k < n) (v : Int) : Rsp w (wx.setCell ⟨gm, k, none⟩ (.int .i64 v)) W a c b d n A gh ch gm cm F (put G k v) := by
  have h2 := x.fa
  have h3 := x.fm
  exact ⟨g.s.far _ (by omega), g.r.far _ (by omega), g.a.far _ x.am, ip_far g.h x.hm _, g.m.set hk v, g.be.setCell (p := ⟨gm, k, none⟩) (by simp; omega) _⟩
theorem Rsp.putH {w wx : World} {W : Int} {a : Option Addr} {c : Nat} {b : Option Addr} {d n A gh ch gm cm : Nat} {F G : Nat → Int} (g : Rsp w wx W a c b d n A gh ch gm cm F G) (x : Rfs w A gh gm) {k : Nat} (hk : k < n) (v : Int) : Rsp w (wx.setCell ⟨gh, k, none⟩ (.int .i64 v)) W a c b d n A gh ch gm cm (put F k v) G := by
  have h2 := x.fa
  have h3 := x.fh
  exact ⟨g.s.far _ (by omega), g.r.far _ (by omega), g.a.far _ x.ah, g.h.set hk v, ip_far g.m x.hm.symm _, g.be.setCell (p := ⟨gh, k, none⟩) (by simp; omega) _⟩
def sF (f : Nat → Int) (id : Nat → Nat) (N : Nat) (hit : Bool) (k : Nat) : Nat → Int := if k ≤ N then f else rayF f id N hit
def sG (g : Nat → Int) (id : Nat → Nat) (N : Nat) (hit : Bool) (k : Nat) : Nat → Int := if k ≤ N then am g id k else rayG g id N hit
theorem sF_le {f : Nat → Int} {id : Nat → Nat} {N : Nat} {hit : Bool} {k : Nat} (h : k ≤ N) : sF f id N hit k = f := by unfold sF; rw [if_pos h]
theorem sG_le {g : Nat → Int} {id : Nat → Nat} {N : Nat} {hit : Bool} {k : Nat} (h : k ≤ N) : sG g id N hit k = am g id k := by unfold sG; rw [if_pos h]
theorem sF_end (f : Nat → Int) (id : Nat → Nat) (N : Nat) (hit : Bool) : sF f id N hit (N + 1) = rayF f id N hit := by unfold sF; rw [if_neg (by omega)]
theorem sG_end (g : Nat → Int) (id : Nat → Nat) (N : Nat) (hit : Bool) : sG g id N hit (N + 1) = rayG g id N hit := by unfold sG; rw [if_neg (by omega)]

set_option maxHeartbeats 8000000 in
set_option maxRecDepth 20000 in
theorem specRay_yes (W : Int) (a b : Option Addr) (n c m d : Nat) (f g : Nat → Int) (x1 y1 x2 y2 : Int) (hit : Bool) (w : World) (hn : n ≤ 1048576) (hm : m ≤ 1048576) (hf : IL w a n f) (hg : IL w b m g) (hray : rayB W n f m g x1 y1 x2 y2 = true) :
    Calls Try.prog 10 #[cnt W a n c b m d, .int .i64 x1, .int .i64 y1, .int .i64 x2, .int .i64 y2, .bool hit] w fun e w' => AnsA w w' e W n (rayF f (rid W x1 y1 x2 y2) (rN x1 y1 x2 y2) hit) (rayG g (rid W x1 y1 x2 y2) (rN x1 y1 x2 y2) hit) (rayQ W n f m g x1 y1 x2 y2 hit) ∧ Below w.heap.size w w' := by
  have hR := ray_of hray
  obtain ⟨R, hmn, hfB, hgB, h1, h2⟩ := hR
  subst hmn
  have hc : cntB W m f m g = true := by unfold rayB at hray; simp only [Bool.and_eq_true] at hray; exact hray.1.1
  have hq := rayQ_yes (hit := hit) hray
  have hN := sized_le R.sz
  have hs1 := fun w => has_any W m x1 y1 w (sizedB_t (cntB_parts hc).1).1 hn
  rw [h1] at hs1
  have hs2 := fun w => has_any W m x2 y2 w (sizedB_t (cntB_parts hc).1).1 hn
  rw [h2] at hs2
  have hgd := specGoodC W a b m c m d f g ((w.alloc (cntO W a m c b m d 25)).alloc (cntO 0 none 0 0 none 0 0 25)) hn hm ((hf.alloc _).alloc _) ((hg.alloc _).alloc _)
  have bA0 := (bx_new (w := w) (cntL W a m c b m d) 25 rfl).alloc (cntO 0 none 0 0 none 0 0 25)
  have bR0 := bx_new (w := w.alloc (cntO W a m c b m d 25)) (b := w.heap.size + 1) (cntL 0 none 0 0 none 0 0) 25 (by simp)
  rw [hc] at hgd
  go_enter Try.func10, Try.ntmps10
  go_wp2_with fail
  refine hgd.mono ?_
  rintro e w1 ⟨rfl, hb1⟩
  have hB := below_al (below_al hb1)
  have bA := bA0.on hb1
  have bR := bR0.on hb1
  clear hgd bA0 bR0 hb1
  obtain ⟨q0, q1, q2⟩ := cnt_three bA
  go_wp2_with fail
  refine (hs1 _).mono ?_
  rintro e w' ⟨rfl, hw'⟩
  have hs := hw'.symm
  clear hw'
  subst hs
  go_wp2_with fail
  refine (hs2 _).mono ?_
  rintro e w' ⟨rfl, hw'⟩
  have hs := hw'.symm
  clear hw'
  subst hs
  clear hs1 hs2 h1 h2 hray hc q0 q1 q2
  have hf4 := hf.below hB
  have hg4 := hg.below hB
  have hlR : w.heap.size + 1 < w1.heap.size := bR.lt
  have hn1 : 1 ≤ m := by omega
  have hn2 : m ≤ 1000 := by omega
  go_upto_region 3 with fail
  go_cut [14] from 45 to 55 (fun sx wx => ∃ A gh ch gm cm, sx = .pointer (some ⟨A, 0, none⟩) ∧ Bx wx A (cntL W (some ⟨gh, 0, none⟩) m ch (some ⟨gm, 0, none⟩) m cm) ∧ IP wx gh m f ∧ IP wx gm m g ∧ w1.heap.size ≤ A ∧ w1.heap.size ≤ gh ∧ w1.heap.size ≤ gm ∧ A ≠ gh ∧ A ≠ gm ∧ gh ≠ gm ∧ Below w1.heap.size w1 wx)
  case first =>
    have hk : ∀ w2, Below w1.heap.size w1 w2 → S3 w.heap.size W a m c b d w2 := fun w2 k => cnt_three (bA.on k)
    have g0 : Gx w1 (fun _ => True) [] none none w1.drew := ⟨(Below.refl _ _).drew, (fun g e => by cases e), (fun g e => by cases e), (fun g h e => by cases e), trivial, (fun x hx => by cases hx)⟩
    refine wp_region_held (S := S3 w.heap.size W a m c b d) (by kernel_rfl) ?_
    change wpAnyH _ _ _ _ _ _ _ _ (World.drew _)
    refine ch_start (f := 11) (ia := 11) (ib := 6) (ta := 14) (tb := 51) (va := fun g => .pointer (some ⟨g, 0, none⟩)) (vb := emp) (oa := oC) (ob := oE) (G := Gx w1 (fun _ => True) []) (by decide) (by decide) ?_ ?_ (by kernel_rfl) (by simp [fr, Act.put]) g0 (hk _ (Below.refl _ _).drew) ?_
    · intro K a x h
      refine wpOp_step rfl (fun K' hK => ?_)
      go_simp
      exact hK _ _ h
    · intro K a x h
      refine wpOp_step rfl (fun K' hK => ?_)
      go_simp
      exact hK _ _ h
    refine Ch.take 0 _ (.pointer (some ⟨w.heap.size, 0, none⟩)) rfl (by kernel_rfl) (by intro sa sb; cases sa <;> cases sb <;> exact ⟨by kernel_rfl, by kernel_rfl⟩) (fun _ _ _ h => h) (by decide) (by intro e he; injection he with he; subst he; decide) ?_ ?_
    · intro x y
      refine Or.inl ⟨by rfl, ?_⟩
      intro w5 hs5
      obtain ⟨x0, x1, x2⟩ := hs5
      simp only [fr, Act.put]
      go_simp
    try simp [Act.put]
    refine Ch.take 1 _ (.int .i64 W) rfl (by kernel_rfl) (by intro sa sb; cases sa <;> cases sb <;> exact ⟨by kernel_rfl, by kernel_rfl⟩) (fun _ _ _ h => h) (by decide) (by intro e he; injection he with he; subst he; decide) ?_ ?_
    · intro x y
      refine Or.inl ⟨by rfl, ?_⟩
      intro w5 hs5
      obtain ⟨x0, x1, x2⟩ := hs5
      simp only [fr, Act.put]
      go_simp
    try simp [Act.put]
    refine Ch.take 3 _ (.pointer (some ⟨w.heap.size, 1, none⟩)) rfl (by kernel_rfl) (by intro sa sb; cases sa <;> cases sb <;> exact ⟨by kernel_rfl, by kernel_rfl⟩) (fun _ _ _ h => h) (by decide) (by intro e he; injection he with he; subst he; decide) ?_ ?_
    · intro x y
      refine Or.inl ⟨by rfl, ?_⟩
      intro w5 hs5
      obtain ⟨x0, x1, x2⟩ := hs5
      simp only [fr, Act.put]
      go_simp
    try simp [Act.put]
    refine Ch.take 4 _ (.slice a m c) rfl (by kernel_rfl) (by intro sa sb; cases sa <;> cases sb <;> exact ⟨by kernel_rfl, by kernel_rfl⟩) (fun _ _ _ h => h) (by decide) (by intro e he; injection he with he; subst he; decide) ?_ ?_
    · intro x y
      refine Or.inl ⟨by rfl, ?_⟩
      intro w5 hs5
      obtain ⟨x0, x1, x2⟩ := hs5
      simp only [fr, Act.put]
      go_simp
    try simp [Act.put]
    refine Ch.take 7 _ (.pointer (some ⟨w.heap.size, 2, none⟩)) rfl (by kernel_rfl) (by intro sa sb; cases sa <;> cases sb <;> exact ⟨by kernel_rfl, by kernel_rfl⟩) (fun _ _ _ h => h) (by decide) (by intro e he; injection he with he; subst he; decide) ?_ ?_
    · intro x y
      refine Or.inl ⟨by rfl, ?_⟩
      intro w5 hs5
      obtain ⟨x0, x1, x2⟩ := hs5
      simp only [fr, Act.put]
      go_simp
    try simp [Act.put]
    refine Ch.take 8 _ (.slice b m d) rfl (by kernel_rfl) (by intro sa sb; cases sa <;> cases sb <;> exact ⟨by kernel_rfl, by kernel_rfl⟩) (fun _ _ _ h => h) (by decide) (by intro e he; injection he with he; subst he; decide) ?_ ?_
    · intro x y
      refine Or.inl ⟨by rfl, ?_⟩
      intro w5 hs5
      obtain ⟨x0, x1, x2⟩ := hs5
      simp only [fr, Act.put]
      go_simp
    try simp [Act.put]
    refine Ch.call (α := Nat) 2 47 emp (fun g1 => Gx w1 (fun w' => Own w' w1.heap.size (emp g1) 0 (fun _ => 0)) [g1]) (Gx.cl (fun _ _ _ _ => trivial) hk) (by intro sa sb; cases sa <;> cases sb <;> exact ⟨by decide +kernel, by decide +kernel⟩) (by decide) (by decide) ?_ ?_
    · intro ua ub x K hmem g s hK
      simp only [fr, Act.put] at hK ⊢
      refine wpOp_step rfl (fun K' hK' => ?_)
      go_simp
      exact hK' _ _ (hK x.heap.size _ g.new1 (hk _ g.new1.be))
    intro g1
    try simp [Act.put]
    refine Ch.call (α := Nat × Nat) 5 50 (fun y => .slice (some ⟨y.1, 0, none⟩) m y.2) (fun y => Gx w1 (fun w' => IP w' y.1 m f) [y.1]) (Gx.cl (fun _ _ h k => Own.below h k) hk) (by intro sa sb; cases sa <;> cases sb <;> exact ⟨by decide +kernel, by decide +kernel⟩) (by decide) (by decide) ?_ ?_
    · intro ua ub x K hmem g s hK
      refine copy_step rfl rfl _ _ rfl (by rfl) (by rfl) g.z (hf4.below g.be) hn1 hn2 g.be.size (fun q cap w' hP hq hq2 t => ?_)
      have g' := g.app1 hP hq2 t
      exact hK (q, cap) w' g' (hk _ g'.be)
    rintro ⟨p, cp⟩
    try simp [Act.put]
    refine Ch.call (α := Nat × Nat) 9 54 (fun y => .slice (some ⟨y.1, 0, none⟩) m y.2) (fun y => Gz w1 m p y.1 f g) (Gx.cl (fun _ _ h k => IP.below h k h.lt) hk) (by intro sa sb; cases sa <;> cases sb <;> exact ⟨by decide +kernel, by decide +kernel⟩) (by decide) (by decide) ?_ ?_
    · intro ua ub x K hmem g s hK
      cases ub with
      | none =>
        generalize ua.isSome = sa at hmem
        cases sa <;> exact absurd hmem (by decide +kernel)
      | some gB =>
        refine copy_step rfl rfl _ _ rfl (by rfl) (by rfl) (g.b gB rfl).1 (hg4.below g.be) hn1 hn2 g.be.size (fun q cap w' hP hq hq2 t => ?_)
        have g' := g.app2 hP hq2 t
        exact hK (q, cap) w' g' (hk _ g'.be)
    rintro ⟨q, cq⟩
    try simp [Act.put]
    refine Ch.take 10 _ (cnt W (some ⟨p, 0, none⟩) m cp (some ⟨q, 0, none⟩) m cq) rfl (by kernel_rfl) (by intro sa sb; cases sa <;> cases sb <;> exact ⟨by kernel_rfl, by kernel_rfl⟩) (fun _ _ _ h => h) (by decide) (by intro e he; injection he with he; subst he; decide) ?_ ?_
    · intro x y
      refine Or.inl ⟨by rfl, ?_⟩
      intro w5 hs5
      obtain ⟨x0, x1, x2⟩ := hs5
      simp only [fr, Act.put]
      go_simp
    try simp [Act.put]
    refine Ch.done (Gz.cl hk) ?_ ?_
    · intro ua ub x z hs
      have hb := z.bs
      generalize ua.isSome = sa at hs ⊢
      generalize ub.isSome = sb at hs hb ⊢
      subst hb
      cases sa
      · exact ⟨by decide +kernel, by decide +kernel⟩
      · cases hs
    intro ga gb x z s
    obtain ⟨bb, lb, n1, n2⟩ := z.a ga rfl
    obtain ⟨r0, r1, r2⟩ := cnt_three bb
    have f0 := bb.fz 0
    have f1 := bb.fz 1
    have f2 := bb.fz 2
    simp only [fl, fr, Act.put]
    try simp
    refine wpAnyH_ready (rs := [12]) (by kernel_rfl) (by simp) ?_
    refine AllReadyH.cons rfl (fun K hK => ?_) AllReadyH.nil
    go_simp
    have bE := bb.set3 (.int .i64 W) (.slice (some ⟨p, 0, none⟩) m cp) (.slice (some ⟨q, 0, none⟩) m cq)
    have hbe := below_three z.be lb (.int .i64 W) (.slice (some ⟨p, 0, none⟩) m cp) (.slice (some ⟨q, 0, none⟩) m cq)
    have e1 := ip_three z.zp (Ne.symm n1) (.int .i64 W) (.slice (some ⟨p, 0, none⟩) m cp) (.slice (some ⟨q, 0, none⟩) m cq)
    have e2 := ip_three z.zq (Ne.symm n2) (.int .i64 W) (.slice (some ⟨p, 0, none⟩) m cp) (.slice (some ⟨q, 0, none⟩) m cq)
    refine hK.out _ _ (hk _ hbe) (fun _ => ?_)
    clear hK K
    try simp [Act.put]
    refine wpAnyH_done (by kernel_rfl) ?_ _
    go_wp2_with fail
    go_meet
    case rel => exact ⟨ga, p, cp, q, cq, rfl, bE, e1, e2, lb, z.lp, z.lq, n1, n2, z.pq, hbe⟩
  case rest =>
    obtain ⟨A, gh, ch, gm, cm, rfl, cA, cH, cM, k1, k2, k3, k4, k5, k6, hbc⟩ := hcut
    have X : Rfs w A gh gm := ⟨by omega, by omega, by omega, k4, k5, k6⟩
    have G5 : Rsp w wc W a c b d m A gh ch gm cm f g := ⟨bA.on hbc, bR.on hbc, cA, cH, cM, stepA hB hbc⟩
    clear bA bR hB hf4 hg4 cA cH cM hbc hf hg
    generalize wc = w5 at G5 ⊢
    have hLn := specLine_yes x1 y1 x2 y2 w5 R.lb
    have eN : steps (ab (x2 - x1)) (ab (y2 - y1)) = rN x1 y1 x2 y2 := rfl
    rw [eN] at hLn
    go_wp2_with fail
    refine hLn.mono ?_
    rintro e w6 ⟨⟨la, lc, rfl, hLP⟩, hb6⟩
    obtain ⟨gl, Bl, rfl, hgl, hgl2, hgl3, hcl, hin, -⟩ := hLP (Nat.succ_pos _)
    have G6 := G5.on hb6
    have hz5 := G5.h.lt
    have hz5m := G5.m.lt
    have hNle := R.le
    have hpt := R.pt
    have hfin := R.fin
    generalize hid : rid W x1 y1 x2 y2 = id at hpt hq
    have HID : Hid (rid W x1 y1 x2 y2 = id) := hid
    generalize lnX x1 y1 x2 y2 = LX at hin hpt hfin
    generalize lnY x1 y1 x2 y2 = LY at hin hpt hfin
    generalize hNN : rN x1 y1 x2 y2 = N at hcl hin hNle hpt hfin hq ⊢
    have HNN : Hid (rN x1 y1 x2 y2 = N) := hNN
    clear hLn hLP eN R hb6 G5 hid hNN hfin
    have Ln6 : Lns w6 gl N Bl LX LY := ⟨hcl, fun i hi => (hin i hi).2.2⟩
    have hne : ∀ i, i < N + 1 → Bl i ≠ gm ∧ Bl i ≠ gh := fun i hi => by have := (hin i hi).1; omega
    have hgl9 : gl ≠ gm ∧ gl ≠ gh := by omega
    clear hcl hin hgl hgl2 hgl3 hz5 hz5m
    have HQ0 : Hid (rayQ W m f m g x1 y1 x2 y2 hit = cntB W m (rayF f id N hit) m (rayG g id N hit)) := hq
    clear hq
    go_wp2_with fail
    go_loopw [63] (fun i wr => ∃ k : Nat, k ≤ N + 1 ∧ i = .int .i64 k ∧ Rsp w wr W a c b d m A gh ch gm cm (sF f id N hit k) (sG g id N hit k) ∧ Lns wr gl N Bl LX LY) (fun i _ => N + 1 - (intOf i).toNat)
    case atStart => exact ⟨0, Nat.zero_le _, rfl, by rw [sF_le (Nat.zero_le _), sG_le (Nat.zero_le _)]; exact G6, Ln6⟩
    case round =>
      obtain ⟨k, hk, rfl, G, Ln⟩ := hrel
      clear G6 Ln6
      by_cases hlt : k < N + 1
      · have j5 : (k : Int) < ((N + 1 : Nat) : Int) := by omega
        rw [sF_le (by omega), sG_le (by omega)] at G
        have hcell := Ln.c k hlt
        have hp := Ln.p k hlt
        obtain ⟨⟨p1, p2⟩, ⟨p3, p4⟩, -, p5, p6⟩ := hpt k (by omega)
        have hvm := am_bd2 hgB (id := id) k (id k) p6
        have hvh := allB_at hfB p6
        have i1 : (0 : Int) ≤ ((id k : Nat) : Int) := by omega
        have i2 : ((id k : Nat) : Int) < (m : Int) := by omega
        have H6 : Hid (id k < m) := p6
        have HP5 : Hid (((id k : Nat) : Int) = LY k * W + LX k) := p5
        have hw1 : IntKind.i64.wrap (LY k * W) = LY k * W := IntWalk.i64_in _ ⟨by omega, by omega⟩
        have hw2 : IntKind.i64.wrap (LY k * W + LX k) = LY k * W + LX k := IntWalk.i64_in _ ⟨by omega, by omega⟩
        clear p1 p2 p3 p4 p5 p6
        generalize LX k = xk at hp hw2 HP5
        generalize LY k = yk at hp hw1 hw2 HP5
        generalize Bl k = Bk at hp hcell
        have e0 : wr.cell? ⟨Bk, 0, none⟩ = some (.int .i64 xk) := hp.c 0 (by omega)
        have e1 : wr.cell? ⟨Bk, 1, none⟩ = some (.int .i64 yk) := hp.c 1 (by omega)
        have s0 := G.s.c0
        go_upto_region 8 with fail
        go_cut [18] from 68 to 77 (fun sx wx => sx = .int .i64 ((id k : Nat) : Int) ∧ Below wr.heap.size wr wx)
        case first =>
          go_quiet (fail)
          go_wp2_with fail
          go_meet
          case rel => exact ⟨by rw [HP5.out], below_dr (Below.refl _ _) _⟩
        case rest =>
          obtain ⟨rfl, hbc⟩ := hcut
          have G7 := G.on hbc
          have L7 := Ln.on hbc
          clear G Ln hbc hcell hp e0 e1 s0 hw1 hw2 HP5 hpt
          generalize wc = w7 at G7 L7 ⊢
          obtain ⟨q0, q1, q2⟩ := cnt_three G7.a
          by_cases hkN : k < N
          · have hE1 : (((k : Nat) : Int) == ((N + 1 : Nat) : Int) - 1) = false := by simp; omega
            have u0 := G7.m.c (id k) H6.out
            have u1 := G7.m.fz (id k)
            generalize hv9 : am g id k (id k) = v at u0 hvm
            have HV : Hid (am g id k (id k) = v) := hv9
            clear hv9
            have hv1 : v ≤ 1000017 := by omega
            have hv0 : 0 ≤ v := by omega
            go_wp2
            go_roundw
            case rel =>
              refine ⟨k + 1, by omega, by go_num, ?_, L7.putX _ hgl9.1 (fun i hi => (hne i hi).1) _⟩
              rw [sF_le (by omega), sG_le (by omega)]
              have ea : am g id (k + 1) = put (am g id k) (id k) (am g id k (id k) + 1) := rfl
              rw [ea, HV.out]
              exact G7.putM X H6.out _
            case measure => (simp [intOf] <;> omega)
          · have hkE : k = N := by omega
            subst hkE
            have hE1 : (((k : Nat) : Int) == ((k + 1 : Nat) : Int) - 1) = true := by simp
            cases hit with
            | false =>
              have u0 := G7.m.c (id k) H6.out
              have u1 := G7.m.fz (id k)
              generalize hv9 : am g id k (id k) = v at u0 hvm
              have HV : Hid (am g id k (id k) = v) := hv9
              clear hv9
              have hv1 : v ≤ 1000017 := by omega
              have hv0 : 0 ≤ v := by omega
              go_wp2
              go_roundw
              case rel =>
                refine ⟨k + 1, by omega, by go_num, ?_, L7.putX _ hgl9.1 (fun i hi => (hne i hi).1) _⟩
                rw [sF_end, sG_end]
                have ea : rayG g id k false = put (am g id k) (id k) (am g id k (id k) + 1) := rfl
                rw [ea, HV.out]
                exact G7.putM X H6.out _
              case measure => (simp [intOf] <;> omega)
            | true =>
              have u0 := G7.h.c (id k) H6.out
              have u1 := G7.h.fz (id k)
              generalize hv9 : f (id k) = v at u0 hvh
              have HV : Hid (f (id k) = v) := hv9
              clear hv9
              have hv1 : v ≤ 1000017 := by omega
              have hv0 : 0 ≤ v := by omega
              go_wp2
              go_roundw
              case rel =>
                refine ⟨k + 1, by omega, by go_num, ?_, L7.putX _ hgl9.2 (fun i hi => (hne i hi).2) _⟩
                rw [sF_end, sG_end]
                have ea : rayF f id k true = put f (id k) (f (id k) + 1) := rfl
                rw [ea, HV.out]
                exact G7.putH X H6.out _
              case measure => (simp [intOf] <;> omega)
      · have hke : k = N + 1 := by omega
        subst hke
        rw [sF_end, sG_end] at G
        have hgd := fun w hx hy => specGoodC W (some ⟨gh, 0, none⟩) (some ⟨gm, 0, none⟩) m ch m cm (rayF f id N hit) (rayG g id N hit) w (by omega) (by omega) hx hy
        rw [← HQ0.out] at hgd
        generalize hQ : rayQ W m f m g x1 y1 x2 y2 hit = qq at hgd
        have HQ : Hid (rayQ W m f m g x1 y1 x2 y2 hit = qq) := hQ
        clear hQ
        obtain ⟨q0, q1, q2⟩ := cnt_three G.a
        go_wp2_with fail
        refine (hgd _ (ip_il G.h) (ip_il G.m)).mono ?_
        rintro e w10 ⟨rfl, hb10⟩
        have GA := G.on hb10
        clear hb10 G Ln q0 q1 q2 hgd
        obtain ⟨q0, q1, q2⟩ := cnt_three GA.a
        obtain ⟨r0, r1, r2⟩ := cnt_three GA.r
        have f0 := GA.r.fz 0
        have f1 := GA.r.fz 1
        have f2 := GA.r.fz 2
        have xa := X.fa
        have xh := X.fh
        have xm := X.fm
        cases qq with
        | false =>
          have bE := GA.r.set3 (.int .i64 0) (.slice none 0 0) (.slice none 0 0)
          have hBE := below_three GA.be (b := w.heap.size + 1) (by omega) (.int .i64 0) (.slice none 0 0) (.slice none 0 0)
          go_wp2
          refine ret_cnt_tmp Try.results10 rfl bE.c0 bE.c1 bE.c2 rfl ?_
          exact ⟨ansA_nil HQ.out hBE.size, hBE⟩
        | true =>
          have bE := GA.r.set3 (.int .i64 W) (.slice (some ⟨gh, 0, none⟩) m ch) (.slice (some ⟨gm, 0, none⟩) m cm)
          have hBE := below_three GA.be (b := w.heap.size + 1) (by omega) (.int .i64 W) (.slice (some ⟨gh, 0, none⟩) m ch) (.slice (some ⟨gm, 0, none⟩) m cm)
          have e1 := ip_three GA.h (b' := w.heap.size + 1) (by omega) (.int .i64 W) (.slice (some ⟨gh, 0, none⟩) m ch) (.slice (some ⟨gm, 0, none⟩) m cm)
          have e2 := ip_three GA.m (b' := w.heap.size + 1) (by omega) (.int .i64 W) (.slice (some ⟨gh, 0, none⟩) m ch) (.slice (some ⟨gm, 0, none⟩) m cm)
          go_wp2
          refine ret_cnt_tmp Try.results10 rfl bE.c0 bE.c1 bE.c2 rfl ?_
          refine ⟨?_, hBE⟩
          rw [HID.out, HNN.out]
          exact ansA_mk HQ.out (ch := ch) (cm := cm) e1 e2 (by omega) (by omega) X.hm
theorem specRay (W : Int) (a b : Option Addr) (n c m d : Nat) (f g : Nat → Int) (x1 y1 x2 y2 : Int) (hit : Bool) (w : World) (hn : n ≤ 1048576) (hm : m ≤ 1048576) (hf : IL w a n f) (hg : IL w b m g) :
    Calls Try.prog 10 #[cnt W a n c b m d, .int .i64 x1, .int .i64 y1, .int .i64 x2, .int .i64 y2, .bool hit] w fun e w' => AnsA w w' e W n (rayF f (rid W x1 y1 x2 y2) (rN x1 y1 x2 y2) hit) (rayG g (rid W x1 y1 x2 y2) (rN x1 y1 x2 y2) hit) (rayQ W n f m g x1 y1 x2 y2 hit) ∧ Below w.heap.size w w' := by
  cases h0 : rayB W n f m g x1 y1 x2 y2 with
  | true => exact specRay_yes W a b n c m d f g x1 y1 x2 y2 hit w hn hm hf hg h0
  | false =>
    cases hc : cntB W n f m g with
    | false => exact specRay_no1 W a b n c m d f g x1 y1 x2 y2 hit w hn hm hf hg hc
    | true =>
      cases h1 : hvB W (hgt W n) x1 y1 with
      | false => exact specRay_no2 W a b n c m d f g x1 y1 x2 y2 hit w hn hm hf hg hc h1
      | true =>
        cases h2 : hvB W (hgt W n) x2 y2 with
        | false => exact specRay_no3 W a b n c m d f g x1 y1 x2 y2 hit w hn hm hf hg hc h1 h2
        | true =>
          unfold rayB at h0
          rw [hc, h1, h2] at h0
          cases h0
theorem implRay (W : Int) (a b : Option Addr) (n c m d : Nat) (f g : Nat → Int) (x1 y1 x2 y2 : Int) (hit : Bool) (w : World) (hn : n ≤ 1048576) (hm : m ≤ 1048576) (hf : IL w a n f) (hg : IL w b m g) :
    Calls Try.prog 9 #[cnt W a n c b m d, .int .i64 x1, .int .i64 y1, .int .i64 x2, .int .i64 y2, .bool hit] w fun e w' => AnsA w w' e W n (rayF f (rid W x1 y1 x2 y2) (rN x1 y1 x2 y2) hit) (rayG g (rid W x1 y1 x2 y2) (rN x1 y1 x2 y2) hit) (rayQ W n f m g x1 y1 x2 y2 hit) ∧ Below w.heap.size w w' := by
  cases h0 : rayB W n f m g x1 y1 x2 y2 with
  | true => exact implRay_yes W a b n c m d f g x1 y1 x2 y2 hit w hn hm hf hg h0
  | false =>
    cases hc : cntB W n f m g with
    | false => exact implRay_no1 W a b n c m d f g x1 y1 x2 y2 hit w hn hm hf hg hc
    | true =>
      cases h1 : hvB W (hgt W n) x1 y1 with
      | false => exact implRay_no2 W a b n c m d f g x1 y1 x2 y2 hit w hn hm hf hg hc h1
      | true =>
        cases h2 : hvB W (hgt W n) x2 y2 with
        | false => exact implRay_no3 W a b n c m d f g x1 y1 x2 y2 hit w hn hm hf hg hc h1 h2
        | true =>
          unfold rayB at h0
          rw [hc, h1, h2] at h0
          cases h0
end Go.Proofs.Ytnoaonflphameaa
