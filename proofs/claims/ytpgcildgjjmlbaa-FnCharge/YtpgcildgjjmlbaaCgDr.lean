/- A robot's numbers that are drawn. -/
import Derived.Test.YtpgcildgjjmlbaaCgM
import Derived.Test.YtpgcildgjjmlbaaCurPick
import Derived.Test.YtpgcildgjjmlbaaCurNew
import Derived.Deep.RegionWith
import Derived.Deep.Cut
import Derived.Deep.CutRange
import Derived.BigQuiet
namespace Go.Proofs.Ytpgcildgjjmlbaa
open Go.RowKit
/-- a robot and ticks that were drawn -/
def AnsDc (w w' : World) (e : Ending) : Prop := ∃ (c : Cg) (t : Int), e = .returned (.tuple #[cgv c, .int .i64 t]) ∧ Below w.heap.size w w'
theorem ret_cg {fn : Func} {t t2 : Tmp} {R : Ending → World → Prop} {a : Act} {w : World} {b : Nat} {c : Cg} (h : fn.results = #[.cell t 24, .tmp t2]) (hp : a.tmps.getD t undef = .pointer (some ⟨b, 0, none⟩)) (k : Bx w b (cgs c)) (hd : a.defers = [])
    (hR : R (.returned (.tuple #[cgv c, a.tmps.getD t2 undef])) w) : bodyPost Try.prog fn R .ret a w := by
  refine bodyPost_ret ?_ hd hR
  obtain ⟨c0, c1, c2, c3⟩ := charge_at k
  rw [results_cell_tmp h, hp]
  simp [asAddr, loadVar, go_sem, c0, c1, c2, c3]
theorem set_cg {w : World} {b : Nat} {d : Cg} (h : Bx w b (cgs d)) (p q r s : Int) : Bx ((((w.setCell ⟨b, 0, none⟩ (.int .i64 p)).setCell ⟨b, 1, none⟩ (.int .i64 q)).setCell ⟨b, 2, none⟩ (.int .i64 r)).setCell ⟨b, 3, none⟩ (.int .i64 s)) b (cgs ⟨p, q, r, s⟩) :=
  (((h.set 0 (show 0 < 4 by omega) _).set 1 (show 1 < 4 by omega) _).set 2 (show 2 < 4 by omega) _).set 3 (show 3 < 4 by omega) _
theorem below_cg {B b : Nat} {w w1 : World} (h : Below B w w1) (hb : B ≤ b) (p q r s : Int) : Below B w ((((w1.setCell ⟨b, 0, none⟩ (.int .i64 p)).setCell ⟨b, 1, none⟩ (.int .i64 q)).setCell ⟨b, 2, none⟩ (.int .i64 r)).setCell ⟨b, 3, none⟩ (.int .i64 s)) :=
  (((h.setCell (p := ⟨b, 0, none⟩) hb _).setCell (p := ⟨b, 1, none⟩) hb _).setCell (p := ⟨b, 2, none⟩) hb _).setCell (p := ⟨b, 3, none⟩) hb _
/-- what stands while it is drawn: the answer's box, the cursor, the robot's box -/
structure Dq (w wx : World) (R C X : Nat) (a : Option Addr) (len cap n : Nat) (c : Cg) : Prop where
  r : Bx wx R (cgs cg0)
  cur : Cur wx C a len cap n
  x : Bx wx X (cgs c)
  ne : R < C ∧ C < X ∧ R < X
  lo : w.heap.size ≤ R ∧ w.heap.size ≤ C ∧ w.heap.size ≤ X
  b : Below w.heap.size w wx
section
variable {w wx wy : World} {R C X : Nat} {a : Option Addr} {len cap n n2 : Nat} {c : Cg}
theorem bx_only {w w' : World} {b b' : Nat} {vs : List Value} (h : Bx w b vs) (k : Only b' w w') (hn : b ≠ b') : Bx w' b vs := h.turns (OnlyIn.of k (Nat.le_refl _) (Nat.lt_succ_self _)).turns (by omega)
theorem Dq.step (h : Dq w wx R C X a len cap n c) (o : Only C wx wy) (hc : Cur wy C a len cap n2) : Dq w wy R C X a len cap n2 c :=
  ⟨bx_only h.r o (by have := h.ne; omega), hc, bx_only h.x o (by have := h.ne; omega), h.ne, h.lo, h.b.trans (o.below.mono h.lo.2.1)⟩
theorem Dq.on (h : Dq w wx R C X a len cap n c) (k : Below wx.heap.size wx wy) : Dq w wy R C X a len cap n c :=
  ⟨h.r.on k, h.cur.below k h.cur.lt, h.x.on k, h.ne, h.lo, stepA h.b k⟩
theorem Dq.dr (h : Dq w wx R C X a len cap n c) : Dq w wx.drew R C X a len cap n c := h.on (Below.refl _ _).drew
theorem Dq.set (h : Dq w wx R C X a len cap n c) (k : Nat) (hk : k < 4) (v : Int) {c2 : Cg} (e : (cgs c).set k (.int .i64 v) = cgs c2) : Dq w (wx.setCell ⟨X, k, none⟩ (.int .i64 v)) R C X a len cap n c2 := by
  have o : Only X wx (wx.setCell ⟨X, k, none⟩ (.int .i64 v)) := (Only.refl X wx).set k _
  exact ⟨bx_only h.r o (by have := h.ne; omega), h.cur.below o.below h.ne.2.1, by rw [← e]; exact h.x.set k hk _, h.ne, h.lo, h.b.trans (o.below.mono h.lo.2.2)⟩
end
set_option maxHeartbeats 8000000 in
set_option maxRecDepth 20000 in
theorem drawCharge (a : Option Addr) (len cap : Nat) (w : World) (hl : len ≤ 1048576) (hb : 0 < len → ∃ b off, a = some ⟨b, off, none⟩ ∧ b < w.heap.size ∧ ∀ i, i < len → ∃ v : Int, w.cell? ⟨b, off + i, none⟩ = some (.int .u8 v) ∧ 0 ≤ v ∧ v ≤ 255) :
    Calls Try.prog 5 #[.slice a len cap] w fun e w' => AnsDc w w' e := by
  have hb0 : Below w.heap.size w (w.alloc (.cells (cgs cg0).toArray 24)) := (Below.refl _ _).alloc (Nat.le_refl _) _
  have r0 := bx_new (b := w.heap.size) (w := w) (cgs cg0) 24 rfl
  have hb' : 0 < len → ∃ b off, a = some ⟨b, off, none⟩ ∧ b < (w.alloc (.cells (cgs cg0).toArray 24)).heap.size ∧ ∀ i, i < len → ∃ v : Int, (w.alloc (.cells (cgs cg0).toArray 24)).cell? ⟨b, off + i, none⟩ = some (.int .u8 v) ∧ 0 ≤ v ∧ v ≤ 255 := fun h0 => by
    obtain ⟨b, off, ha, hbw, hc⟩ := hb h0
    refine ⟨b, off, ha, by rw [size_al]; omega, fun i hi => ?_⟩
    obtain ⟨v, hv, hv1⟩ := hc i hi
    exact ⟨v, (hb0.cell (p := ⟨b, _, none⟩) hbw).trans hv, hv1⟩
  have hc0 := cur_new (w.alloc (.cells (cgs cg0).toArray 24)) a len cap hl hb'
  have hbC : Below (w.alloc (.cells (cgs cg0).toArray 24)).heap.size (w.alloc (.cells (cgs cg0).toArray 24)) ((w.alloc (.cells (cgs cg0).toArray 24)).alloc (.cells #[.slice a len cap, .int .i64 0, .int .u64 0] 40)) := (Below.refl _ _).alloc (Nat.le_refl _) _
  have rc := r0.on hbC
  have hBc := stepA hb0 hbC
  rw [size_al] at hc0
  clear hb hb' hb0 r0 hbC
  have hC : w.heap.size + 1 < ((w.alloc (.cells (cgs cg0).toArray 24)).alloc (.cells #[.slice a len cap, .int .i64 0, .int .u64 0] 40)).heap.size := hc0.lt
  go_enter Try.func5, Try.ntmps5
  go_upto_region 2 with fail
  generalize (w.alloc (.cells (cgs cg0).toArray 24)).alloc (.cells #[.slice a len cap, .int .i64 0, .int .u64 0] 40) = w0 at rc hc0 hBc hC ⊢
  go_wp2_with fail
  refine (pick_any (w.heap.size + 1) a len cap 0 40 _ hc0 (by omega)).mono ?_
  rintro e w1 ⟨v1, n1, rfl, p1, q1, -, m1, hc1, hO1⟩
  have q1 := q1 (by omega)
  have r1 : Bx w1 w.heap.size (cgs cg0) := rc.turns (OnlyIn.of hO1 (Nat.le_refl _) (Nat.lt_succ_self _)).turns (by omega)
  have hB1 := hBc.trans (hO1.below.mono (show w.heap.size ≤ w.heap.size + 1 by omega))
  have hs1 : w.heap.size + 1 < w1.heap.size := hc1.lt
  clear rc hc0 hBc hC hO1
  obtain ⟨f, hf⟩ : ∃ f : Int, f = 1 + v1 := ⟨_, rfl⟩
  have HF : Hid (f = 1 + v1) := hf
  have hf1 : 1 ≤ f ∧ f ≤ 40 := by omega
  have hA := (Below.refl w1.heap.size w1).alloc (Nat.le_refl _) (.cells #[.int .i64 0, .int .i64 0, .int .i64 0, .int .i64 f] 24)
  have D2 : Dq w (w1.alloc (.cells #[.int .i64 0, .int .i64 0, .int .i64 0, .int .i64 f] 24)) w.heap.size (w.heap.size + 1) w1.heap.size a len cap n1 ⟨0, 0, 0, f⟩ :=
    ⟨r1.on hA, hc1.below hA hc1.lt, bx_new (b := w1.heap.size) (w := w1) (cgs ⟨0, 0, 0, f⟩) 24 rfl, ⟨by omega, by omega, by omega⟩, ⟨Nat.le_refl _, by omega, by omega⟩, stepA hB1 hA⟩
  rw [hf] at D2
  clear hA r1 hc1 hB1 hf
  go_upto_region 3 with fail
  rw [← HF.out] at D2 ⊢
  generalize w1.alloc (.cells #[.int .i64 0, .int .i64 0, .int .i64 0, .int .i64 f] 24) = w2 at D2 ⊢
  generalize w1.heap.size = X at D2 ⊢
  generalize w.heap.size + 1 = C at D2 ⊢
  clear hs1 HF p1 q1
  obtain ⟨x0, x1, x2, x3⟩ := charge_at D2.x
  go_wp2_with fail
  refine (pick_any C a len cap _ (f + 1) _ D2.cur (by omega)).mono ?_
  rintro e w3 ⟨v3, n3, rfl, p3, -, b3, m3, hc3, hO3⟩
  have E3 := D2.step hO3 hc3
  clear x0 x1 x2 x3 hc3 hO3
  have f3 := E3.x.fz 0
  obtain ⟨y0, y1, y2, y3⟩ := charge_at E3.x
  have D3 : Dq w (w3.setCell ⟨X, 0, none⟩ (.int .i64 (v3))) w.heap.size C X a len cap n3 ⟨v3, 0, 0, f⟩ := E3.set 0 (by omega) _ rfl
  clear E3
  go_upto_region 4 with fail
  generalize w3.setCell ⟨X, 0, none⟩ (.int .i64 v3) = z3 at D3 ⊢
  clear y0 y1 y2 y3 f3
  obtain ⟨x0, x1, x2, x3⟩ := charge_at D3.x
  go_wp2_with fail
  refine (pick_any C a len cap _ f _ D3.cur (by omega)).mono ?_
  rintro e w4 ⟨v4, n4, rfl, p4, -, b4, m4, hc4, hO4⟩
  have E4 := D3.step hO4 hc4
  clear x0 x1 x2 x3 hc4 hO4
  have f4 := E4.x.fz 1
  obtain ⟨y0, y1, y2, y3⟩ := charge_at E4.x
  have D4 : Dq w (w4.setCell ⟨X, 1, none⟩ (.int .i64 (1 + v4))) w.heap.size C X a len cap n4 ⟨v3, 1 + v4, 0, f⟩ := E4.set 1 (by omega) _ rfl
  clear E4
  go_upto_region 5 with fail
  generalize w4.setCell ⟨X, 1, none⟩ (.int .i64 (1 + v4)) = z4 at D4 ⊢
  clear y0 y1 y2 y3 f4
  obtain ⟨x0, x1, x2, x3⟩ := charge_at D4.x
  go_wp2_with fail
  refine (pick_any C a len cap _ f _ D4.cur (by omega)).mono ?_
  rintro e w5 ⟨v5, n5, rfl, p5, -, b5, m5, hc5, hO5⟩
  have E5 := D4.step hO5 hc5
  clear x0 x1 x2 x3 hc5 hO5
  have f5 := E5.x.fz 2
  obtain ⟨y0, y1, y2, y3⟩ := charge_at E5.x
  have D5 : Dq w (w5.setCell ⟨X, 2, none⟩ (.int .i64 (1 + v5))) w.heap.size C X a len cap n5 ⟨v3, 1 + v4, 1 + v5, f⟩ := E5.set 2 (by omega) _ rfl
  clear E5
  go_upto_region 6 with fail
  generalize w5.setCell ⟨X, 2, none⟩ (.int .i64 (1 + v5)) = z5 at D5 ⊢
  clear y0 y1 y2 y3 f5
  generalize hU : 1 + v4 = U at D5 ⊢
  generalize hG : 1 + v5 = G at D5 ⊢
  go_wp2_with fail
  refine (pick_any C a len cap _ 16 _ D5.cur (by omega)).mono ?_
  rintro e w6 ⟨v6, n6, rfl, p6, -, b6, m6, hc6, hO6⟩
  have E6 := D5.step hO6 hc6
  clear hc6 hO6 D5 hU hG p3 p4 p5 b4 b5
  by_cases g0 : v6 = 0
  · have k0 : (v6 == 0) = true := by simpa using g0
    clear g0
    have hL := lit_ip w6 [10000, 10001, 0] 3
    have E7 := E6.on ((Below.refl _ _).alloc (Nat.le_refl _) (.cells #[.int .i64 10000, .int .i64 10001, .int .i64 0] 3))
    have hne : w6.heap.size ≠ C := Nat.ne_of_gt E6.cur.lt
    clear E6
    go_wp2_with fail
    refine (among_any C a len cap _ _ 3 _ _ _ E7.cur (by omega) hL hne (by omega) (by omega)).mono ?_
    rintro e w8 ⟨i8, n8, hi8, he, m8, hc8, hO8⟩
    obtain ⟨vv, he2⟩ : ∃ vv : Int, e = .returned (.int .i64 vv) := ⟨_, he⟩
    clear he
    subst he2
    have E8 := E7.step hO8 hc8
    clear hL hc8 hO8 E7
    have f8 := E8.x.fz 3
    obtain ⟨y0, y1, y2, y3⟩ := charge_at E8.x
    have D8 : Dq w (w8.setCell ⟨X, 3, none⟩ (.int .i64 vv)) w.heap.size C X a len cap n8 ⟨v3, U, G, vv⟩ := E8.set 3 (by omega) _ rfl
    clear E8
    go_upto_region 13 with fail
    generalize w8.setCell ⟨X, 3, none⟩ (.int .i64 vv) = z8 at D8 ⊢
    clear y0 y1 y2 y3 f8
    go_wp2_with fail
    refine (pick_any C a len cap _ 40 _ D8.cur (by omega)).mono ?_
    rintro e w9 ⟨v9, n9, rfl, p9, -, b9, m9, hc9, hO9⟩
    have E9 := D8.step hO9 hc9
    clear hc9 hO9 D8
    go_wp2_with fail
    refine (one_any C a len cap _ 12 _ E9.cur (by omega)).mono ?_
    rintro e w10 ⟨q10, n10, rfl, m10, hc10, hO10⟩
    have E10 := E9.step hO10 hc10
    clear hc10 hO10 E9
    cases q10 with
    | false =>
      obtain ⟨y0, y1, y2, y3⟩ := charge_at E10.x
      obtain ⟨u0, u1, u2, u3⟩ := charge_at E10.r
      have g0 := E10.r.fz 0
      have g1 := E10.r.fz 1
      have g2 := E10.r.fz 2
      have g3 := E10.r.fz 3
      have HB : Hid _ := below_cg E10.b (Nat.le_refl w.heap.size) v3 U G vv
      have HX : Hid _ := set_cg E10.r v3 U G vv
      clear E10
      go_wp2
      exact ret_cg rfl rfl HX.out rfl ⟨⟨v3, U, G, vv⟩, _, rfl, HB.out⟩
    | true =>
      have hL := lit_ip w10 [-1, 200, 201] 3
      have E11 := E10.on ((Below.refl _ _).alloc (Nat.le_refl _) (.cells #[.int .i64 (-1), .int .i64 200, .int .i64 201] 3))
      have hne : w10.heap.size ≠ C := Nat.ne_of_gt E10.cur.lt
      clear E10
      go_wp2_with fail
      refine (among_any C a len cap _ _ 3 _ _ _ E11.cur (by omega) hL hne (by omega) (by omega)).mono ?_
      rintro e w12 ⟨i12, n12, hi12, he, m12, hc12, hO12⟩
      obtain ⟨v12, he2⟩ : ∃ v12 : Int, e = .returned (.int .i64 v12) := ⟨_, he⟩
      clear he
      subst he2
      have E12 := E11.step hO12 hc12
      clear hL hc12 hO12 E11
      obtain ⟨y0, y1, y2, y3⟩ := charge_at E12.x
      obtain ⟨u0, u1, u2, u3⟩ := charge_at E12.r
      have g0 := E12.r.fz 0
      have g1 := E12.r.fz 1
      have g2 := E12.r.fz 2
      have g3 := E12.r.fz 3
      have HB : Hid _ := below_cg E12.b (Nat.le_refl w.heap.size) v3 U G vv
      have HX : Hid _ := set_cg E12.r v3 U G vv
      clear E12
      go_wp2
      exact ret_cg rfl rfl HX.out rfl ⟨⟨v3, U, G, vv⟩, _, rfl, HB.out⟩
  have k0 : (v6 == 0) = false := by simpa using g0
  by_cases g1 : v6 = 1
  · have k1 : (v6 == 1) = true := by simpa using g1
    clear g0 g1
    go_upto_region 10 with fail
    obtain ⟨x0, x1, x2, x3⟩ := charge_at E6.x
    have f0 := E6.x.fz 0
    go_region_with (first | (go_at_call 13; refine (pick_any C a len cap _ 2 _ E6.dr.cur (by omega)).mono ?_; rintro e w8 ⟨v8, n8, rfl, p8, -, b8, m8, hc8, hO8⟩; have E8 := E6.dr.step hO8 hc8; clear hc8 hO8; obtain ⟨y0, y1, y2, y3⟩ := charge_at E8.x; have f8 := E8.x.fz 0) | (fail))
    all_goals
      have D8 : ∀ u : Int, Dq w (w8.setCell ⟨X, 0, none⟩ (.int .i64 u)) w.heap.size C X a len cap n8 ⟨u, U, G, f⟩ := fun u => E8.set 0 (by omega) _ rfl
      clear E8 E6
      go_upto_region 13 with fail
      clear x0 x1 x2 x3 f0 y0 y1 y2 y3 f8
      go_wp2_with fail
      refine (pick_any C a len cap _ 40 _ (D8 _).cur (by omega)).mono ?_
      rintro e w9 ⟨v9, n9, rfl, p9, -, b9, m9, hc9, hO9⟩
      obtain ⟨vv, E9⟩ : ∃ vv, Dq w w9 w.heap.size C X a len cap n9 ⟨vv, U, G, f⟩ := ⟨_, (D8 _).step hO9 hc9⟩
      clear hc9 hO9 D8
      go_wp2_with fail
      refine (one_any C a len cap _ 12 _ E9.cur (by omega)).mono ?_
      rintro e w10 ⟨q10, n10, rfl, m10, hc10, hO10⟩
      have E10 := E9.step hO10 hc10
      clear hc10 hO10 E9
      cases q10 with
      | false =>
        obtain ⟨y0, y1, y2, y3⟩ := charge_at E10.x
        obtain ⟨u0, u1, u2, u3⟩ := charge_at E10.r
        have g0 := E10.r.fz 0
        have g1 := E10.r.fz 1
        have g2 := E10.r.fz 2
        have g3 := E10.r.fz 3
        have HB : Hid _ := below_cg E10.b (Nat.le_refl w.heap.size) vv U G f
        have HX : Hid _ := set_cg E10.r vv U G f
        clear E10
        go_wp2
        exact ret_cg rfl rfl HX.out rfl ⟨⟨vv, U, G, f⟩, _, rfl, HB.out⟩
      | true =>
        have hL := lit_ip w10 [-1, 200, 201] 3
        have E11 := E10.on ((Below.refl _ _).alloc (Nat.le_refl _) (.cells #[.int .i64 (-1), .int .i64 200, .int .i64 201] 3))
        have hne : w10.heap.size ≠ C := Nat.ne_of_gt E10.cur.lt
        clear E10
        go_wp2_with fail
        refine (among_any C a len cap _ _ 3 _ _ _ E11.cur (by omega) hL hne (by omega) (by omega)).mono ?_
        rintro e w12 ⟨i12, n12, hi12, he, m12, hc12, hO12⟩
        obtain ⟨v12, he2⟩ : ∃ v12 : Int, e = .returned (.int .i64 v12) := ⟨_, he⟩
        clear he
        subst he2
        have E12 := E11.step hO12 hc12
        clear hL hc12 hO12 E11
        obtain ⟨y0, y1, y2, y3⟩ := charge_at E12.x
        obtain ⟨u0, u1, u2, u3⟩ := charge_at E12.r
        have g0 := E12.r.fz 0
        have g1 := E12.r.fz 1
        have g2 := E12.r.fz 2
        have g3 := E12.r.fz 3
        have HB : Hid _ := below_cg E12.b (Nat.le_refl w.heap.size) vv U G f
        have HX : Hid _ := set_cg E12.r vv U G f
        clear E12
        go_wp2
        exact ret_cg rfl rfl HX.out rfl ⟨⟨vv, U, G, f⟩, _, rfl, HB.out⟩
  have k1 : (v6 == 1) = false := by simpa using g1
  by_cases g2 : v6 = 2
  · have k2 : (v6 == 2) = true := by simpa using g2
    clear g0 g1 g2
    obtain ⟨x0, x1, x2, x3⟩ := charge_at E6.x
    have hL := lit_ip w6 [0, f, f + 1] 3
    have E7 := E6.on ((Below.refl _ _).alloc (Nat.le_refl _) (.cells #[.int .i64 0, .int .i64 f, .int .i64 (f + 1)] 3))
    have hne : w6.heap.size ≠ C := Nat.ne_of_gt E6.cur.lt
    clear E6
    go_wp2_with fail
    refine (among_any C a len cap _ _ 3 _ _ _ E7.cur (by omega) hL hne (by omega) (by omega)).mono ?_
    rintro e w8 ⟨i8, n8, hi8, he, m8, hc8, hO8⟩
    obtain ⟨vv, he2⟩ : ∃ vv : Int, e = .returned (.int .i64 vv) := ⟨_, he⟩
    clear he
    subst he2
    have E8 := E7.step hO8 hc8
    clear hL hc8 hO8 E7 x0 x1 x2 x3
    have f8 := E8.x.fz 2
    obtain ⟨y0, y1, y2, y3⟩ := charge_at E8.x
    have D8 : Dq w (w8.setCell ⟨X, 2, none⟩ (.int .i64 vv)) w.heap.size C X a len cap n8 ⟨v3, U, vv, f⟩ := E8.set 2 (by omega) _ rfl
    clear E8
    go_upto_region 13 with fail
    generalize w8.setCell ⟨X, 2, none⟩ (.int .i64 vv) = z8 at D8 ⊢
    clear y0 y1 y2 y3 f8
    go_wp2_with fail
    refine (pick_any C a len cap _ 40 _ D8.cur (by omega)).mono ?_
    rintro e w9 ⟨v9, n9, rfl, p9, -, b9, m9, hc9, hO9⟩
    have E9 := D8.step hO9 hc9
    clear hc9 hO9 D8
    go_wp2_with fail
    refine (one_any C a len cap _ 12 _ E9.cur (by omega)).mono ?_
    rintro e w10 ⟨q10, n10, rfl, m10, hc10, hO10⟩
    have E10 := E9.step hO10 hc10
    clear hc10 hO10 E9
    cases q10 with
    | false =>
      obtain ⟨y0, y1, y2, y3⟩ := charge_at E10.x
      obtain ⟨u0, u1, u2, u3⟩ := charge_at E10.r
      have g0 := E10.r.fz 0
      have g1 := E10.r.fz 1
      have g2 := E10.r.fz 2
      have g3 := E10.r.fz 3
      have HB : Hid _ := below_cg E10.b (Nat.le_refl w.heap.size) v3 U vv f
      have HX : Hid _ := set_cg E10.r v3 U vv f
      clear E10
      go_wp2
      exact ret_cg rfl rfl HX.out rfl ⟨⟨v3, U, vv, f⟩, _, rfl, HB.out⟩
    | true =>
      have hL := lit_ip w10 [-1, 200, 201] 3
      have E11 := E10.on ((Below.refl _ _).alloc (Nat.le_refl _) (.cells #[.int .i64 (-1), .int .i64 200, .int .i64 201] 3))
      have hne : w10.heap.size ≠ C := Nat.ne_of_gt E10.cur.lt
      clear E10
      go_wp2_with fail
      refine (among_any C a len cap _ _ 3 _ _ _ E11.cur (by omega) hL hne (by omega) (by omega)).mono ?_
      rintro e w12 ⟨i12, n12, hi12, he, m12, hc12, hO12⟩
      obtain ⟨v12, he2⟩ : ∃ v12 : Int, e = .returned (.int .i64 v12) := ⟨_, he⟩
      clear he
      subst he2
      have E12 := E11.step hO12 hc12
      clear hL hc12 hO12 E11
      obtain ⟨y0, y1, y2, y3⟩ := charge_at E12.x
      obtain ⟨u0, u1, u2, u3⟩ := charge_at E12.r
      have g0 := E12.r.fz 0
      have g1 := E12.r.fz 1
      have g2 := E12.r.fz 2
      have g3 := E12.r.fz 3
      have HB : Hid _ := below_cg E12.b (Nat.le_refl w.heap.size) v3 U vv f
      have HX : Hid _ := set_cg E12.r v3 U vv f
      clear E12
      go_wp2
      exact ret_cg rfl rfl HX.out rfl ⟨⟨v3, U, vv, f⟩, _, rfl, HB.out⟩
  have k2 : (v6 == 2) = false := by simpa using g2
  clear g0 g1 g2
  go_upto_region 13 with fail
  go_wp2_with fail
  refine (pick_any C a len cap _ 40 _ E6.cur (by omega)).mono ?_
  rintro e w9 ⟨v9, n9, rfl, p9, -, b9, m9, hc9, hO9⟩
  have E9 := E6.step hO9 hc9
  clear hc9 hO9 E6
  go_wp2_with fail
  refine (one_any C a len cap _ 12 _ E9.cur (by omega)).mono ?_
  rintro e w10 ⟨q10, n10, rfl, m10, hc10, hO10⟩
  have E10 := E9.step hO10 hc10
  clear hc10 hO10 E9
  cases q10 with
  | false =>
    obtain ⟨y0, y1, y2, y3⟩ := charge_at E10.x
    obtain ⟨u0, u1, u2, u3⟩ := charge_at E10.r
    have g0 := E10.r.fz 0
    have g1 := E10.r.fz 1
    have g2 := E10.r.fz 2
    have g3 := E10.r.fz 3
    have HB : Hid _ := below_cg E10.b (Nat.le_refl w.heap.size) v3 U G f
    have HX : Hid _ := set_cg E10.r v3 U G f
    clear E10
    go_wp2
    exact ret_cg rfl rfl HX.out rfl ⟨⟨v3, U, G, f⟩, _, rfl, HB.out⟩
  | true =>
    have hL := lit_ip w10 [-1, 200, 201] 3
    have E11 := E10.on ((Below.refl _ _).alloc (Nat.le_refl _) (.cells #[.int .i64 (-1), .int .i64 200, .int .i64 201] 3))
    have hne : w10.heap.size ≠ C := Nat.ne_of_gt E10.cur.lt
    clear E10
    go_wp2_with fail
    refine (among_any C a len cap _ _ 3 _ _ _ E11.cur (by omega) hL hne (by omega) (by omega)).mono ?_
    rintro e w12 ⟨i12, n12, hi12, he, m12, hc12, hO12⟩
    obtain ⟨v12, he2⟩ : ∃ v12 : Int, e = .returned (.int .i64 v12) := ⟨_, he⟩
    clear he
    subst he2
    have E12 := E11.step hO12 hc12
    clear hL hc12 hO12 E11
    obtain ⟨y0, y1, y2, y3⟩ := charge_at E12.x
    obtain ⟨u0, u1, u2, u3⟩ := charge_at E12.r
    have g0 := E12.r.fz 0
    have g1 := E12.r.fz 1
    have g2 := E12.r.fz 2
    have g3 := E12.r.fz 3
    have HB : Hid _ := below_cg E12.b (Nat.le_refl w.heap.size) v3 U G f
    have HX : Hid _ := set_cg E12.r v3 U G f
    clear E12
    go_wp2
    exact ret_cg rfl rfl HX.out rfl ⟨⟨v3, U, G, f⟩, _, rfl, HB.out⟩
end Go.Proofs.Ytpgcildgjjmlbaa
