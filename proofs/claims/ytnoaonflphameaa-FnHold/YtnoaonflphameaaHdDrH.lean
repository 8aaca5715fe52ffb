/- What FnHold draws. -/
import Derived.Test.YtnoaonflphameaaHdLev
import Derived.Test.YtnoaonflphameaaCurNew
import Derived.Test.YtnoaonflphameaaHdHold
import Derived.Test.YtnoaonflphameaaHdRunI
import Derived.Deep.RegionWith
namespace Go.Proofs.Ytnoaonflphameaa
open Go.RowKit

def AnsDH (w w' : World) (e : Ending) : Prop := ∃ (l : Lp) (h : Hd) (x : Option Addr) (m c : Nat) (F : Nat → Int) (y : Option Addr) (k d : Nat) (G : Nat → Int), e = .returned (.tuple #[lv l, hv h, .slice x m c, .slice y k d]) ∧ IL w' x m F ∧ IL w' y k G ∧ m ≤ 100 ∧ k ≤ 100 ∧ Below w.heap.size w w'
/-- what stands while it is drawn: the answer's boxes, the loop's -/
structure Drh (w wx : World) (a : Option Addr) (len cap n : Nat) (l : Lp) (M : Nat) : Prop where
  cur : Cur wx (w.heap.size + 1 + 1) a len cap n
  r0 : Bx wx w.heap.size (lvs lp0)
  r1 : Bx wx (w.heap.size + 1) (hvs hd0)
  m : Bx wx M (lvs l)
  be : Below w.heap.size w wx
  sz : w.heap.size + 1 + 1 < M
theorem Drh.turn {w wx w2 : World} {a : Option Addr} {len cap n n2 : Nat} {l : Lp} {M : Nat} (g : Drh w wx a len cap n l M) (t : Turns (w.heap.size + 1 + 1) (w.heap.size + 1 + 1 + 1) wx w2) (c : Cur w2 (w.heap.size + 1 + 1) a len cap n2) : Drh w w2 a len cap n2 l M :=
  ⟨c, g.r0.turns t (.inl (by omega)), g.r1.turns t (.inl (by omega)), g.m.turns t (.inr (by have := g.sz; omega)), g.be.trans (t.below (B := w.heap.size) (by omega) (by have := g.r0.lt; omega)), g.sz⟩
theorem Drh.only {w wx w2 : World} {a : Option Addr} {len cap n n2 : Nat} {l : Lp} {M : Nat} (g : Drh w wx a len cap n l M) (o : Only (w.heap.size + 1 + 1) wx w2) (c : Cur w2 (w.heap.size + 1 + 1) a len cap n2) : Drh w w2 a len cap n2 l M := g.turn (on_turns o) c
theorem lq_seven {w : World} {lo hi : Nat} {a : Option Addr} {n : Nat} {F : Nat → Int} (h : LQ w lo hi a n F) {b : Nat} (hn : b < lo ∨ hi ≤ b) (x y z u v r s : Value) : LQ (((((((w.setCell ⟨b, 0, none⟩ x).setCell ⟨b, 1, none⟩ y).setCell ⟨b, 2, none⟩ z).setCell ⟨b, 3, none⟩ u).setCell ⟨b, 4, none⟩ v).setCell ⟨b, 5, none⟩ r).setCell ⟨b, 6, none⟩ s) lo hi a n F :=
  lq_set (lq_set (lq_set (lq_set (lq_set (lq_set (lq_set h x hn) y hn) z hn) u hn) v hn) r hn) s hn
theorem bx_seven {w : World} {b b' : Nat} {vs : List Value} (h : Bx w b vs) (hn : b ≠ b') (x y z u v r s : Value) : Bx (((((((w.setCell ⟨b', 0, none⟩ x).setCell ⟨b', 1, none⟩ y).setCell ⟨b', 2, none⟩ z).setCell ⟨b', 3, none⟩ u).setCell ⟨b', 4, none⟩ v).setCell ⟨b', 5, none⟩ r).setCell ⟨b', 6, none⟩ s) b vs :=
  ((((((h.far _ hn).far _ hn).far _ hn).far _ hn).far _ hn).far _ hn).far _ hn
theorem lq_four {w : World} {lo hi : Nat} {a : Option Addr} {n : Nat} {F : Nat → Int} (h : LQ w lo hi a n F) {b : Nat} (hn : b < lo ∨ hi ≤ b) (x y z u : Value) : LQ ((((w.setCell ⟨b, 0, none⟩ x).setCell ⟨b, 1, none⟩ y).setCell ⟨b, 2, none⟩ z).setCell ⟨b, 3, none⟩ u) lo hi a n F :=
  lq_set (lq_set (lq_set (lq_set h x hn) y hn) z hn) u hn
theorem ret_dh {fn : Func} {t s u v : Tmp} {R : Ending → World → Prop} {a : Act} {w : World} {b c : Nat} {l : Lp} {h : Hd} (e : fn.results = #[.cell t 34, .cell s 36, .tmp u, .tmp v]) (hp : a.tmps.getD t undef = .pointer (some ⟨b, 0, none⟩)) (c0 : Bx w b (lvs l)) (hp2 : a.tmps.getD s undef = .pointer (some ⟨c, 0, none⟩)) (c1 : Bx w c (hvs h)) (hd : a.defers = [])
    (hR : R (.returned (.tuple #[lv l, hv h, a.tmps.getD u undef, a.tmps.getD v undef])) w) : bodyPost Try.prog fn R .ret a w := by
  refine bodyPost_ret ?_ hd hR
  obtain ⟨x0, x1, x2, x3, x4, x5, x6⟩ := loop_at c0
  obtain ⟨y0, y1, y2, y3⟩ := hold_at c1
  have hp' : a.tmps[t]?.getD undef = .pointer (some ⟨b, 0, none⟩) := by simpa using hp
  have hp2' : a.tmps[s]?.getD undef = .pointer (some ⟨c, 0, none⟩) := by simpa using hp2
  simp [results, e, hp', hp2', asAddr, loadVar, go_sem, x0, x1, x2, x3, x4, x5, x6, y0, y1, y2, y3]

set_option maxHeartbeats 8000000 in
set_option maxRecDepth 20000 in
theorem drawHold (a : Option Addr) (len cap : Nat) (w : World) (hl : len ≤ 1048576) (hb : 0 < len → ∃ b off, a = some ⟨b, off, none⟩ ∧ b < w.heap.size ∧ ∀ i, i < len → ∃ v : Int, w.cell? ⟨b, off + i, none⟩ = some (.int .u8 v) ∧ 0 ≤ v ∧ v ≤ 255) :
    Calls Try.prog 12 #[.slice a len cap] w fun e w' => AnsDH w w' e := by
  have hb0 : Below w.heap.size w ((w.alloc (lvo lp0)).alloc (hvo hd0)) := ((Below.refl _ _).alloc (Nat.le_refl _) _).alloc (by simp) _
  have r0 : Bx ((w.alloc (lvo lp0)).alloc (hvo hd0)) w.heap.size (lvs lp0) := (bx_new (b := w.heap.size) (w := w) (lvs lp0) 34 rfl).alloc _
  have r1 : Bx ((w.alloc (lvo lp0)).alloc (hvo hd0)) (w.heap.size + 1) (hvs hd0) := bx_new _ _ (by simp only [size_al])
  have hb' : 0 < len → ∃ b off, a = some ⟨b, off, none⟩ ∧ b < ((w.alloc (lvo lp0)).alloc (hvo hd0)).heap.size ∧ ∀ i, i < len → ∃ v : Int, ((w.alloc (lvo lp0)).alloc (hvo hd0)).cell? ⟨b, off + i, none⟩ = some (.int .u8 v) ∧ 0 ≤ v ∧ v ≤ 255 := fun h0 => by
    obtain ⟨b, off, ha, hbw, hc⟩ := hb h0
    refine ⟨b, off, ha, by simp only [size_al]; omega, fun i hi => ?_⟩
    obtain ⟨v, hv, hv1⟩ := hc i hi
    exact ⟨v, (hb0.cell (p := ⟨b, _, none⟩) hbw).trans hv, hv1⟩
  have hc0 := cur_new ((w.alloc (lvo lp0)).alloc (hvo hd0)) a len cap hl hb'
  have hbC : Below ((w.alloc (lvo lp0)).alloc (hvo hd0)).heap.size ((w.alloc (lvo lp0)).alloc (hvo hd0)) (((w.alloc (lvo lp0)).alloc (hvo hd0)).alloc (.cells #[.slice a len cap, .int .i64 0, .int .u64 0] 62)) := (Below.refl _ _).alloc (Nat.le_refl _) _
  have rc := r0.on hbC
  have rd := r1.on hbC
  have hBc := stepA hb0 hbC
  simp only [size_al] at hc0
  clear hb hb' hb0 r0 r1 hbC
  go_enter Try.func12, Try.ntmps12
  go_upto_region 2 with fail
  generalize ((w.alloc (lvo lp0)).alloc (hvo hd0)).alloc (.cells #[.slice a len cap, .int .i64 0, .int .u64 0] 62) = w0 at rc rd hc0 hBc ⊢
  have hC : w.heap.size + 1 + 1 < w0.heap.size := hc0.lt
  go_wp2_with fail
  refine (loop_any (w.heap.size + 1 + 1) a len cap 0 _ hc0 (by omega)).mono ?_
  rintro e w1 ⟨l, n1, rfl, hn1, hc1, hT⟩
  have r1 := rc.turns hT (.inl (by omega))
  have s1 := rd.turns hT (.inl (by omega))
  have hB1 := hBc.trans (hT.below (B := w.heap.size) (by omega) (by omega))
  have hs1 : w.heap.size + 1 + 1 < w1.heap.size := hc1.lt
  clear rc rd hc0 hBc hC hT
  go_upto_region 3 with fail
  have hA := (Below.refl w1.heap.size w1).alloc (Nat.le_refl _) (lvo l)
  have G2 : Drh w (w1.alloc (lvo l)) a len cap n1 l w1.heap.size := ⟨hc1.below hA hc1.lt, r1.on hA, s1.on hA, bx_new _ _ rfl, stepA hB1 hA, hs1⟩
  clear hA r1 s1 hc1 hB1 hs1
  generalize w1.alloc (lvo l) = w2 at G2 ⊢
  generalize w1.heap.size = M at G2 ⊢
  go_wp2_with fail
  refine (pick_any (w.heap.size + 1 + 1) a len cap n1 9 _ G2.cur (by omega)).mono ?_
  rintro e w3 ⟨p3, n3, rfl, g3, q3, -, hn3, hc3, hO⟩
  have q3 := q3 (by omega)
  have G3 := G2.only hO hc3
  clear G2 hO hc3
  go_wp2_with fail
  refine (one_any (w.heap.size + 1 + 1) a len cap n3 20 _ G3.cur (by omega)).mono ?_
  rintro e w4 ⟨p4, n4, rfl, hn4, hc4, hO⟩
  have G4 := G3.only hO hc4
  clear G3 hO hc4
  have HQ : Hid (∃ z : Nat, p3 = (z : Int) ∧ z ≤ 61) := ⟨p3.toNat, by omega, by omega⟩
  go_upto_if 18 with fail
  go_cut [8] from 19 to 21 (fun s8 wx => ∃ (z n5 : Nat), s8 = .int .i64 (z : Int) ∧ z ≤ 61 ∧ n5 ≤ 40 ∧ Drh w wx a len cap n5 l M)
  case first =>
    cases p4 with
    | false =>
      go_wp2_with fail
      go_meet
      case rel =>
        obtain ⟨z, hz, hz2⟩ := HQ.out
        exact ⟨z, n4, by rw [hz], hz2, by omega, G4⟩
    | true =>
      go_wp2_with fail
      refine (pick_any (w.heap.size + 1 + 1) a len cap n4 3 _ G4.cur (by omega)).mono ?_
      rintro e w5 ⟨p5, n5, rfl, g5, q5, -, hn5, hc5, hO⟩
      have q5 := q5 (by omega)
      have G5 := G4.only hO hc5
      clear G4 hO hc5
      go_wp2_with fail
      go_meet
      case rel => exact ⟨(59 + p5).toNat, n5, int_eq (by omega), by omega, by omega, G5⟩
  case rest =>
    obtain ⟨z, n5, rfl, hz, hn5, G5⟩ := hcut
    clear HQ G4
    generalize wc = w5 at G5 ⊢
    go_wp2_with fail
    refine (levels_any (w.heap.size + 1 + 1) a len cap n5 z _ G5.cur (by omega) (by omega)).mono ?_
    rintro e w6 ⟨x, cx, F, n6, rfl, hq, hn6, hc6, hT⟩
    have hw5 : M < w5.heap.size := G5.m.lt
    have G6 := G5.turn hT hc6
    generalize w5.heap.size = K at hq hw5
    have hK6 : LQ w6 K w6.heap.size x z F := hq
    clear G5 hT hc6 hq
    go_wp2_with fail
    refine (one_any (w.heap.size + 1 + 1) a len cap n6 24 _ G6.cur (by omega)).mono ?_
    rintro e w7 ⟨p7, n7, rfl, hn7, hc7, hO⟩
    have hszK := G6.sz
    have hK7 := hK6.turns (on_turns hO) (.inr (by omega))
    have hz7 : w7.heap.size = w6.heap.size := hO.size
    rw [← hz7] at hK7
    have G7 := G6.only hO hc7
    clear G6 hO hc7 hK6 hz7
    go_upto_if 26 with fail
    go_cut [8] from 27 to 28 (fun s8 wx => ∃ (y : Nat), s8 = .int .i64 (y : Int) ∧ y ≤ 62 ∧ wx = w7)
    case first =>
      cases p7 with
      | false =>
        go_wp2_with fail
        go_meet
        case rel => exact ⟨z, rfl, by omega, rfl⟩
      | true =>
        go_wp2_with fail
        go_meet
        case rel => exact ⟨z + 1, by go_num, by omega, rfl⟩
    case rest =>
      obtain ⟨y, rfl, hy, hwc⟩ := hcut
      subst hwc
      have HKQ : Hid (LQ wc K wc.heap.size x z F) := hK7
      have HG : Hid (Drh w wc a len cap n7 l M) := G7
      have ct := G7.cur.drew
      have hMw : M < wc.heap.size := G7.m.lt
      have hMs := G7.sz
      obtain ⟨x0, x1, x2, x3, x4, x5, x6⟩ := loop_at G7.m
      clear hK7
      go_wp2_with fail
      have t0 : Turns (w.heap.size + 1 + 1) (w.heap.size + 1 + 1 + 1) wc wc.drew := turns_of (Below.refl _ _).drew
      go_region_with (first | (go_at_call 42; refine (hold_any (w.heap.size + 1 + 1) a len cap n7 l _ ct (by omega)).mono ?_; rintro e w8 ⟨hh, n8, rfl, hn8, hc8, hT⟩; have t8 := t0.trans hT; have G8 := HG.out.turn t8 hc8; have hz8 : wc.heap.size ≤ w8.heap.size := t8.size; obtain ⟨z0, z1, z2, z3, z4, z5, z6⟩ := loop_at G8.m; have HT8 : Hid (Turns (w.heap.size + 1 + 1) (w.heap.size + 1 + 1 + 1) wc w8) := t8; have cu8 := G8.cur; clear hT t8 G8 hc8) | (go_at_call 41; refine (levels_any (w.heap.size + 1 + 1) a len cap n8 y _ cu8 (by omega) (by omega)).mono ?_; rintro e w9 ⟨v, cv, F9, n9, rfl, hq, hn9, hc9, hT⟩; have HQ9 : Hid (LQ w9 w8.heap.size w9.heap.size v y F9) := hq; have t9 := HT8.out.trans hT; have G9 := HG.out.turn t9 hc9; have HG9 : Hid (Drh w w9 a len cap n9 l M) := G9; have HT9 : Hid (Turns (w.heap.size + 1 + 1) (w.heap.size + 1 + 1 + 1) wc w9) := t9; obtain ⟨u0, u1, u2, u3, u4, u5, u6⟩ := loop_at G9.m; obtain ⟨y0, y1, y2, y3, y4, y5, y6⟩ := loop_at G9.r0; obtain ⟨v0, v1, v2, v3⟩ := hold_at G9.r1; have f0 := G9.r0.fz 0; have f1 := G9.r0.fz 1; have f2 := G9.r0.fz 2; have f3 := G9.r0.fz 3; have f4 := G9.r0.fz 4; have f5 := G9.r0.fz 5; have f6 := G9.r0.fz 6; have k0 := G9.r1.fz 0; have k1 := G9.r1.fz 1; have k2 := G9.r1.fz 2; have k3 := G9.r1.fz 3; clear hT t9 hq hc9 G9) | (fail))
      all_goals
        have G9 := HG9.out
        have hm8 : w.heap.size + 1 < w8.heap.size := by omega
        have hq := (lq_four (lq_seven HQ9.out (b := w.heap.size) (.inl (by omega)) (.int .i64 l.P) (.int .i64 l.I) (.int .i64 l.D) (.int .i64 l.S) (.int .i64 l.M) (.int .i64 l.W) (.int .i64 l.L)) (b := w.heap.size + 1) (.inl hm8) (.bool hh.on) (.int .i64 hh.sum) (.int .i64 hh.last) (.int .i64 hh.out)).il
        have hk := (lq_four (lq_seven (HKQ.out.turns HT9.out (.inr (by omega))) (b := w.heap.size) (.inl (by omega)) (.int .i64 l.P) (.int .i64 l.I) (.int .i64 l.D) (.int .i64 l.S) (.int .i64 l.M) (.int .i64 l.W) (.int .i64 l.L)) (b := w.heap.size + 1) (.inl (by omega)) (.bool hh.on) (.int .i64 hh.sum) (.int .i64 hh.last) (.int .i64 hh.out)).il
        have hBE := below_four (below_seven G9.be (Nat.le_refl w.heap.size) (.int .i64 l.P) (.int .i64 l.I) (.int .i64 l.D) (.int .i64 l.S) (.int .i64 l.M) (.int .i64 l.W) (.int .i64 l.L)) (b := w.heap.size + 1) (by omega) (.bool hh.on) (.int .i64 hh.sum) (.int .i64 hh.last) (.int .i64 hh.out)
        go_wp2
        exact ret_dh rfl rfl (bx_four (G9.r0.set7 l) (by omega) _ _ _ _) rfl ((bx_seven G9.r1 (by omega) _ _ _ _ _ _ _).set4 hh) rfl ⟨l, hh, x, z, cx, F, v, y, cv, F9, rfl, hk, hq, by omega, by omega, hBE⟩
end Go.Proofs.Ytnoaonflphameaa
