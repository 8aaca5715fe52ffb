/- What FnPlant draws. -/
import Derived.Test.YthmjoeknkenfgaaHdLev
import Derived.Test.YthmjoeknkenfgaaCurNew
import Derived.Deep.RegionWith
namespace Go.Proofs.Ythmjoeknkenfgaa
open Go.RowKit

def AnsDP (w w' : World) (e : Ending) : Prop := ∃ (l : Lp) (ms : Int) (x : Option Addr) (m c : Nat) (F : Nat → Int), e = .returned (.tuple #[lv l, .int .i64 ms, .slice x m c]) ∧ IL w' x m F ∧ m ≤ 100 ∧ Below w.heap.size w w'
theorem ret_plant {fn : Func} {t u v : Tmp} {R : Ending → World → Prop} {a : Act} {w : World} {b : Nat} {l : Lp} (e : fn.results = #[.cell t 34, .tmp u, .tmp v]) (hp : a.tmps.getD t undef = .pointer (some ⟨b, 0, none⟩)) (c : Bx w b (lvs l)) (hd : a.defers = [])
    (hR : R (.returned (.tuple #[lv l, a.tmps.getD u undef, a.tmps.getD v undef])) w) : bodyPost Try.prog fn R .ret a w := by
  refine bodyPost_ret ?_ hd hR
  obtain ⟨x0, x1, x2, x3, x4, x5, x6⟩ := loop_at c
  have hp' : a.tmps[t]?.getD undef = .pointer (some ⟨b, 0, none⟩) := by simpa using hp
  simp [results, e, hp', asAddr, loadVar, go_sem, x0, x1, x2, x3, x4, x5, x6]
theorem lq_seven {w : World} {lo hi : Nat} {a : Option Addr} {n : Nat} {F : Nat → Int} (h : LQ w lo hi a n F) {b : Nat} (hn : b < lo ∨ hi ≤ b) (x y z u v r s : Value) : LQ (((((((w.setCell ⟨b, 0, none⟩ x).setCell ⟨b, 1, none⟩ y).setCell ⟨b, 2, none⟩ z).setCell ⟨b, 3, none⟩ u).setCell ⟨b, 4, none⟩ v).setCell ⟨b, 5, none⟩ r).setCell ⟨b, 6, none⟩ s) lo hi a n F :=
  lq_set (lq_set (lq_set (lq_set (lq_set (lq_set (lq_set h x hn) y hn) z hn) u hn) v hn) r hn) s hn
theorem bx_seven {w : World} {b b' : Nat} {vs : List Value} (h : Bx w b vs) (hn : b ≠ b') (x y z u v r s : Value) : Bx (((((((w.setCell ⟨b', 0, none⟩ x).setCell ⟨b', 1, none⟩ y).setCell ⟨b', 2, none⟩ z).setCell ⟨b', 3, none⟩ u).setCell ⟨b', 4, none⟩ v).setCell ⟨b', 5, none⟩ r).setCell ⟨b', 6, none⟩ s) b vs :=
  ((((((h.far _ hn).far _ hn).far _ hn).far _ hn).far _ hn).far _ hn).far _ hn
theorem keepS {W w2 : World} {C b : Nat} {l : Lp} (c0 : Bx W b (lvs l)) (k : Turns C (C + 1) W w2) (hC : C + 1 ≤ b) :
    w2.cell? ⟨b, 0, none⟩ = some (.int .i64 l.P) ∧ w2.cell? ⟨b, 1, none⟩ = some (.int .i64 l.I) ∧ w2.cell? ⟨b, 2, none⟩ = some (.int .i64 l.D) ∧ w2.cell? ⟨b, 3, none⟩ = some (.int .i64 l.S) ∧ w2.cell? ⟨b, 4, none⟩ = some (.int .i64 l.M) ∧ w2.cell? ⟨b, 5, none⟩ = some (.int .i64 l.W) ∧ w2.cell? ⟨b, 6, none⟩ = some (.int .i64 l.L) := loop_at (c0.turns k (.inr hC))

set_option maxHeartbeats 8000000 in
set_option maxRecDepth 20000 in
theorem drawPlant (a : Option Addr) (len cap : Nat) (w : World) (hl : len ≤ 1048576) (hb : 0 < len → ∃ b off, a = some ⟨b, off, none⟩ ∧ b < w.heap.size ∧ ∀ i, i < len → ∃ v : Int, w.cell? ⟨b, off + i, none⟩ = some (.int .u8 v) ∧ 0 ≤ v ∧ v ≤ 255) :
    Calls Try.prog 20 #[.slice a len cap] w fun e w' => AnsDP w w' e := by
  have hb0 : Below w.heap.size w (w.alloc (lvo lp0)) := (Below.refl _ _).alloc (Nat.le_refl _) _
  have r0 := bx_new (b := w.heap.size) (w := w) (lvs lp0) 34 rfl
  have hb' : 0 < len → ∃ b off, a = some ⟨b, off, none⟩ ∧ b < (w.alloc (lvo lp0)).heap.size ∧ ∀ i, i < len → ∃ v : Int, (w.alloc (lvo lp0)).cell? ⟨b, off + i, none⟩ = some (.int .u8 v) ∧ 0 ≤ v ∧ v ≤ 255 := fun h0 => by
    obtain ⟨b, off, ha, hbw, hc⟩ := hb h0
    refine ⟨b, off, ha, by rw [size_al]; omega, fun i hi => ?_⟩
    obtain ⟨v, hv, hv1⟩ := hc i hi
    exact ⟨v, (hb0.cell (p := ⟨b, _, none⟩) hbw).trans hv, hv1⟩
  have hc0 := cur_new (w.alloc (lvo lp0)) a len cap hl hb'
  have hbC : Below (w.alloc (lvo lp0)).heap.size (w.alloc (lvo lp0)) ((w.alloc (lvo lp0)).alloc (.cells #[.slice a len cap, .int .i64 0, .int .u64 0] 66)) := (Below.refl _ _).alloc (Nat.le_refl _) _
  have rc := r0.on hbC
  have hBc := stepA hb0 hbC
  rw [size_al] at hc0
  clear hb hb' hb0 r0 hbC
  have hC : w.heap.size + 1 < ((w.alloc (lvo lp0)).alloc (.cells #[.slice a len cap, .int .i64 0, .int .u64 0] 66)).heap.size := hc0.lt
  go_enter Try.func20, Try.ntmps20
  go_upto_region 2 with fail
  generalize (w.alloc (lvo lp0)).alloc (.cells #[.slice a len cap, .int .i64 0, .int .u64 0] 66) = w0 at rc hc0 hBc hC ⊢
  go_wp2_with fail
  refine (loop_any (w.heap.size + 1) a len cap 0 _ hc0 (by omega)).mono ?_
  rintro e w1 ⟨l, n1, rfl, hn1, hc1, hT⟩
  have r1 := rc.turns hT (.inl (by omega))
  have hB1 := hBc.trans (hT.below (B := w.heap.size) (by omega) (by omega))
  have hs1 : w.heap.size + 1 < w1.heap.size := hc1.lt
  clear rc hc0 hBc hC hT
  go_upto_region 3 with fail
  have hA := (Below.refl w1.heap.size w1).alloc (Nat.le_refl _) (lvo l)
  have m2 := bx_new (b := w1.heap.size) (w := w1) (lvs l) 34 rfl
  have r2 := r1.on hA
  have hc2 := hc1.below hA hc1.lt
  have hB2 := stepA hB1 hA
  have hs2 : w1.heap.size < (w1.alloc (lvo l)).heap.size := by simp
  clear hA r1 hc1 hB1
  generalize w1.alloc (lvo l) = w2 at m2 r2 hc2 hB2 hs2 ⊢
  generalize w1.heap.size = M at m2 hs1 hs2 ⊢
  go_wp2_with fail
  refine (pick_any (w.heap.size + 1) a len cap n1 12 _ hc2 (by omega)).mono ?_
  rintro e w3 ⟨p3, n3, rfl, g3, q3, -, hn3, hc3, hO⟩
  have q3 := q3 (by omega)
  have m3 := m2.turns (on_turns hO) (.inr (by omega))
  have r3 := r2.turns (on_turns hO) (.inl (by omega))
  have hB3 := hB2.trans ((on_turns hO).below (B := w.heap.size) (by omega) (by omega))
  have hs3 : M < w3.heap.size := by rw [hO.size]; exact hs2
  clear m2 r2 hB2 hs2 hc2 hO
  go_wp2_with fail
  refine (one_any (w.heap.size + 1) a len cap n3 12 _ hc3 (by omega)).mono ?_
  rintro e w4 ⟨p4, n4, rfl, hn4, hc4, hO⟩
  have m4 := m3.turns (on_turns hO) (.inr (by omega))
  have r4 := r3.turns (on_turns hO) (.inl (by omega))
  have hB4 := hB3.trans ((on_turns hO).below (B := w.heap.size) (by omega) (by omega))
  have hs4 : M < w4.heap.size := by rw [hO.size]; exact hs3
  clear m3 r3 hB3 hs3 hc3 hO
  have HQ : Hid (∃ z : Nat, p3 = (z : Int) ∧ z ≤ 61) := ⟨p3.toNat, by omega, by omega⟩
  go_upto_if 17 with fail
  go_cut [7] from 18 to 20 (fun s7 wx => ∃ (z n5 : Nat), s7 = .int .i64 (z : Int) ∧ z ≤ 61 ∧ n5 ≤ 40 ∧ Cur wx (w.heap.size + 1) a len cap n5 ∧ Bx wx M (lvs l) ∧ Bx wx w.heap.size (lvs lp0) ∧ Below w.heap.size w wx ∧ M < wx.heap.size)
  case first =>
    cases p4 with
    | false =>
      go_wp2_with fail
      go_meet
      case rel =>
        obtain ⟨z, hz, hz2⟩ := HQ.out
        exact ⟨z, n4, by rw [hz], hz2, by omega, hc4, m4, r4, hB4, hs4⟩
    | true =>
      go_wp2_with fail
      refine (pick_any (w.heap.size + 1) a len cap n4 3 _ hc4 (by omega)).mono ?_
      rintro e w5 ⟨p5, n5, rfl, g5, q5, -, hn5, hc5, hO⟩
      have q5 := q5 (by omega)
      have m5 := m4.turns (on_turns hO) (.inr (by omega))
      have r5 := r4.turns (on_turns hO) (.inl (by omega))
      have hB5 := hB4.trans ((on_turns hO).below (B := w.heap.size) (by omega) (by omega))
      have hs5 : M < w5.heap.size := by rw [hO.size]; exact hs4
      clear m4 r4 hB4 hs4 hc4 hO
      go_wp2_with fail
      go_meet
      case rel => exact ⟨(59 + p5).toNat, n5, int_eq (by omega), by omega, by omega, hc5, m5, r5, hB5, hs5⟩
  case rest =>
    obtain ⟨z, n5, rfl, hz, hn5, hc5, m5, r5, hB5, hs5⟩ := hcut
    clear HQ m4 r4 hB4 hs4 hc4
    go_wp2_with fail
    refine (pick_any (w.heap.size + 1) a len cap n5 4 _ hc5 (by omega)).mono ?_
    rintro e w6 ⟨p6, n6, rfl, g6, q6, -, hn6, hc6, hO⟩
    have q6 := q6 (by omega)
    have m6 := m5.turns (on_turns hO) (.inr (by omega))
    have r6 := r5.turns (on_turns hO) (.inl (by omega))
    have hB6 := hB5.trans ((on_turns hO).below (B := w.heap.size) (by omega) (by omega))
    have hs6 : M < w6.heap.size := by rw [hO.size]; exact hs5
    clear m5 r5 hB5 hs5 hc5 hO
    go_wp2_with fail
    refine (one_any (w.heap.size + 1) a len cap n6 16 _ hc6 (by omega)).mono ?_
    rintro e w7 ⟨p7, n7, rfl, hn7, hc7, hO⟩
    have m7 := m6.turns (on_turns hO) (.inr (by omega))
    have r7 := r6.turns (on_turns hO) (.inl (by omega))
    have hB7 := hB6.trans ((on_turns hO).below (B := w.heap.size) (by omega) (by omega))
    have hs7 : M < w7.heap.size := by rw [hO.size]; exact hs6
    clear m6 r6 hB6 hs6 hc6 hO
    go_upto_if 25 with fail
    go_cut [8] from 26 to 28 (fun s8 wx => ∃ (y : Int) (n8 : Nat), s8 = .int .i64 y ∧ n8 ≤ 60 ∧ Cur wx (w.heap.size + 1) a len cap n8 ∧ Bx wx M (lvs l) ∧ Bx wx w.heap.size (lvs lp0) ∧ Below w.heap.size w wx ∧ M < wx.heap.size)
    case first =>
      cases p7 with
      | false =>
        go_wp2_with fail
        go_meet
        case rel => exact ⟨_, n7, rfl, by omega, hc7, m7, r7, hB7, hs7⟩
      | true =>
        have hL := lit_ip w7 [0, 1000, 1001] 3
        have hA := (Below.refl w7.heap.size w7).alloc (Nat.le_refl _) (.cells #[.int .i64 0, .int .i64 1000, .int .i64 1001] 3)
        have hcx := hc7.below hA hc7.lt
        have mx := m7.on hA
        have rx := r7.on hA
        have hBx := stepA hB7 hA
        have hsx : M < (w7.alloc (.cells #[.int .i64 0, .int .i64 1000, .int .i64 1001] 3)).heap.size := by simp; omega
        have hne : w7.heap.size ≠ w.heap.size + 1 := by omega
        clear hA hc7 m7 r7 hB7
        go_wp2_with fail
        refine (among_any (w.heap.size + 1) a len cap _ _ 3 _ _ _ hcx (by omega) hL hne (by omega) (by omega)).mono ?_
        rintro e w8 ⟨y8, n8, -, rfl, hn8, hc8, hO⟩
        have m8 := mx.turns (on_turns hO) (.inr (by omega))
        have r8 := rx.turns (on_turns hO) (.inl (by omega))
        have hB8 := hBx.trans ((on_turns hO).below (B := w.heap.size) (by omega) (by omega))
        have hs8 : M < w8.heap.size := by rw [hO.size]; exact hsx
        clear hcx mx rx hBx hO hL hne
        generalize List.getD [0, 1000, 1001] y8 (0 : Int) = y
        go_wp2_with fail
        go_meet
        case rel => exact ⟨_, n8, rfl, by omega, hc8, m8, r8, hB8, hs8⟩
    case rest =>
      obtain ⟨y, n8, rfl, hn8, hc8, m8, r8, hB8, hs8⟩ := hcut
      clear m7 r7 hB7 hs7 hc7
      obtain ⟨x0, x1, x2, x3, x4, x5, x6⟩ := loop_at m8
      go_wp2_with fail
      have t0 : Turns (w.heap.size + 1) (w.heap.size + 1 + 1) wc wc.drew := turns_of (Below.refl _ _).drew
      go_region_with (first | (go_at_call 47; refine (levels_any (w.heap.size + 1) a len cap n8 z _ hc8.drew (by omega) (by omega)).mono ?_; rintro e w9 ⟨x, cx, F, n9, rfl, hq, hn9, hc9, hT⟩; have HQ : Hid (LQ w9 wc.drew.heap.size w9.heap.size x z F) := hq; have t9 := t0.trans hT; have HT : Hid (Turns (w.heap.size + 1) (w.heap.size + 1 + 1) wc w9) := t9; have r9 := r8.turns t9 (.inl (by omega)); obtain ⟨y0, y1, y2, y3, y4, y5, y6⟩ := loop_at r9; obtain ⟨z0, z1, z2, z3, z4, z5, z6⟩ := loop_at (m8.turns t9 (.inr (by omega))); have f0 := r9.fz 0; have f1 := r9.fz 1; have f2 := r9.fz 2; have f3 := r9.fz 3; have f4 := r9.fz 4; have f5 := r9.fz 5; have f6 := r9.fz 6; clear hq hn9 hc9 hT t9) | (fail))
      all_goals
        have hq := HQ.out
        have t9 := HT.out
        have hlw : w.heap.size < wc.drew.heap.size := show w.heap.size < wc.heap.size by omega
        have hE := (lq_seven hq (b := w.heap.size) (.inl hlw) (.int .i64 l.P) (.int .i64 l.I) (.int .i64 l.D) (.int .i64 l.S) (.int .i64 l.M) (.int .i64 l.W) (.int .i64 l.L)).il
        have hBE := below_seven (hB8.trans (t9.below (B := w.heap.size) (by omega) (by omega))) (Nat.le_refl w.heap.size) (.int .i64 l.P) (.int .i64 l.I) (.int .i64 l.D) (.int .i64 l.S) (.int .i64 l.M) (.int .i64 l.W) (.int .i64 l.L)
        go_wp2
        exact ret_plant rfl rfl (r9.set7 l) rfl ⟨l, y, x, z, cx, F, rfl, hE, by omega, hBE⟩
end Go.Proofs.Ythmjoeknkenfgaa
