/- DrawBookLane (tools/gen_bkdl.py). -/
import Derived.Test.YtdpblholoogikaaBkDr
import Derived.Test.YtdpblholoogikaaBlI
import Derived.Test.YtdpblholoogikaaBkFfS
import Derived.Test.YtdpblholoogikaaCurNew
import Derived.Test.YtdpblholoogikaaByOpen
namespace Go.Proofs.Ytdpblholoogikaa
open Go.RowKit
/-- drawn: bookings and one more -/
def AnsDbk (w w' : World) (e : Ending) : Prop := ∃ (N : Nat) (p : Option Addr) (c : Nat) (G : Nat → Int) (x y z u : Int), e = .returned (.tuple #[.slice p N c, bkv x y z u]) ∧ N ≤ 41 ∧ InB w' p N c G ∧ Below w.heap.size w w'
theorem sFree_any (a : Option Addr) (n c : Nat) (F : Nat → Int) (lane from_ long : Int) (w : World) (hn : n ≤ 1048576) (h : IL w a (n * 4) F) :
    Calls Try.prog 10 #[.slice a n c, .int .i64 lane, .int .i64 from_, .int .i64 long] w fun e w' => ∃ (v : Int) (q : Bool), e = .returned (.tuple #[.int .i64 v, .bool q]) ∧ (0 ≤ v ∧ v ≤ 10000) ∧ Below w.heap.size w w' := by
  cases e : ffO n F lane from_ long with
  | false => exact (sFree_no a n c F lane from_ long w hn h e).mono fun e w' ⟨h1, h2⟩ => ⟨0, false, h1, by omega, h2⟩
  | true =>
    obtain ⟨e1, _, e3, _⟩ := ffO_t e
    have hb := ffK_in (lane := lane) (long := long) (bsB_t e1).2 e3 n (Nat.le_refl _)
    refine (sFree_in a n c F lane from_ long w hn h e).mono fun e w' ⟨h1, h2⟩ => ⟨_, _, h1, ?_, h2⟩
    unfold ffV
    split <;> omega
theorem ret_lb {fn : Func} {t t1 : Tmp} {R : Ending → World → Prop} {a : Act} {w : World} {b : Nat} {x y z u : Value} (h : fn.results = #[.tmp t1, .cell t 25]) (hp : a.tmps.getD t undef = .pointer (some ⟨b, 0, none⟩)) (c : Bx w b [x, y, z, u]) (hd : a.defers = [])
    (hR : R (.returned (.tuple #[a.tmps.getD t1 undef, .agg #[x, y, z, u]])) w) : bodyPost Try.prog fn R .ret a w := by
  refine bodyPost_ret ?_ hd hR
  have hp' : a.tmps[t]?.getD undef = .pointer (some ⟨b, 0, none⟩) := by simpa using hp
  have c3 : w.cell? ⟨b, 3, none⟩ = some u := c.c 3 (show 3 < 4 by omega)
  simp [results, h, hp', asAddr, loadVar, go_sem, c.c0, c.c1, c.c2, c3]
theorem ow_inb {w : World} {base n c : Nat} {p : Option Addr} {G : Nat → Int} (h : w.ownsRow base 25 4 (.slice p n c) n (vL G (n * 4))) : InB w p n c G := by
  have h' := h
  obtain ⟨_, ⟨h1, h2⟩ | ⟨g, cap, cur, h1, h2, h3, h4, _⟩⟩ := h
  · cases h1; exact ⟨IL.none _ _, Nat.le_refl _, .inl ⟨rfl, rfl, rfl⟩⟩
  · cases h1
    exact ⟨fun _ => ⟨g, 0, rfl, (World.ownsRow.lt h' g rfl).2, fun i hi => by rw [Nat.zero_add, World.ownsRow.cellAt h' i hi]; exact vL_get hi⟩, h4, .inr ⟨_, _, rfl⟩⟩
set_option maxRecDepth 20000 in
set_option maxHeartbeats 8000000 in
theorem drawBk (a : Option Addr) (len cap : Nat) (w : World) (hl : len ≤ 1048576) (hb : BL w a len) :
    Calls Try.prog 4 #[.slice a len cap] w fun e w' => AnsDbk w w' e := by
  have hbz : Below w.heap.size w (w.alloc (.cells #[.int .i64 0, .int .i64 0, .int .i64 0, .int .i64 0] 25)) := (Below.refl _ _).alloc (Nat.le_refl _) _
  have hz0 := bk_box w 0 0 0 0 25
  have hb1 : BL (w.alloc (.cells #[.int .i64 0, .int .i64 0, .int .i64 0, .int .i64 0] 25)) a len := fun h0 => by
    obtain ⟨b, off, e, h1, h2⟩ := hb h0
    exact ⟨b, off, e, by simp; omega, fun i hi => by obtain ⟨v, hv, hv2⟩ := h2 i hi; exact ⟨v, (hbz.cell (p := ⟨b, _, none⟩) h1).trans hv, hv2⟩⟩
  go_enter Try.func4, Try.ntmps4
  go_upto_region 1 with fail
  generalize w.alloc (.cells #[.int .i64 0, .int .i64 0, .int .i64 0, .int .i64 0] 25) = wz at *
  have hzl := hz0.lt
  have hcur := cur_new wz a len cap hl hb1
  have hBc : Below wz.heap.size wz (wz.alloc (.cells #[.slice a len cap, .int .i64 0, .int .u64 0] 41)) := (Below.refl _ _).alloc (Nat.le_refl _) _
  have hz0 := hz0.on hBc
  have hB0 := hbz.trans (hBc.mono (by omega))
  clear hbz hBc hb hb1
  go_upto_region 2 with fail
  generalize wz.alloc (.cells #[.slice a len cap, .int .i64 0, .int .u64 0] 41) = w0 at *
  generalize wz.heap.size = C at *
  have hC := hcur.lt
  have hzC : w.heap.size ≠ C := by omega
  go_wp2_with fail
  refine (books_any C a len cap 0 _ hcur (by omega)).mono ?_
  rintro e wa ⟨na, N, p, c, G, rfl, hN, hO, hna, hca, hTa⟩
  have hE0 : Eb w0 wa C a len cap na (.slice p N c) N G := ⟨hca, hO, hTa⟩
  have hB0 := hB0.trans (hTa.below (by omega) (by omega))
  have hz0 := hz0.turns hTa (by omega)
  clear hcur hO hca hTa
  go_wp2_with fail
  refine (pick_any C a len cap _ _ _ hE0.cur (by omega)).mono ?_
  rintro e w1 ⟨v1, n1, rfl, p1, q1, -, m1, hc1, hO1⟩
  have q1 := q1 (by omega)
  have hE1 := hE0.step hc1 hO1 hC
  have hB1 := hB0.trans (hO1.below.mono (by omega))
  have hz1 := bx_same hz0 (by rw [hO1.size]; exact Nat.le_refl _) (hO1.block w.heap.size hzC)
  clear hE0 hB0 hz0 hc1 hO1
  go_wp2_with fail
  refine (pick_any C a len cap _ _ _ hE1.cur (by omega)).mono ?_
  rintro e w2 ⟨v2, n2, rfl, p2, q2, -, m2, hc2, hO2⟩
  have q2 := q2 (by omega)
  have hE2 := hE1.step hc2 hO2 hC
  have hB2 := hB1.trans (hO2.below.mono (by omega))
  have hz2 := bx_same hz1 (by rw [hO2.size]; exact Nat.le_refl _) (hO2.block w.heap.size hzC)
  clear hE1 hB1 hz1 hc2 hO2
  go_wp2_with fail
  refine (pick_any C a len cap _ _ _ hE2.cur (by omega)).mono ?_
  rintro e w3 ⟨v3, n3, rfl, p3, q3, -, m3, hc3, hO3⟩
  have q3 := q3 (by omega)
  have hE3 := hE2.step hc3 hO3 hC
  have hB3 := hB2.trans (hO3.below.mono (by omega))
  have hz3 := bx_same hz2 (by rw [hO3.size]; exact Nat.le_refl _) (hO3.block w.heap.size hzC)
  clear hE2 hB2 hz2 hc3 hO3
  have hbn := bk_box w3 v1 v2 0 v3 25
  have hBn : Below w3.heap.size w3 (w3.alloc (.cells #[.int .i64 v1, .int .i64 v2, .int .i64 0, .int .i64 v3] 25)) := (Below.refl _ _).alloc (Nat.le_refl _) _
  have hE4 := hE3.below hBn hC
  have hB4 := hB3.trans (hBn.mono hB3.size)
  have hz4 := hz3.on hBn
  have HNE : Hid (∀ q, Value.ownBlock (.slice p N c) = some q → q ≠ w3.heap.size) := fun q hq => Nat.ne_of_lt (World.ownsRow.lt hE3.own q hq).2
  have hw0 : w0.heap.size ≤ w3.heap.size := hE3.t.size
  have hw1 := hB3.size
  clear hE3 hB3 hz3 hBn
  go_upto_region 4 with fail
  generalize w3.alloc (.cells #[.int .i64 v1, .int .i64 v2, .int .i64 0, .int .i64 v3] 25) = w4 at *
  generalize w3.heap.size = bb at *
  have hb4 := hbn
  clear hbn
  have hbC : bb ≠ C := by omega
  have c1 : w4.drew.cell? ⟨bb, 1, none⟩ = some (.int .i64 v2) := hb4.c1
  have c2 : w4.drew.cell? ⟨bb, 2, none⟩ = some (.int .i64 0) := hb4.c2
  have f2 : w4.drew.frozen? ⟨bb, 2, none⟩ = false := hb4.fz 2
  have hEd := hE4.below ((Below.refl _ _).drew) hC
  have hBd := hB4.drew
  have hzd := hz4.on ((Below.refl _ _).drew)
  have hbd := hb4.on ((Below.refl _ _).drew)
  clear hE4 hB4 hz4 hb4
  go_region_held3 (fun w' => w'.cell? ⟨bb, 1, none⟩ = some (.int .i64 v2))
    (first | (exact c1) | (exact c1b) | (exact (World.cell?_setCell_other _ _ _ _ (by simp)).trans c1b) | (fail))
    (first | (go_at_call 15; refine (pick_any C a len cap _ _ _ hEd.cur (by omega)).mono ?_; rintro e w5 ⟨v5, n5, rfl, p5, q5, -, m5, hc5, hO5⟩; have q5 := q5 (by omega); have c1b := (cell_same (hO5.block bb hbC) 1).trans c1; have c2b := (cell_same (hO5.block bb hbC) 2).trans c2; have f2b := (frozen_same (hO5.block bb hbC) 2).trans f2) | (fail))
  clear c1 c2 f2 c1b c2b f2b
  have hE5 := hEd.step hc5 hO5 hC
  have hB5 := hBd.trans (hO5.below.mono (by omega))
  have hz5 := bx_same hzd (by rw [hO5.size]; exact Nat.le_refl _) (hO5.block w.heap.size hzC)
  have hb5 := bx_same hbd (by rw [hO5.size]; exact Nat.le_refl _) (hO5.block bb hbC)
  clear hEd hBd hzd hbd hO5 hc5
  generalize IntKind.i64.wrap (IntKind.i64.wrap (v2 + 1) + v5) = tt at *
  have hOb := (Only.refl bb w5).set 2 (.int .i64 (tt))
  have hb6 : Bx (w5.setCell ⟨bb, 2, none⟩ (.int .i64 (tt))) bb [.int .i64 (v1), .int .i64 (v2), .int .i64 (tt), .int .i64 (v3)] := hb5.set 2 (by simp) (.int .i64 (tt))
  have hE6 : Eb w0 (w5.setCell ⟨bb, 2, none⟩ (.int .i64 (tt))) C a len cap _ (.slice p N c) N G := ⟨hE5.cur.below hOb.below (by omega), own_same hE5.own (fun g hg => hOb.block g (HNE.out g hg)), tn_below hE5.t hOb.below (by omega)⟩
  have hB6 := hB5.trans (hOb.below.mono (show w.heap.size ≤ bb by omega))
  have hz6 := bx_same hz5 (by rw [hOb.size]; exact Nat.le_refl _) (hOb.block w.heap.size (by omega))
  skip
  generalize w5.setCell ⟨bb, 2, none⟩ (.int .i64 (tt)) = w6 at *
  clear hE5 hB5 hz5 hb5 hOb
  go_wp2_with fail
  refine (one_any C a len cap _ _ _ hE6.cur (by omega)).mono ?_
  rintro e w7 ⟨q7, n7, rfl, m7, hc7, hO7⟩
  have hE7 := hE6.step hc7 hO7 hC
  have hB7 := hB6.trans (hO7.below.mono (by omega))
  have hz7 := bx_same hz6 (by rw [hO7.size]; exact Nat.le_refl _) (hO7.block w.heap.size hzC)
  have hb7 := bx_same hb6 (by rw [hO7.size]; exact Nat.le_refl _) (hO7.block bb hbC)
  clear hE6 hB6 hz6 hc7 hO7 hb6
  cases q7 with
  | false =>
    go_wp2_with fail
    refine (one_any C a len cap _ _ _ hE7.cur (by omega)).mono ?_
    rintro e w8 ⟨q8, n8, rfl, m8, hc8, hO8⟩
    have hE8 := hE7.step hc8 hO8 hC
    have hB8 := hB7.trans (hO8.below.mono (by omega))
    have hz8 := bx_same hz7 (by rw [hO8.size]; exact Nat.le_refl _) (hO8.block w.heap.size hzC)
    have hb8 := bx_same hb7 (by rw [hO8.size]; exact Nat.le_refl _) (hO8.block bb hbC)
    clear hE7 hB7 hz7 hc8 hO8 hb7
    cases q8 with
    | false =>
      obtain ⟨y0, y1, y2, y3⟩ := bx_four4 hb8
      obtain ⟨z0, z1, z2, z3⟩ := bx_four4 hz8
      have g0 := hz8.fz 0
      have g1 := hz8.fz 1
      have g2 := hz8.fz 2
      have g3 := hz8.fz 3
      have hZf := (bx_set4 hz8 (.int .i64 (v1)) (.int .i64 (v2)) (.int .i64 (tt)) (.int .i64 (v3))).on ((Below.refl _ _).drew)
      have hBf := (below_set4 hB8 (Nat.le_refl _) (.int .i64 (v1)) (.int .i64 (v2)) (.int .i64 (tt)) (.int .i64 (v3))).drew
      have hOz := ((((Only.refl w.heap.size w8).set 0 (.int .i64 (v1))).set 1 (.int .i64 (v2))).set 2 (.int .i64 (tt))).set 3 (.int .i64 (v3))
      have HI : Hid (InB ((((w8.setCell ⟨w.heap.size, 0, none⟩ (.int .i64 (v1))).setCell ⟨w.heap.size, 1, none⟩ (.int .i64 (v2))).setCell ⟨w.heap.size, 2, none⟩ (.int .i64 (tt))).setCell ⟨w.heap.size, 3, none⟩ (.int .i64 (v3))).drew p N c G) := ow_inb (own_same hE8.own (fun g hg => hOz.block g (by have := (World.ownsRow.lt hE8.own g hg).1; omega)))
      clear hE8 hOz
      go_wp2
      go_region
      go_wp2
      exact ret_lb rfl rfl hZf rfl ⟨N, p, c, G, _, _, _, _, rfl, hN, HI.out, hBf⟩
    | true =>
      have hBa : Below w8.heap.size w8 (w8.alloc (.cells #[.int .i64 (-1), .int .i64 10, .int .i64 9] 3)) := (Below.refl _ _).alloc (Nat.le_refl _) _
      have hE9 := hE8.below hBa hC
      have hB9 := hB8.trans (hBa.mono hB8.size)
      have hz9 := hz8.on hBa
      have hb9 := hb8.on hBa
      have hI := ip3 w8 (-1) 10 9
      have hlC : w8.heap.size ≠ C := by have := hE8.cur.lt; omega
      clear hE8 hB8 hz8 hb8 hBa
      go_wp2_with fail
      refine (among_any C a len cap _ w8.heap.size 3 3 _ _ hE9.cur (by omega) hI hlC (by omega) (by omega)).mono ?_
      rintro e w10 ⟨i10, n10, hi10, rfl, m10, hc10, hO10⟩
      have hE10 := hE9.step hc10 hO10 hC
      have hB10 := hB9.trans (hO10.below.mono (by omega))
      have hz10 := bx_same hz9 (by rw [hO10.size]; exact Nat.le_refl _) (hO10.block w.heap.size hzC)
      have hb10 := bx_same hb9 (by rw [hO10.size]; exact Nat.le_refl _) (hO10.block bb hbC)
      clear hE9 hB9 hz9 hc10 hO10 hb9
      clear hI hlC
      generalize (if i10 = 0 then (-1 : Int) else if i10 = 1 then 10 else 9) = lx at *
      have x0 := hb10.c0
      have f0 := hb10.fz 0
      have hOb := (Only.refl bb w10).set 0 (.int .i64 (lx))
      have hb11 : Bx (w10.setCell ⟨bb, 0, none⟩ (.int .i64 (lx))) bb [.int .i64 (lx), .int .i64 (v2), .int .i64 (tt), .int .i64 (v3)] := hb10.set 0 (by simp) (.int .i64 (lx))
      have hE11 : Eb w0 (w10.setCell ⟨bb, 0, none⟩ (.int .i64 (lx))) C a len cap _ (.slice p N c) N G := ⟨hE10.cur.below hOb.below (by omega), own_same hE10.own (fun g hg => hOb.block g (HNE.out g hg)), tn_below hE10.t hOb.below (by omega)⟩
      have hB11 := hB10.trans (hOb.below.mono (show w.heap.size ≤ bb by omega))
      have hz11 := bx_same hz10 (by rw [hOb.size]; exact Nat.le_refl _) (hOb.block w.heap.size (by omega))
      go_upto_region 11 with fail
      generalize w10.setCell ⟨bb, 0, none⟩ (.int .i64 (lx)) = w11 at *
      clear hE10 hB10 hz10 hb10 hOb
      clear x0 f0
      obtain ⟨y0, y1, y2, y3⟩ := bx_four4 hb11
      obtain ⟨z0, z1, z2, z3⟩ := bx_four4 hz11
      have g0 := hz11.fz 0
      have g1 := hz11.fz 1
      have g2 := hz11.fz 2
      have g3 := hz11.fz 3
      have hZf := (bx_set4 hz11 (.int .i64 (lx)) (.int .i64 (v2)) (.int .i64 (tt)) (.int .i64 (v3))).on ((Below.refl _ _).drew)
      have hBf := (below_set4 hB11 (Nat.le_refl _) (.int .i64 (lx)) (.int .i64 (v2)) (.int .i64 (tt)) (.int .i64 (v3))).drew
      have hOz := ((((Only.refl w.heap.size w11).set 0 (.int .i64 (lx))).set 1 (.int .i64 (v2))).set 2 (.int .i64 (tt))).set 3 (.int .i64 (v3))
      have HI : Hid (InB ((((w11.setCell ⟨w.heap.size, 0, none⟩ (.int .i64 (lx))).setCell ⟨w.heap.size, 1, none⟩ (.int .i64 (v2))).setCell ⟨w.heap.size, 2, none⟩ (.int .i64 (tt))).setCell ⟨w.heap.size, 3, none⟩ (.int .i64 (v3))).drew p N c G) := ow_inb (own_same hE11.own (fun g hg => hOz.block g (by have := (World.ownsRow.lt hE11.own g hg).1; omega)))
      clear hE11 hOz
      go_wp2
      go_region
      go_wp2
      exact ret_lb rfl rfl hZf rfl ⟨N, p, c, G, _, _, _, _, rfl, hN, HI.out, hBf⟩
  | true =>
    have x0 := hb7.c0
    have x1 := hb7.c1
    go_wp2_with fail
    refine (sFree_any p N c G _ _ _ _ (by omega) (ow_inb hE7.own).1).mono ?_
    rintro e w12 ⟨v12, q12, rfl, hv12, hbb⟩
    have hE12 := hE7.below hbb hC
    have hB12 := hB7.trans (hbb.mono hB7.size)
    have hz12 := hz7.on hbb
    have hb12 := hb7.on hbb
    clear hE7 hB7 hz7 hb7 hbb x0 x1
    have x1 := hb12.c1
    have f1 := hb12.fz 1
    have hOb := (Only.refl bb w12).set 1 (.int .i64 (v12))
    have hb13 : Bx (w12.setCell ⟨bb, 1, none⟩ (.int .i64 (v12))) bb [.int .i64 (v1), .int .i64 (v12), .int .i64 (tt), .int .i64 (v3)] := hb12.set 1 (by simp) (.int .i64 (v12))
    have hE13 : Eb w0 (w12.setCell ⟨bb, 1, none⟩ (.int .i64 (v12))) C a len cap _ (.slice p N c) N G := ⟨hE12.cur.below hOb.below (by omega), own_same hE12.own (fun g hg => hOb.block g (HNE.out g hg)), tn_below hE12.t hOb.below (by omega)⟩
    have hB13 := hB12.trans (hOb.below.mono (show w.heap.size ≤ bb by omega))
    have hz13 := bx_same hz12 (by rw [hOb.size]; exact Nat.le_refl _) (hOb.block w.heap.size (by omega))
    go_upto_region 8 with fail
    generalize w12.setCell ⟨bb, 1, none⟩ (.int .i64 (v12)) = w13 at *
    clear hE12 hB12 hz12 hb12 hOb
    clear x1 f1
    have x1 := hb13.c1
    have x2 := hb13.c2
    have f2 := hb13.fz 2
    have hOb := (Only.refl bb w13).set 2 (.int .i64 (v12 + 3))
    have hb14 : Bx (w13.setCell ⟨bb, 2, none⟩ (.int .i64 (v12 + 3))) bb [.int .i64 (v1), .int .i64 (v12), .int .i64 (v12 + 3), .int .i64 (v3)] := hb13.set 2 (by simp) (.int .i64 (v12 + 3))
    have hE14 : Eb w0 (w13.setCell ⟨bb, 2, none⟩ (.int .i64 (v12 + 3))) C a len cap _ (.slice p N c) N G := ⟨hE13.cur.below hOb.below (by omega), own_same hE13.own (fun g hg => hOb.block g (HNE.out g hg)), tn_below hE13.t hOb.below (by omega)⟩
    have hB14 := hB13.trans (hOb.below.mono (show w.heap.size ≤ bb by omega))
    have hz14 := bx_same hz13 (by rw [hOb.size]; exact Nat.le_refl _) (hOb.block w.heap.size (by omega))
    go_upto_region 9 with fail
    generalize w13.setCell ⟨bb, 2, none⟩ (.int .i64 (v12 + 3)) = w14 at *
    clear hE13 hB13 hz13 hb13 hOb
    clear x1 x2 f2
    go_wp2_with fail
    refine (one_any C a len cap _ _ _ hE14.cur (by omega)).mono ?_
    rintro e w15 ⟨q15, n15, rfl, m15, hc15, hO15⟩
    have hE15 := hE14.step hc15 hO15 hC
    have hB15 := hB14.trans (hO15.below.mono (by omega))
    have hz15 := bx_same hz14 (by rw [hO15.size]; exact Nat.le_refl _) (hO15.block w.heap.size hzC)
    have hb15 := bx_same hb14 (by rw [hO15.size]; exact Nat.le_refl _) (hO15.block bb hbC)
    clear hE14 hB14 hz14 hc15 hO15 hb14
    cases q15 with
    | false =>
      obtain ⟨y0, y1, y2, y3⟩ := bx_four4 hb15
      obtain ⟨z0, z1, z2, z3⟩ := bx_four4 hz15
      have g0 := hz15.fz 0
      have g1 := hz15.fz 1
      have g2 := hz15.fz 2
      have g3 := hz15.fz 3
      have hZf := (bx_set4 hz15 (.int .i64 (v1)) (.int .i64 (v12)) (.int .i64 (v12 + 3)) (.int .i64 (v3))).on ((Below.refl _ _).drew)
      have hBf := (below_set4 hB15 (Nat.le_refl _) (.int .i64 (v1)) (.int .i64 (v12)) (.int .i64 (v12 + 3)) (.int .i64 (v3))).drew
      have hOz := ((((Only.refl w.heap.size w15).set 0 (.int .i64 (v1))).set 1 (.int .i64 (v12))).set 2 (.int .i64 (v12 + 3))).set 3 (.int .i64 (v3))
      have HI : Hid (InB ((((w15.setCell ⟨w.heap.size, 0, none⟩ (.int .i64 (v1))).setCell ⟨w.heap.size, 1, none⟩ (.int .i64 (v12))).setCell ⟨w.heap.size, 2, none⟩ (.int .i64 (v12 + 3))).setCell ⟨w.heap.size, 3, none⟩ (.int .i64 (v3))).drew p N c G) := ow_inb (own_same hE15.own (fun g hg => hOz.block g (by have := (World.ownsRow.lt hE15.own g hg).1; omega)))
      clear hE15 hOz
      go_wp2
      go_region
      go_wp2
      exact ret_lb rfl rfl hZf rfl ⟨N, p, c, G, _, _, _, _, rfl, hN, HI.out, hBf⟩
    | true =>
      have hBa : Below w15.heap.size w15 (w15.alloc (.cells #[.int .i64 (-1), .int .i64 10, .int .i64 9] 3)) := (Below.refl _ _).alloc (Nat.le_refl _) _
      have hE16 := hE15.below hBa hC
      have hB16 := hB15.trans (hBa.mono hB15.size)
      have hz16 := hz15.on hBa
      have hb16 := hb15.on hBa
      have hI := ip3 w15 (-1) 10 9
      have hlC : w15.heap.size ≠ C := by have := hE15.cur.lt; omega
      clear hE15 hB15 hz15 hb15 hBa
      go_wp2_with fail
      refine (among_any C a len cap _ w15.heap.size 3 3 _ _ hE16.cur (by omega) hI hlC (by omega) (by omega)).mono ?_
      rintro e w17 ⟨i17, n17, hi17, rfl, m17, hc17, hO17⟩
      have hE17 := hE16.step hc17 hO17 hC
      have hB17 := hB16.trans (hO17.below.mono (by omega))
      have hz17 := bx_same hz16 (by rw [hO17.size]; exact Nat.le_refl _) (hO17.block w.heap.size hzC)
      have hb17 := bx_same hb16 (by rw [hO17.size]; exact Nat.le_refl _) (hO17.block bb hbC)
      clear hE16 hB16 hz16 hc17 hO17 hb16
      clear hI hlC
      generalize (if i17 = 0 then (-1 : Int) else if i17 = 1 then 10 else 9) = lx at *
      have x0 := hb17.c0
      have f0 := hb17.fz 0
      have hOb := (Only.refl bb w17).set 0 (.int .i64 (lx))
      have hb18 : Bx (w17.setCell ⟨bb, 0, none⟩ (.int .i64 (lx))) bb [.int .i64 (lx), .int .i64 (v12), .int .i64 (v12 + 3), .int .i64 (v3)] := hb17.set 0 (by simp) (.int .i64 (lx))
      have hE18 : Eb w0 (w17.setCell ⟨bb, 0, none⟩ (.int .i64 (lx))) C a len cap _ (.slice p N c) N G := ⟨hE17.cur.below hOb.below (by omega), own_same hE17.own (fun g hg => hOb.block g (HNE.out g hg)), tn_below hE17.t hOb.below (by omega)⟩
      have hB18 := hB17.trans (hOb.below.mono (show w.heap.size ≤ bb by omega))
      have hz18 := bx_same hz17 (by rw [hOb.size]; exact Nat.le_refl _) (hOb.block w.heap.size (by omega))
      go_upto_region 11 with fail
      generalize w17.setCell ⟨bb, 0, none⟩ (.int .i64 (lx)) = w18 at *
      clear hE17 hB17 hz17 hb17 hOb
      clear x0 f0
      obtain ⟨y0, y1, y2, y3⟩ := bx_four4 hb18
      obtain ⟨z0, z1, z2, z3⟩ := bx_four4 hz18
      have g0 := hz18.fz 0
      have g1 := hz18.fz 1
      have g2 := hz18.fz 2
      have g3 := hz18.fz 3
      have hZf := (bx_set4 hz18 (.int .i64 (lx)) (.int .i64 (v12)) (.int .i64 (v12 + 3)) (.int .i64 (v3))).on ((Below.refl _ _).drew)
      have hBf := (below_set4 hB18 (Nat.le_refl _) (.int .i64 (lx)) (.int .i64 (v12)) (.int .i64 (v12 + 3)) (.int .i64 (v3))).drew
      have hOz := ((((Only.refl w.heap.size w18).set 0 (.int .i64 (lx))).set 1 (.int .i64 (v12))).set 2 (.int .i64 (v12 + 3))).set 3 (.int .i64 (v3))
      have HI : Hid (InB ((((w18.setCell ⟨w.heap.size, 0, none⟩ (.int .i64 (lx))).setCell ⟨w.heap.size, 1, none⟩ (.int .i64 (v12))).setCell ⟨w.heap.size, 2, none⟩ (.int .i64 (v12 + 3))).setCell ⟨w.heap.size, 3, none⟩ (.int .i64 (v3))).drew p N c G) := ow_inb (own_same hE18.own (fun g hg => hOz.block g (by have := (World.ownsRow.lt hE18.own g hg).1; omega)))
      clear hE18 hOz
      go_wp2
      go_region
      go_wp2
      exact ret_lb rfl rfl hZf rfl ⟨N, p, c, G, _, _, _, _, rfl, hN, HI.out, hBf⟩
end Go.Proofs.Ytdpblholoogikaa
