/- What FnHold draws: a hold. -/
import Derived.Test.YtnoaonflphameaaHdLev
import Derived.Test.YtnoaonflphameaaHdStepI
import Derived.Deep.RegionWith
namespace Go.Proofs.Ytnoaonflphameaa
open Go.RowKit

def AnsHd (w w' : World) (e : Ending) (C : Nat) (a : Option Addr) (len cap n : Nat) : Prop := ∃ (h : Hd) (n' : Nat), e = .returned (hv h) ∧ n' ≤ n + 20 ∧ Cur w' C a len cap n' ∧ Turns C (C + 1) w w'
/-- what stands while a hold is drawn: the loop's box, the answer's, the hold's -/
structure Hdr (w wx : World) (C : Nat) (a : Option Addr) (len cap n m : Nat) (l : Lp) (M : Nat) (h : Hd) : Prop where
  cur : Cur wx C a len cap m
  b0 : Bx wx w.heap.size (lvs l)
  b1 : Bx wx (w.heap.size + 1) (hvs hd0)
  bm : Bx wx M (hvs h)
  tr : Turns C (C + 1) w wx
theorem ret_hd {fn : Func} {t : Tmp} {R : Ending → World → Prop} {a : Act} {w : World} {b : Nat} {h : Hd} (e : fn.results = #[.cell t 36]) (hp : a.tmps.getD t undef = .pointer (some ⟨b, 0, none⟩)) (c : Bx w b (hvs h)) (hd : a.defers = [])
    (hR : R (.returned (hv h)) w) : bodyPost Try.prog fn R .ret a w := by
  refine bodyPost_ret ?_ hd hR
  obtain ⟨x0, x1, x2, x3⟩ := hold_at c
  have hp' : a.tmps[t]?.getD undef = .pointer (some ⟨b, 0, none⟩) := by simpa using hp
  simp [results, e, hp', asAddr, loadVar, go_sem, x0, x1, x2, x3]
theorem Hdr.turn {w wx w2 : World} {C : Nat} {a : Option Addr} {len cap n m m2 : Nat} {l : Lp} {M : Nat} {h : Hd} (g : Hdr w wx C a len cap n m l M h) (o : Only C wx w2) (c : Cur w2 C a len cap m2) (hC : C < w.heap.size) (hM : w.heap.size + 1 < M) : Hdr w w2 C a len cap n m2 l M h :=
  ⟨c, g.b0.turns (on_turns o) (.inr (by omega)), g.b1.turns (on_turns o) (.inr (by omega)), g.bm.turns (on_turns o) (.inr (by omega)), g.tr.trans (on_turns o)⟩
theorem Hdr.put {w wx : World} {C : Nat} {a : Option Addr} {len cap n m : Nat} {l : Lp} {M : Nat} {h h2 : Hd} (g : Hdr w wx C a len cap n m l M h) (j : Nat) (v : Value) (hb : Bx (wx.setCell ⟨M, j, none⟩ v) M (hvs h2)) (hC : C < w.heap.size) (hM : w.heap.size + 1 < M) : Hdr w (wx.setCell ⟨M, j, none⟩ v) C a len cap n m l M h2 := by
  have hbe : Below (w.heap.size + 1 + 1) wx (wx.setCell ⟨M, j, none⟩ v) := (Below.refl _ _).setCell (p := ⟨M, j, none⟩) (by simp; omega) _
  exact ⟨g.cur.below hbe (by omega), g.b0.below hbe (by omega), g.b1.below hbe (by omega), hb, turns_below g.tr (hbe.mono (by omega)) (Nat.le_refl _)⟩

set_option maxHeartbeats 8000000 in
set_option maxRecDepth 20000 in
theorem hold_any (C : Nat) (a : Option Addr) (len cap n : Nat) (l : Lp) (w : World) (h : Cur w C a len cap n) (hn : n ≤ 800000) :
    Calls Try.prog 42 #[.pointer (some ⟨C, 0, none⟩), lv l] w fun e w' => AnsHd w w' e C a len cap n := by
  have hC := h.lt
  have hA : Below w.heap.size w ((w.alloc (lvo l)).alloc (hvo hd0)) := ((Below.refl _ _).alloc (Nat.le_refl _) _).alloc (by simp) _
  have z0 : Bx ((w.alloc (lvo l)).alloc (hvo hd0)) w.heap.size (lvs l) := (bx_new (b := w.heap.size) (w := w) (lvs l) _ rfl).alloc _
  have z1 : Bx ((w.alloc (lvo l)).alloc (hvo hd0)) (w.heap.size + 1) (hvs hd0) := bx_new _ _ (by simp only [size_al])
  have hc0 := h.below hA hC
  have hT0 : Turns C (C + 1) w ((w.alloc (lvo l)).alloc (hvo hd0)) := turns_of hA
  clear h hA
  go_enter Try.func42, Try.ntmps42
  go_upto_region 1 with fail
  generalize (w.alloc (lvo l)).alloc (hvo hd0) = w0 at z0 z1 hc0 hT0 ⊢
  go_wp2_with fail
  refine (one_any C a len cap n _ _ hc0 (by omega)).mono ?_
  rintro e w1 ⟨q, n1, rfl, hn1, hc1, hO⟩
  have y0 := z0.turns (on_turns hO) (.inr (by omega))
  have y1 := z1.turns (on_turns hO) (.inr (by omega))
  have hT1 := hT0.trans (on_turns hO)
  clear z0 z1 hc0 hT0 hO
  cases q with
  | true =>
    obtain ⟨r0, r1, r2, r3⟩ := hold_at y1
    have f0 := y1.fz 0
    have f1 := y1.fz 1
    have f2 := y1.fz 2
    have f3 := y1.fz 3
    have hbe := below_four (Below.refl w.heap.size w1) (b := w.heap.size + 1) (by omega) (.bool false) (.int .i64 0) (.int .i64 0) (.int .i64 0)
    go_wp2
    exact ret_hd rfl rfl (y1.set4 hd0) rfl ⟨hd0, n1, rfl, by omega, hc1.below hbe (by omega), turns_below hT1 hbe (Nat.le_refl _)⟩
  | false =>
    go_wp2_with fail
    refine (pick_any C a len cap n1 41 _ hc1 (by omega)).mono ?_
    rintro e w2 ⟨p2, n2, rfl, g2, q2, -, hn2, hc2, hO⟩
    have q2 := q2 (by omega)
    have x0 := y0.turns (on_turns hO) (.inr (by omega))
    have x1 := y1.turns (on_turns hO) (.inr (by omega))
    have hT2 := hT1.trans (on_turns hO)
    clear y0 y1 hc1 hT1 hO
    go_upto_region 4 with fail
    have hA := (Below.refl w2.heap.size w2).alloc (Nat.le_refl _) (hvo ⟨true, 0, p2 - 20, 0⟩)
    have hM : w.heap.size + 1 < w2.heap.size := x1.lt
    have G : Hdr w (w2.alloc (hvo ⟨true, 0, p2 - 20, 0⟩)) C a len cap n n2 l w2.heap.size ⟨true, 0, p2 - 20, 0⟩ :=
      ⟨hc2.below hA hc2.lt, x0.on hA, x1.on hA, bx_new _ _ rfl, hT2.trans (turns_of hA)⟩
    clear x0 x1 hc2 hT2 hA
    generalize w2.alloc (hvo ⟨true, 0, p2 - 20, 0⟩) = w3 at G ⊢
    generalize w2.heap.size = M at G hM ⊢
    generalize hh : (⟨true, 0, p2 - 20, 0⟩ : Hd) = h3 at G
    clear hh
    have c3 := (loop_at G.b0).2.2.2.2.2.1
    go_upto_if 15 with fail
    go_cut [15] from 15 to 25 (fun sx wx => ∃ (m : Nat) (hx : Hd), m ≤ n + 6 ∧ Hdr w wx C a len cap n m l M hx)
    case first =>
      by_cases hp : 0 < l.W
      · go_wp2_with fail
        have ct := G.cur.drew
        go_region_with (first | (go_at_call 30; refine (pick_any C a len cap n2 _ _ ct (by omega)).mono ?_; rintro e w5 ⟨p5, n5, rfl, g5, -, q5, hn5, hc5, hO⟩; have hO2 : Only C w3 w5 := (Only.refl C w3).drew.trans hO; have G5 := G.turn hO2 hc5 hC hM; have HG5 : Hid (Hdr w w5 C a len cap n n5 l M h3) := G5; have k1 := (loop_at G5.b0).2.2.2.2.2.1; have k2 := G5.bm.at 1 rfl; have k3 := G5.bm.fz 1; clear G5 hO hO2 hc5) | (fail))
        all_goals
          go_wp2_with fail
          go_meet
          case rel => exact ⟨n5, _, by omega, HG5.out.put 1 _ (h2 := ⟨h3.on, IntKind.i64.wrap (p5 - l.W), h3.last, h3.out⟩) (HG5.out.bm.set 1 (by simp) _) hC hM⟩
      · go_wp2_with fail
        go_meet
        case rel => exact ⟨n2, h3, by omega, G⟩
    case rest =>
      obtain ⟨n3, h4, hn3, G3⟩ := hcut
      clear G
      have G := G3
      clear G3 c3
      generalize wc = w4 at G ⊢
      have c4 := (loop_at G.b0).2.2.2.2.1
      go_upto_if 28 with fail
      go_cut [28] from 28 to 38 (fun sx wx => ∃ (m : Nat) (hx : Hd), m ≤ n + 8 ∧ Hdr w wx C a len cap n m l M hx)
      case first =>
        by_cases hp : 0 < l.M
        · go_wp2_with fail
          have ct := G.cur.drew
          go_region_with (first | (go_at_call 30; refine (pick_any C a len cap n3 _ _ ct (by omega)).mono ?_; rintro e w5 ⟨p5, n5, rfl, g5, -, q5, hn5, hc5, hO⟩; have hO2 : Only C w4 w5 := (Only.refl C w4).drew.trans hO; have G5 := G.turn hO2 hc5 hC hM; have HG5 : Hid (Hdr w w5 C a len cap n n5 l M h4) := G5; have k1 := (loop_at G5.b0).2.2.2.2.1; have k2 := G5.bm.at 3 rfl; have k3 := G5.bm.fz 3; clear G5 hO hO2 hc5) | (fail))
          all_goals
            go_wp2_with fail
            go_meet
            case rel => exact ⟨n5, _, by omega, HG5.out.put 3 _ (h2 := ⟨h4.on, h4.sum, h4.last, IntKind.i64.wrap (p5 - l.M)⟩) (HG5.out.bm.set 3 (by simp) _) hC hM⟩
        · go_wp2_with fail
          go_meet
          case rel => exact ⟨n3, h4, by omega, G⟩
      case rest =>
        obtain ⟨n4, h5, hn4, G4⟩ := hcut
        clear G
        have G := G4
        clear G4 c4
        generalize wc = w5 at G ⊢
        go_wp2_with fail
        refine (pick_any C a len cap n4 24 _ G.cur (by omega)).mono ?_
        rintro e w6 ⟨p6, n6, rfl, g6, -, q6, hn6, hc6, hO⟩
        have G6 := G.turn hO hc6 hC hM
        clear G hc6 hO
        by_cases e0 : p6 = 0
        · subst e0
          have k1 := G6.bm.at 0 rfl
          have k2 := G6.bm.fz 0
          go_upto_region 15 with fail
          have G7 := G6.put 0 (.bool false) (h2 := ⟨false, h5.sum, h5.last, h5.out⟩) (G6.bm.set 0 (by simp) _) hC hM
          clear G6 k1 k2
          generalize w6.setCell ⟨M, 0, none⟩ (.bool false) = w7 at G7 ⊢
          generalize (⟨false, h5.sum, h5.last, h5.out⟩ : Hd) = h7 at G7
          obtain ⟨z0, z1, z2, z3⟩ := hold_at G7.bm
          obtain ⟨r0, r1, r2, r3⟩ := hold_at G7.b1
          have f0 := G7.b1.fz 0
          have f1 := G7.b1.fz 1
          have f2 := G7.b1.fz 2
          have f3 := G7.b1.fz 3
          have hbe := below_four (Below.refl w.heap.size w7) (b := w.heap.size + 1) (by omega) (.bool h7.on) (.int .i64 h7.sum) (.int .i64 h7.last) (.int .i64 h7.out)
          go_wp2
          exact ret_hd rfl rfl (G7.b1.set4 h7) rfl ⟨h7, n6, rfl, by omega, G7.cur.below hbe (by omega), turns_below G7.tr hbe (Nat.le_refl _)⟩
        by_cases e1 : p6 = 1
        · subst e1
          have k1 := G6.bm.at 1 rfl
          have k2 := G6.bm.fz 1
          have k3 := (loop_at G6.b0).2.2.2.2.2.1
          go_upto_region 15 with fail
          have G7 := G6.put 1 (.int .i64 (wrap64 (l.W + 1))) (h2 := ⟨h5.on, wrap64 (l.W + 1), h5.last, h5.out⟩) (G6.bm.set 1 (by simp) _) hC hM
          clear G6 k1 k2 k3
          generalize w6.setCell ⟨M, 1, none⟩ (.int .i64 (wrap64 (l.W + 1))) = w7 at G7 ⊢
          generalize (⟨h5.on, wrap64 (l.W + 1), h5.last, h5.out⟩ : Hd) = h7 at G7
          obtain ⟨z0, z1, z2, z3⟩ := hold_at G7.bm
          obtain ⟨r0, r1, r2, r3⟩ := hold_at G7.b1
          have f0 := G7.b1.fz 0
          have f1 := G7.b1.fz 1
          have f2 := G7.b1.fz 2
          have f3 := G7.b1.fz 3
          have hbe := below_four (Below.refl w.heap.size w7) (b := w.heap.size + 1) (by omega) (.bool h7.on) (.int .i64 h7.sum) (.int .i64 h7.last) (.int .i64 h7.out)
          go_wp2
          exact ret_hd rfl rfl (G7.b1.set4 h7) rfl ⟨h7, n6, rfl, by omega, G7.cur.below hbe (by omega), turns_below G7.tr hbe (Nat.le_refl _)⟩
        by_cases e2 : p6 = 2
        · subst e2
          have hL := lit_ip w6 [2000000, 2000001] 3
          have hA := (Below.refl w6.heap.size w6).alloc (Nat.le_refl _) (.cells #[.int .i64 2000000, .int .i64 2000001] 3)
          have GA : Hdr w (w6.alloc (.cells #[.int .i64 2000000, .int .i64 2000001] 3)) C a len cap n n6 l M h5 := ⟨G6.cur.below hA G6.cur.lt, G6.b0.on hA, G6.b1.on hA, G6.bm.on hA, G6.tr.trans (turns_of hA)⟩
          have hne : w6.heap.size ≠ C := Nat.ne_of_gt G6.cur.lt
          clear G6 hA
          go_wp2_with fail
          refine (among_any C a len cap _ _ 2 _ _ _ GA.cur (by omega) hL hne (by omega) (by omega)).mono ?_
          rintro e w7 ⟨y7, n7, -, rfl, hn7, hc7, hO⟩
          have G7 := GA.turn hO hc7 hC hM
          clear GA hL hne hc7 hO
          generalize List.getD [2000000, 2000001] y7 (0 : Int) = z
          have k1 := G7.bm.at 2 rfl
          have k2 := G7.bm.fz 2
          go_upto_region 15 with fail
          have G8 := G7.put 2 (.int .i64 z) (h2 := ⟨h5.on, h5.sum, z, h5.out⟩) (G7.bm.set 2 (by simp) _) hC hM
          clear G7 k1 k2
          generalize w7.setCell ⟨M, 2, none⟩ (.int .i64 z) = w8 at G8 ⊢
          generalize (⟨h5.on, h5.sum, z, h5.out⟩ : Hd) = h8 at G8
          obtain ⟨z0, z1, z2, z3⟩ := hold_at G8.bm
          obtain ⟨r0, r1, r2, r3⟩ := hold_at G8.b1
          have f0 := G8.b1.fz 0
          have f1 := G8.b1.fz 1
          have f2 := G8.b1.fz 2
          have f3 := G8.b1.fz 3
          have hbe := below_four (Below.refl w.heap.size w8) (b := w.heap.size + 1) (by omega) (.bool h8.on) (.int .i64 h8.sum) (.int .i64 h8.last) (.int .i64 h8.out)
          go_wp2
          exact ret_hd rfl rfl (G8.b1.set4 h8) rfl ⟨h8, n7, rfl, by omega, G8.cur.below hbe (by omega), turns_below G8.tr hbe (Nat.le_refl _)⟩
        obtain ⟨z0, z1, z2, z3⟩ := hold_at G6.bm
        obtain ⟨r0, r1, r2, r3⟩ := hold_at G6.b1
        have f0 := G6.b1.fz 0
        have f1 := G6.b1.fz 1
        have f2 := G6.b1.fz 2
        have f3 := G6.b1.fz 3
        have hbe := below_four (Below.refl w.heap.size w6) (b := w.heap.size + 1) (by omega) (.bool h5.on) (.int .i64 h5.sum) (.int .i64 h5.last) (.int .i64 h5.out)
        go_wp2
        exact ret_hd rfl rfl (G6.b1.set4 h5) rfl ⟨h5, n6, rfl, by omega, G6.cur.below hbe (by omega), turns_below G6.tr hbe (Nat.le_refl _)⟩
end Go.Proofs.Ytnoaonflphameaa
