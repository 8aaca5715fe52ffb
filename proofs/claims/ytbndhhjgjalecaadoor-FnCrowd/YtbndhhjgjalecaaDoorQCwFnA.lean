/- A new cursor. -/
import Derived.Test.YtbndhhjgjalecaaDoorQPlTn
import Derived.Test.YtbndhhjgjalecaaDoorQCwOw2
import Derived.Test.YtbndhhjgjalecaaDoorQCwTrpD
import Derived.Deep.RegionHeld3
import Derived.Deep.Cut
import Derived.Test.YtbndhhjgjalecaaDoorQCwFnW
namespace Go.Proofs.YtbndhhjgjalecaaDoor
open Go.RowKit

theorem cur_new (w : World) (a : Option Addr) (len cap : Nat) (hl : len ≤ 1048576) (hb : 0 < len → ∃ b off, a = some ⟨b, off, none⟩ ∧ b < w.heap.size ∧ ∀ i, i < len → ∃ v : Int, w.cell? ⟨b, off + i, none⟩ = some (.int .u8 v) ∧ 0 ≤ v ∧ v ≤ 255) :
    Cur (w.alloc (.cells #[.slice a len cap, .int .i64 0, .int .u64 0] 60)) w.heap.size a len cap 0 := by
  have hB : Below w.heap.size w (w.alloc (.cells #[.slice a len cap, .int .i64 0, .int .u64 0] 60)) := (Below.refl _ _).alloc (Nat.le_refl _) _
  refine ⟨by simp, by simp [go_sem], by simp [go_sem], ⟨0, by simp [go_sem], by omega, by omega⟩, by simp [go_sem], by simp [go_sem], fun h0 => ?_, hl⟩
  obtain ⟨b, off, ha, hbw, hc⟩ := hb h0
  refine ⟨b, off, ha, hbw, fun i hi => ?_⟩
  obtain ⟨v, hv, hv1⟩ := hc i hi
  exact ⟨v, (hB.cell (p := ⟨b, _, none⟩) hbw).trans hv, hv1⟩
end Go.Proofs.YtbndhhjgjalecaaDoor

/- What FnCrowd draws: cells, trips, a number of ticks. -/
namespace Go.Proofs.YtbndhhjgjalecaaDoor
open Go.RowKit

theorem ret_dp {fn : Func} {t x y : Tmp} {R : Ending → World → Prop} {a : Act} {w : World} {b : Nat} {u v : Value} (h : fn.results = #[.cell t 25, .tmp x, .tmp y]) (hp : a.tmps.getD t undef = .pointer (some ⟨b, 0, none⟩)) (c0 : w.cell? ⟨b, 0, none⟩ = some u) (c1 : w.cell? ⟨b, 1, none⟩ = some v) (hd : a.defers = [])
    (hR : R (.returned (.tuple #[.agg #[u, v], a.tmps.getD x undef, a.tmps.getD y undef])) w) : bodyPost Tryd.prog fn R .ret a w := by
  refine bodyPost_ret ?_ hd hR
  have hp' : a.tmps[t]?.getD undef = .pointer (some ⟨b, 0, none⟩) := by simpa using hp
  simp [results, h, hp', asAddr, loadVar, go_sem, c0, c1]
/-- what stands while these are drawn -/
structure Dp (w wx : World) (C : Nat) (a : Option Addr) (len cap n' R M : Nat) (W : Int) (q : Option Addr) (N c : Nat) (F : Nat → Int) : Prop where
  cur : Cur wx C a len cap n'
  r : Bx wx R [.int .i64 0, .slice none 0 0]
  m : Bx wx M [.int .i64 W, .slice q N c]
  q : LQ wx (C + 1) M q N F
  b : Below w.heap.size w wx
section
variable {w wx wy : World} {C : Nat} {a : Option Addr} {len cap n' n2 R M : Nat} {W : Int} {q : Option Addr} {N c : Nat} {F : Nat → Int}
theorem Dp.tn (h : Dp w wx C a len cap n' R M W q N c F) (hc : Cur wy C a len cap n2) (o : Turns C (C + 1) wx wy) (h1 : R < C ∧ C < M ∧ w.heap.size ≤ C) : Dp w wy C a len cap n2 R M W q N c F :=
  ⟨hc, h.r.turns o (.inl (by omega)), h.m.turns o (.inr (by omega)), h.q.turns o (.inr (by omega)), h.b.trans (o.below (by omega) h.b.size)⟩
theorem Dp.al (h : Dp w wx C a len cap n' R M W q N c F) (o : Obj) (h1 : R < C ∧ C < M ∧ w.heap.size ≤ C) : Dp w (wx.alloc o) C a len cap n' R M W q N c F :=
  h.tn (h.cur.below ((Below.refl wx.heap.size wx).alloc (Nat.le_refl _) o) h.cur.lt) (al_turns wx o) h1
end
set_option maxRecDepth 20000 in
set_option maxHeartbeats 4000000 in
theorem drawPlan (a : Option Addr) (len cap : Nat) (w : World) (hl : len ≤ 1048576) (hb : 0 < len → ∃ b off, a = some ⟨b, off, none⟩ ∧ b < w.heap.size ∧ ∀ i, i < len → ∃ v : Int, w.cell? ⟨b, off + i, none⟩ = some (.int .u8 v) ∧ 0 ≤ v ∧ v ≤ 255) :
    Calls Tryd.prog 7 #[.slice a len cap] w fun e w' => (∃ W a n c f b m d g tk, e = .returned (.tuple #[cel W a n c, .slice b m d, .int .i64 tk]) ∧ n ≤ 1048576 ∧ m ≤ 1048576 ∧ m ≤ d ∧ IL w' a n f ∧ IL w' b (m * 2) g) ∧ Below w.heap.size w w' := by
  have hb0 : Below w.heap.size w (w.alloc (celO 0 none 0 0 25)) := (Below.refl _ _).alloc (Nat.le_refl _) _
  have r0 := bx_new (w := w) (celL 0 none 0 0) 25 rfl
  have hb' : 0 < len → ∃ b off, a = some ⟨b, off, none⟩ ∧ b < (w.alloc (celO 0 none 0 0 25)).heap.size ∧ ∀ i, i < len → ∃ v : Int, (w.alloc (celO 0 none 0 0 25)).cell? ⟨b, off + i, none⟩ = some (.int .u8 v) ∧ 0 ≤ v ∧ v ≤ 255 := fun h0 => by
    obtain ⟨b, off, ha, hbw, hc⟩ := hb h0
    refine ⟨b, off, ha, by rw [size_al]; omega, fun i hi => ?_⟩
    obtain ⟨v, hv, hv1⟩ := hc i hi
    exact ⟨v, (hb0.cell (p := ⟨b, _, none⟩) hbw).trans hv, hv1⟩
  have hc0 := cur_new (w.alloc (celO 0 none 0 0 25)) a len cap hl hb'
  have hbC : Below (w.alloc (celO 0 none 0 0 25)).heap.size (w.alloc (celO 0 none 0 0 25)) ((w.alloc (celO 0 none 0 0 25)).alloc (.cells #[.slice a len cap, .int .i64 0, .int .u64 0] 60)) := (Below.refl _ _).alloc (Nat.le_refl _) _
  have rc := r0.on hbC
  have hBc := stepA hb0 hbC
  rw [size_al] at hc0
  clear hb hb' hb0 r0 hbC
  go_enter Tryd.func7, Tryd.ntmps7
  go_wp2_with fail
  refine (yard_any (w.heap.size + 1) a len cap 0 _ hc0 (by omega)).mono ?_
  rintro e w1 ⟨W, q, c, N, F, n1, rfl, hN, hQ, hn1, hc1, hT1⟩
  have hz1 : w.heap.size + 1 + 1 ≤ w1.heap.size := by have := hT1.size; simp only [size_al] at this; omega
  have hB1 := hBc.trans (hT1.below (B := w.heap.size) (by omega) (by simp; omega))
  have r1 := rc.turns hT1 (.inl (by omega))
  simp only [size_al] at hQ
  have hbm : Below w1.heap.size w1 (w1.alloc (celO W q N c 25)) := (Below.refl _ _).alloc (Nat.le_refl _) _
  have HD2 : Hid (Dp w (w1.alloc (celO W q N c 25)) (w.heap.size + 1) a len cap n1 w.heap.size w1.heap.size W q N c F) := ⟨hc1.below hbm hc1.lt, r1.on hbm, bx_new (w := w1) (celL W q N c) 25 rfl, (hQ.wide (by omega) (Nat.le_refl _)).on hbm, stepA hB1 hbm⟩
  have hcc := HD2.out.cur
  clear hc0 rc hBc hQ hc1 hT1 hB1 r1 hbm
  go_wp2_with fail
  refine (pick_any (w.heap.size + 1) a len cap n1 9 _ hcc (by omega)).mono ?_
  rintro e w3 ⟨x, n3, rfl, hx0, hx1, -, hn3, hc3, hO3⟩
  have hx1 := hx1 (by omega)
  have HD3 : Hid (Dp w w3 (w.heap.size + 1) a len cap n3 w.heap.size w1.heap.size W q N c F) := HD2.out.tn hc3 (on_turns hO3) (by omega)
  clear HD2 hcc hO3
  go_wp2_with fail
  refine (one_any (w.heap.size + 1) a len cap n3 12 _ hc3 (by omega)).mono ?_
  rintro e w4 ⟨u, n4, rfl, hn4, hc4, hO4⟩
  have HD4 : Hid (Dp w w4 (w.heap.size + 1) a len cap n4 w.heap.size w1.heap.size W q N c F) := HD3.out.tn hc4 (on_turns hO4) (by omega)
  clear HD3 hc3 hO4
  go_upto_if 17 with fail
  go_cut [7] from 18 to 20 (fun i wx => ∃ (tk : Int) (n5 : Nat), i = .int .i64 tk ∧ n5 ≤ 5000 ∧ Hid (Dp w wx (w.heap.size + 1) a len cap n5 w.heap.size w1.heap.size W q N c F))
  case first =>
    cases u with
    | false =>
      go_wp2_with fail
      go_meet
      case rel => exact ⟨_, n4, rfl, by omega, HD4⟩
    | true =>
      have hIP := lit_ip w4 [-1, 0, 1, 20, 21] 3
      have HD5 : Hid (Dp w (w4.alloc (.cells #[.int .i64 (-1), .int .i64 0, .int .i64 1, .int .i64 20, .int .i64 21] 3)) (w.heap.size + 1) a len cap n4 w.heap.size w1.heap.size W q N c F) := HD4.out.al _ (by omega)
      have hc5 := HD5.out.cur
      simp only [List.map_cons, List.map_nil, List.length_cons, List.length_nil, Nat.zero_add, Nat.reduceAdd] at hIP
      have hlt4 := hc4.lt
      go_wp2_with fail
      refine (among_any (w.heap.size + 1) a len cap n4 w4.heap.size 5 5 _ _ hc5 (by omega) hIP (by omega) (by omega) (by omega)).mono ?_
      rintro e w6 ⟨i, n6, hi6, rfl, hn6, hc6, hO6⟩
      have HD6 : Hid (Dp w w6 (w.heap.size + 1) a len cap n6 w.heap.size w1.heap.size W q N c F) := HD5.out.tn hc6 (on_turns hO6) (by omega)
      clear HD5 hO6 hIP
      go_wp2_with fail
      go_meet
      case rel => exact ⟨_, n6, rfl, by omega, HD6⟩
  case rest =>
    obtain ⟨tk, n5, rfl, hn5, HD5⟩ := hcut
    clear HD4 hc4
    have d5 := HD5.out.tn (HD5.out.cur.drew) (turns_of ((Below.refl wc.heap.size wc).drew)) (by omega)
    have kT := trips_any (w.heap.size + 1) a len cap n5 W q N c F wc.drew d5.cur (by omega) hN d5.q.il
    go_wp2_with fail
    go_region_held3 (fun w' => w'.cell? ⟨w1.heap.size, 0, none⟩ = some (.int .i64 W) ∧ w'.cell? ⟨w1.heap.size, 1, none⟩ = some (.slice q N c))
      (first | (exact ⟨d5.m.c0, d5.m.c1⟩) | (exact ⟨d6.m.c0, d6.m.c1⟩) | (exact ⟨((d6.m.far _ (by omega)).far _ (by omega)).c0, ((d6.m.far _ (by omega)).far _ (by omega)).c1⟩) | (fail))
      (first | (go_at_call 34; refine kT.mono ?_; rintro e w6 ⟨b, m, d, G, n6, rfl, ⟨hm, hmd⟩, hG, hn6, hc6, hT6⟩; have d6 := d5.tn hc6 hT6 (by omega); have y0 := d6.r.c0; have y1 := d6.r.c1; have f0 := d6.r.fz 0; have f1 := d6.r.fz 1; have l1 := d6.r.lt) | (fail))
    have bE := (d6.r.set 0 (by simp) (.int .i64 W)).set 1 (by simp) (.slice q N c)
    have hBE : Below w.heap.size w6 ((w6.setCell ⟨w.heap.size, 0, none⟩ (.int .i64 W)).setCell ⟨w.heap.size, 1, none⟩ (.slice q N c)) := ((Below.refl _ _).setCell (p := ⟨w.heap.size, 0, none⟩) (by simp) _).setCell (p := ⟨w.heap.size, 1, none⟩) (by simp) _
    have hQ1 := (lq_set (lq_set d6.q (b := w.heap.size) (k := 0) (.int .i64 W) (.inl (by omega))) (b := w.heap.size) (k := 1) (.slice q N c) (.inl (by omega))).il
    have hwc : w.heap.size < wc.drew.heap.size := HD5.out.r.lt
    have hG1 := (lq_set (lq_set hG (b := w.heap.size) (k := 0) (.int .i64 W) (.inl hwc)) (b := w.heap.size) (k := 1) (.slice q N c) (.inl hwc)).il
    have hB6 := d6.b.trans hBE
    clear kT y0 y1 f0 f1 d5 HD5 hG
    go_wp2_with fail
    refine ret_dp Tryd.results7 rfl bE.c0 bE.c1 rfl ?_
    exact ⟨⟨W, q, N, c, F, b, m, d, G, tk, rfl, by omega, by omega, hmd, hQ1, hG1⟩, hB6⟩
end Go.Proofs.YtbndhhjgjalecaaDoor

/- FnCrowd at every argument. -/
namespace Go.Proofs.YtbndhhjgjalecaaDoor
open Go.RowKit

set_option maxRecDepth 20000 in
theorem crowdLong (b1 : Option Addr) (m1 d1 : Nat) (w : World) (h1 : 1048576 < m1) (l1 : m1 ≤ 9223372036854775807) :
    Calls Tryd.prog 3 #[.slice b1 m1 d1] w fun e w' => e = .returned (.bool true) ∧ Below w.heap.size w w' := by
  have j1 : (1048576 : Int) < (m1 : Int) := by omega
  go_enter Tryd.func3, Tryd.ntmps3
  go_wp2_with fail
  go_ret
  exact ⟨rfl, Below.refl _ _⟩
theorem crowdAll (b1 : Option Addr) (m1 d1 : Nat) (w : World) (hT : Tab w) (l1 : m1 ≤ 9223372036854775807)
    (hb1 : 0 < m1 → ∃ b off, b1 = some ⟨b, off, none⟩ ∧ b < w.heap.size ∧ ∀ i, i < m1 → ∃ v : Int, w.cell? ⟨b, off + i, none⟩ = some (.int .u8 v) ∧ 0 ≤ v ∧ v ≤ 255)
    (hP : ∀ (W : Int) (a b : Option Addr) (n c m d : Nat) (f g : Nat → Int) (tk : Int) (w : World), Tab w → m ≤ d → n ≤ 1048576 → m ≤ 1048576 → IL w a n f → IL w b (m * 2) g → Calls Tryd.prog 8 #[cel W a n c, .slice b m d, .int .i64 tk] w fun e w' => AnsPk W n f m g tk w w' e ∧ Below w.heap.size w w')
    (hG : ∀ (W : Int) (a b p : Option Addr) (n c m d N e0 : Nat) (f g : Nat → Int) (K : Nat → Nat) (F : Nat → Nat → Int) (w : World), Tab w → m ≤ d → N ≤ e0 → n ≤ 1048576 → m ≤ 1048576 → N ≤ 1048576 → (∀ i, i < N → K i ≤ 1048576) → IL w a n f → IL w b (m * 2) g → RC w p N K F → Calls Tryd.prog 10 #[cel W a n c, .slice b m d, .slice p N e0] w fun e w' => ∃ q, e = .returned (.bool q) ∧ Says q (GpP W n f m g N K F) ∧ Below w.heap.size w w')
    (hA : ∀ (W : Int) (a : Option Addr) (n c : Nat) (f : Nat → Int) (s t : Int) (w : World), Tab w → n ≤ 1048576 → IL w a n f → Calls Tryd.prog 12 #[cel W a n c, tpv s t] w fun e w' => ∃ d, e = .returned (.int .i64 d) ∧ AlnIs W n f s t d ∧ Below w.heap.size w w')
    (hJ : ∀ (W : Int) (a : Option Addr) (n c : Nat) (f : Nat → Int) (s t u v : Int) (w : World), Tab w → n ≤ 1048576 → IL w a n f → Calls Tryd.prog 14 #[cel W a n c, tpv s t, tpv u v] w fun e w' => ∃ d, e = .returned (.int .i64 d) ∧ JntIs W n f s t u v d ∧ Below w.heap.size w w') :
    Calls Tryd.prog 3 #[.slice b1 m1 d1] w fun e w' => e = .returned (.bool true) ∧ Below w.heap.size w w' := by
  by_cases h1 : m1 ≤ 1048576
  · exact crowdLaw b1 m1 d1 w hT h1 (drawPlan b1 m1 d1 w h1 hb1) hP hG hA hJ
  · exact crowdLong b1 m1 d1 w (by omega) l1
end Go.Proofs.YtbndhhjgjalecaaDoor
