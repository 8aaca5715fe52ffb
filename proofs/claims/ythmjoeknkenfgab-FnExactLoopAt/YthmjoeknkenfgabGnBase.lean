/- Gains: lists of them in memory; the law's own copies, and how it compares them. -/
import Derived.Test.YthmjoeknkenfgabHdGoodH
import Derived.Deep.CutRange
namespace Go.Proofs.Ythmjoeknkenfgab
open Go.RowKit

/-- a gain as a value -/
abbrev gv (x : Int) (l : Lp) : Value := .agg #[.int .i64 x, .int .i64 l.P, .int .i64 l.I, .int .i64 l.D, .int .i64 l.S, .int .i64 l.M, .int .i64 l.W, .int .i64 l.L]
abbrev gvs (x : Int) (l : Lp) : List Value := [.int .i64 x, .int .i64 l.P, .int .i64 l.I, .int .i64 l.D, .int .i64 l.S, .int .i64 l.M, .int .i64 l.W, .int .i64 l.L]
/-- the loop of the k-th gain -/
def lpAt (F : Nat → Int) (k : Nat) : Lp := ⟨F (k * 8 + 1), F (k * 8 + 2), F (k * 8 + 3), F (k * 8 + 4), F (k * 8 + 5), F (k * 8 + 6), F (k * 8 + 7)⟩
theorem gain_at {w : World} {b : Nat} {x : Int} {l : Lp} (h : Bx w b (gvs x l)) : w.cell? ⟨b, 0, none⟩ = some (.int .i64 x) ∧ w.cell? ⟨b, 1, none⟩ = some (.int .i64 l.P) ∧ w.cell? ⟨b, 2, none⟩ = some (.int .i64 l.I) ∧ w.cell? ⟨b, 3, none⟩ = some (.int .i64 l.D) ∧ w.cell? ⟨b, 4, none⟩ = some (.int .i64 l.S) ∧ w.cell? ⟨b, 5, none⟩ = some (.int .i64 l.M) ∧ w.cell? ⟨b, 6, none⟩ = some (.int .i64 l.W) ∧ w.cell? ⟨b, 7, none⟩ = some (.int .i64 l.L) :=
  ⟨h.at 0 rfl, h.at 1 rfl, h.at 2 rfl, h.at 3 rfl, h.at 4 rfl, h.at 5 rfl, h.at 6 rfl, h.at 7 rfl⟩
theorem Bx.setg {w : World} {b : Nat} {x : Int} {g : Lp} (c : Bx w b (gvs x g)) (l : Lp) : Bx (((((((w.setCell ⟨b, 1, none⟩ (.int .i64 l.P)).setCell ⟨b, 2, none⟩ (.int .i64 l.I)).setCell ⟨b, 3, none⟩ (.int .i64 l.D)).setCell ⟨b, 4, none⟩ (.int .i64 l.S)).setCell ⟨b, 5, none⟩ (.int .i64 l.M)).setCell ⟨b, 6, none⟩ (.int .i64 l.W)).setCell ⟨b, 7, none⟩ (.int .i64 l.L)) b (gvs x l) :=
  (((((((c.set 1 (by simp) _).set 2 (by simp) _).set 3 (by simp) _).set 4 (by simp) _).set 5 (by simp) _).set 6 (by simp) _).set 7 (by simp) _)
theorem Bx.set8 {w : World} {b : Nat} {y : Int} {g : Lp} (c : Bx w b (gvs y g)) (x : Int) (l : Lp) : Bx ((((((((w.setCell ⟨b, 0, none⟩ (.int .i64 x)).setCell ⟨b, 1, none⟩ (.int .i64 l.P)).setCell ⟨b, 2, none⟩ (.int .i64 l.I)).setCell ⟨b, 3, none⟩ (.int .i64 l.D)).setCell ⟨b, 4, none⟩ (.int .i64 l.S)).setCell ⟨b, 5, none⟩ (.int .i64 l.M)).setCell ⟨b, 6, none⟩ (.int .i64 l.W)).setCell ⟨b, 7, none⟩ (.int .i64 l.L)) b (gvs x l) :=
  ((((((((c.set 0 (by simp) _).set 1 (by simp) _).set 2 (by simp) _).set 3 (by simp) _).set 4 (by simp) _).set 5 (by simp) _).set 6 (by simp) _).set 7 (by simp) _)
theorem bx_farg {w : World} {b b' : Nat} {vs : List Value} (h : Bx w b vs) (hn : b ≠ b') (v1 v2 v3 v4 v5 v6 v7 : Value) : Bx (((((((w.setCell ⟨b', 1, none⟩ (v1)).setCell ⟨b', 2, none⟩ (v2)).setCell ⟨b', 3, none⟩ (v3)).setCell ⟨b', 4, none⟩ (v4)).setCell ⟨b', 5, none⟩ (v5)).setCell ⟨b', 6, none⟩ (v6)).setCell ⟨b', 7, none⟩ (v7)) b vs :=
  (((((((h.far _ hn).far _ hn).far _ hn).far _ hn).far _ hn).far _ hn).far _ hn)
theorem below_g {B b : Nat} {w w1 : World} (h : Below B w w1) (hb : B ≤ b) (v1 v2 v3 v4 v5 v6 v7 : Value) : Below B w (((((((w1.setCell ⟨b, 1, none⟩ (v1)).setCell ⟨b, 2, none⟩ (v2)).setCell ⟨b, 3, none⟩ (v3)).setCell ⟨b, 4, none⟩ (v4)).setCell ⟨b, 5, none⟩ (v5)).setCell ⟨b, 6, none⟩ (v6)).setCell ⟨b, 7, none⟩ (v7)) :=
  (((((((h.setCell (p := ⟨b, 1, none⟩) hb _).setCell (p := ⟨b, 2, none⟩) hb _).setCell (p := ⟨b, 3, none⟩) hb _).setCell (p := ⟨b, 4, none⟩) hb _).setCell (p := ⟨b, 5, none⟩) hb _).setCell (p := ⟨b, 6, none⟩) hb _).setCell (p := ⟨b, 7, none⟩) hb _)
theorem below_8 {B b : Nat} {w w1 : World} (h : Below B w w1) (hb : B ≤ b) (v0 v1 v2 v3 v4 v5 v6 v7 : Value) : Below B w ((((((((w1.setCell ⟨b, 0, none⟩ (v0)).setCell ⟨b, 1, none⟩ (v1)).setCell ⟨b, 2, none⟩ (v2)).setCell ⟨b, 3, none⟩ (v3)).setCell ⟨b, 4, none⟩ (v4)).setCell ⟨b, 5, none⟩ (v5)).setCell ⟨b, 6, none⟩ (v6)).setCell ⟨b, 7, none⟩ (v7)) :=
  ((((((((h.setCell (p := ⟨b, 0, none⟩) hb _).setCell (p := ⟨b, 1, none⟩) hb _).setCell (p := ⟨b, 2, none⟩) hb _).setCell (p := ⟨b, 3, none⟩) hb _).setCell (p := ⟨b, 4, none⟩) hb _).setCell (p := ⟨b, 5, none⟩) hb _).setCell (p := ⟨b, 6, none⟩) hb _).setCell (p := ⟨b, 7, none⟩) hb _)
theorem ret_gain {fn : Func} {t : Tmp} {R : Ending → World → Prop} {a : Act} {w : World} {b : Nat} {x : Int} {l : Lp} (e : fn.results = #[.cell t 64]) (hp : a.tmps.getD t undef = .pointer (some ⟨b, 0, none⟩)) (c : Bx w b (gvs x l)) (hd : a.defers = [])
    (hR : R (.returned (gv x l)) w) : bodyPost Try.prog fn R .ret a w := by
  refine bodyPost_ret ?_ hd hR
  obtain ⟨x0, x1, x2, x3, x4, x5, x6, x7⟩ := gain_at c
  have hp' : a.tmps[t]?.getD undef = .pointer (some ⟨b, 0, none⟩) := by simpa using hp
  simp [results, e, hp', asAddr, loadVar, go_sem, x0, x1, x2, x3, x4, x5, x6, x7]
abbrev gz (w : World) (x : Int) (l : Lp) : World := ((w.alloc (.cells (gvs x l).toArray 68)).alloc (.cells (gvs 0 lp0).toArray 64)).alloc (.cells (gvs x lp0).toArray 64)

set_option maxHeartbeats 2000000 in
set_option maxRecDepth 20000 in
theorem toGain_any (x : Int) (l : Lp) (w : World) :
    Calls Try.prog 39 #[gv x l] w fun e w' => e = .returned (gv x l) ∧ Below w.heap.size w w' := by
  have z1 : Bx ((w.alloc (.cells (gvs x l).toArray 68)).alloc (.cells (gvs 0 lp0).toArray 64)) (w.heap.size + 1) (gvs 0 lp0) := bx_new _ _ (by simp only [size_al])
  have z2 : Bx (gz w x l) (w.heap.size + 1 + 1) (gvs x lp0) := bx_new _ _ (by simp only [size_al])
  have y1 : Bx (gz w x l) (w.heap.size + 1) (gvs 0 lp0) := z1.alloc _
  have hB : Below w.heap.size w (gz w x l) := (((Below.refl _ _).alloc (Nat.le_refl _) _).alloc (by simp) _).alloc (by simp only [size_al]; omega) _
  unfold gz at z2 y1 hB
  clear z1
  go_enter Try.func39, Try.ntmps39
  go_wp2_with fail
  refine (toLoop_any l _).mono ?_
  rintro e w1 ⟨rfl, hb⟩
  have u1 := y1.on hb
  have u2 := z2.on hb
  have hB1 := stepA hB hb
  clear y1 z2 hB hb
  obtain ⟨x0, x1, x2, x3, x4, x5, x6, x7⟩ := gain_at u2
  have f1 := u2.fz 1
  have f2 := u2.fz 2
  have f3 := u2.fz 3
  have f4 := u2.fz 4
  have f5 := u2.fz 5
  have f6 := u2.fz 6
  have f7 := u2.fz 7
  go_upto_region 4 with fail
  have t1 := bx_farg u1 (b' := w.heap.size + 1 + 1) (by omega) (.int .i64 l.P) (.int .i64 l.I) (.int .i64 l.D) (.int .i64 l.S) (.int .i64 l.M) (.int .i64 l.W) (.int .i64 l.L)
  have t2 := u2.setg l
  have hB2 := below_g hB1 (b := w.heap.size + 1 + 1) (by omega) (.int .i64 l.P) (.int .i64 l.I) (.int .i64 l.D) (.int .i64 l.S) (.int .i64 l.M) (.int .i64 l.W) (.int .i64 l.L)
  clear x0 x1 x2 x3 x4 x5 x6 x7 f1 f2 f3 f4 f5 f6 f7 u1 u2 hB1
  generalize (((((((w1.setCell ⟨w.heap.size + 1 + 1, 1, none⟩ (.int .i64 l.P)).setCell ⟨w.heap.size + 1 + 1, 2, none⟩ (.int .i64 l.I)).setCell ⟨w.heap.size + 1 + 1, 3, none⟩ (.int .i64 l.D)).setCell ⟨w.heap.size + 1 + 1, 4, none⟩ (.int .i64 l.S)).setCell ⟨w.heap.size + 1 + 1, 5, none⟩ (.int .i64 l.M)).setCell ⟨w.heap.size + 1 + 1, 6, none⟩ (.int .i64 l.W)).setCell ⟨w.heap.size + 1 + 1, 7, none⟩ (.int .i64 l.L)) = w2 at t1 t2 hB2 ⊢
  obtain ⟨x0, x1, x2, x3, x4, x5, x6, x7⟩ := gain_at t2
  obtain ⟨y0, y1, y2, y3, y4, y5, y6, y7⟩ := gain_at t1
  have f0 := t1.fz 0
  have f1 := t1.fz 1
  have f2 := t1.fz 2
  have f3 := t1.fz 3
  have f4 := t1.fz 4
  have f5 := t1.fz 5
  have f6 := t1.fz 6
  have f7 := t1.fz 7
  go_wp2
  exact ret_gain rfl rfl (t1.set8 x l) rfl ⟨rfl, below_8 hB2 (by omega) _ _ _ _ _ _ _ _⟩

set_option maxHeartbeats 1000000 in
theorem eqLoop_any (l : Lp) (w : World) :
    Calls Try.prog 25 #[lv l, lv l] w fun e w' => e = .returned (.bool true) ∧ Below w.heap.size w w' := by
  go_enter Try.func25, Try.ntmps25
  go_wp2
  go_ret
  refine ⟨rfl, ?_⟩
  repeat' (first | exact Below.refl _ _ | refine below_dr ?_ _ | refine Below.alloc ?_ (by simp <;> omega) _ | refine Below.setCell ?_ (by simp <;> omega) _)
set_option maxHeartbeats 1000000 in
theorem eqGain_any (x : Int) (l : Lp) (w : World) :
    Calls Try.prog 41 #[gv x l, gv x l] w fun e w' => e = .returned (.bool true) ∧ Below w.heap.size w w' := by
  have hB : Below w.heap.size w ((w.alloc (.cells (gvs x l).toArray 64)).alloc (.cells (gvs x l).toArray 64)) := ((Below.refl _ _).alloc (Nat.le_refl _) _).alloc (by simp) _
  go_enter Try.func41, Try.ntmps41
  go_wp2_with fail
  refine (eqLoop_any l _).mono ?_
  rintro e w1 ⟨rfl, hb⟩
  have hB1 := stepA hB hb
  clear hB hb
  go_wp2
  go_ret
  exact ⟨rfl, hB1⟩

theorem infoG : (Try.prog.info? 64).map (fun i => (i.zero, i.size, i.bytes)) = some (some (gv 0 lp0), 8, 64) := by kernel_rfl
theorem run_make_gains (n : Nat) (hn : n ≤ 1048576) (w : World) :
    (Instr.makeSlice 48 (.int .i64 (n : Int)) (.int .i64 (n : Int))).run Try.prog w = .ok (.slice (some ⟨w.heap.size, 0, none⟩) n n) (w.alloc (.cells (madeCells #[.int .i64 0, .int .i64 0, .int .i64 0, .int .i64 0, .int .i64 0, .int .i64 0, .int .i64 0, .int .i64 0] (n * 8)) 64)) := by
  obtain ⟨i, hi, hzz⟩ := Option.map_eq_some_iff.1 infoG
  simp only [Prod.mk.injEq] at hzz
  obtain ⟨hz, hs, hb⟩ := hzz
  have hr := run_make (P := Try.prog) w 48 64 i _ Try.underlying48 hi hz .i64 .i64 (n : Int) (n : Int) (by omega) (Int.le_refl _) (by rw [hb]; omega) (by omega)
  simp only [Int.toNat_natCast, hs] at hr
  exact hr
theorem made_gains (w : World) (n : Nat) : IP (w.alloc (.cells (madeCells #[.int .i64 0, .int .i64 0, .int .i64 0, .int .i64 0, .int .i64 0, .int .i64 0, .int .i64 0, .int .i64 0] (n * 8)) 64)) w.heap.size (n * 8) (fun _ => 0) := by
  have hs : (madeCells (#[.int .i64 0, .int .i64 0, .int .i64 0, .int .i64 0, .int .i64 0, .int .i64 0, .int .i64 0, .int .i64 0] : Array Value) (n * 8)).size = n * 8 := size_madeCells _ _
  have hr := World.rowIs_alloc w (madeCells #[.int .i64 0, .int .i64 0, .int .i64 0, .int .i64 0, .int .i64 0, .int .i64 0, .int .i64 0, .int .i64 0] (n * 8)) 64 (fun _ => .int .i64 0) (by
    intro j hj
    rw [hs] at hj
    have e : ∀ q, q < 8 → (#[.int .i64 0, .int .i64 0, .int .i64 0, .int .i64 0, .int .i64 0, .int .i64 0, .int .i64 0, .int .i64 0] : Array Value)[q]! = .int .i64 0 := by
      intro q hq
      match q, hq with
      | 0, _ => rfl
      | 1, _ => rfl
      | 2, _ => rfl
      | 3, _ => rfl
      | 4, _ => rfl
      | 5, _ => rfl
      | 6, _ => rfl
      | 7, _ => rfl
    simp only [madeCells, Array.getElem?_map, Array.getElem?_range, hj, if_true, Option.map_some]
    exact congrArg some (e _ (Nat.mod_lt _ (by decide))))
  rw [hs] at hr
  exact ⟨hr.lt, fun _ hi => hr.cell hi, fun j => hr.frozen j⟩
theorem IP.eight {w : World} {b n : Nat} {F : Nat → Int} (h : IP w b (n * 8) F) {k : Nat} (hk : k < n) : w.cell? ⟨b, k * 8, none⟩ = some (.int .i64 (F (k * 8))) ∧ w.cell? ⟨b, k * 8 + 1, none⟩ = some (.int .i64 (F (k * 8 + 1))) ∧ w.cell? ⟨b, k * 8 + 2, none⟩ = some (.int .i64 (F (k * 8 + 2))) ∧ w.cell? ⟨b, k * 8 + 3, none⟩ = some (.int .i64 (F (k * 8 + 3))) ∧ w.cell? ⟨b, k * 8 + 4, none⟩ = some (.int .i64 (F (k * 8 + 4))) ∧ w.cell? ⟨b, k * 8 + 5, none⟩ = some (.int .i64 (F (k * 8 + 5))) ∧ w.cell? ⟨b, k * 8 + 6, none⟩ = some (.int .i64 (F (k * 8 + 6))) ∧ w.cell? ⟨b, k * 8 + 7, none⟩ = some (.int .i64 (F (k * 8 + 7))) :=
  ⟨h.c _ (by omega), h.c _ (by omega), h.c _ (by omega), h.c _ (by omega), h.c _ (by omega), h.c _ (by omega), h.c _ (by omega), h.c _ (by omega)⟩
theorem il_eight {w : World} {a : Option Addr} {n : Nat} {F : Nat → Int} (h : IL w a (n * 8) F) {k : Nat} (hk : k < n) : ∃ b off, a = some ⟨b, off, none⟩ ∧ b < w.heap.size ∧ w.cell? ⟨b, off + k * 8, none⟩ = some (.int .i64 (F (k * 8))) ∧ w.cell? ⟨b, off + k * 8 + 1, none⟩ = some (.int .i64 (F (k * 8 + 1))) ∧ w.cell? ⟨b, off + k * 8 + 2, none⟩ = some (.int .i64 (F (k * 8 + 2))) ∧ w.cell? ⟨b, off + k * 8 + 3, none⟩ = some (.int .i64 (F (k * 8 + 3))) ∧ w.cell? ⟨b, off + k * 8 + 4, none⟩ = some (.int .i64 (F (k * 8 + 4))) ∧ w.cell? ⟨b, off + k * 8 + 5, none⟩ = some (.int .i64 (F (k * 8 + 5))) ∧ w.cell? ⟨b, off + k * 8 + 6, none⟩ = some (.int .i64 (F (k * 8 + 6))) ∧ w.cell? ⟨b, off + k * 8 + 7, none⟩ = some (.int .i64 (F (k * 8 + 7))) := by
  obtain ⟨b, off, ha, hb, hc⟩ := h (by omega)
  refine ⟨b, off, ha, hb, hc _ (by omega), ?_, ?_, ?_, ?_, ?_, ?_, ?_⟩
  · rw [Nat.add_assoc]; exact hc _ (by omega)
  · rw [Nat.add_assoc]; exact hc _ (by omega)
  · rw [Nat.add_assoc]; exact hc _ (by omega)
  · rw [Nat.add_assoc]; exact hc _ (by omega)
  · rw [Nat.add_assoc]; exact hc _ (by omega)
  · rw [Nat.add_assoc]; exact hc _ (by omega)
  · rw [Nat.add_assoc]; exact hc _ (by omega)

set_option maxHeartbeats 2000000 in
set_option maxRecDepth 20000 in
theorem toGains_any (a : Option Addr) (n cap : Nat) (F : Nat → Int) (w : World) (hn : n ≤ 1048576) (h : IL w a (n * 8) F) :
    Calls Try.prog 23 #[.slice a n cap] w fun e w' => e = .returned (.slice (some ⟨w.heap.size, 0, none⟩) n n) ∧ IP w' w.heap.size (n * 8) F ∧ Below w.heap.size w w' := by
  have hmk := run_make_gains n hn
  have hP0 := made_gains w n
  have hb0 : Below w.heap.size w (w.alloc (.cells (madeCells #[.int .i64 0, .int .i64 0, .int .i64 0, .int .i64 0, .int .i64 0, .int .i64 0, .int .i64 0, .int .i64 0] (n * 8)) 64)) := (Below.refl _ _).alloc (Nat.le_refl _) _
  go_enter Try.func23, Try.ntmps23
  go_wp2
  clear hmk
  go_loopw [4] (fun i wr => ∃ (k : Nat) (G : Nat → Int), k ≤ n ∧ i = .int .i64 k ∧ IP wr w.heap.size (n * 8) G ∧ (∀ j, j < k * 8 → G j = F j) ∧ Below w.heap.size w wr) (fun i _ => n - (intOf i).toNat)
  case atStart => exact ⟨0, _, Nat.zero_le _, rfl, hP0, fun j hj => absurd hj (by omega), hb0⟩
  case round =>
    obtain ⟨k, G, hk, rfl, hP, hd, hB⟩ := hrel
    clear hP0 hb0
    by_cases hlt : k < n
    · obtain ⟨b, off, rfl, hbw, y0, y1, y2, y3, y4, y5, y6, y7⟩ := il_eight (h.below hB) hlt
      have i0 : (0 : Int) ≤ (k : Int) := by omega
      have i1 : (k : Int) < (n : Int) := by omega
      go_wp2_with fail
      refine (toGain_any (F (k * 8)) (lpAt F k) _).mono ?_
      rintro e w1 ⟨rfl, hb1⟩
      have hP1 := hP.below hb1 hP.lt
      have hB1 := stepA hB hb1
      obtain ⟨x0, x1, x2, x3, x4, x5, x6, x7⟩ := hP1.eight hlt
      have f0 := hP1.fz (k * 8)
      have f1 := hP1.fz (k * 8 + 1)
      have f2 := hP1.fz (k * 8 + 2)
      have f3 := hP1.fz (k * 8 + 3)
      have f4 := hP1.fz (k * 8 + 4)
      have f5 := hP1.fz (k * 8 + 5)
      have f6 := hP1.fz (k * 8 + 6)
      have f7 := hP1.fz (k * 8 + 7)
      clear hP hB hb1 y0 y1 y2 y3 y4 y5 y6 y7 hbw
      unfold lpAt
      go_wp2
      refine ⟨⟨k + 1, _, by omega, by go_num, ((((((((hP1.set (k := k * 8) (by omega) _).set (k := k * 8 + 1) (by omega) _).set (k := k * 8 + 2) (by omega) _).set (k := k * 8 + 3) (by omega) _).set (k := k * 8 + 4) (by omega) _).set (k := k * 8 + 5) (by omega) _).set (k := k * 8 + 6) (by omega) _).set (k := k * 8 + 7) (by omega) _), fun j hj => ?_, ((((((((hB1.setCell (p := ⟨_, _, none⟩) (Nat.le_refl _) _).setCell (p := ⟨_, _, none⟩) (Nat.le_refl _) _).setCell (p := ⟨_, _, none⟩) (Nat.le_refl _) _).setCell (p := ⟨_, _, none⟩) (Nat.le_refl _) _).setCell (p := ⟨_, _, none⟩) (Nat.le_refl _) _).setCell (p := ⟨_, _, none⟩) (Nat.le_refl _) _).setCell (p := ⟨_, _, none⟩) (Nat.le_refl _) _).setCell (p := ⟨_, _, none⟩) (Nat.le_refl _) _)⟩, by simp [intOf]; omega⟩
      unfold put
      by_cases e7 : j = k * 8 + 7
      · rw [if_pos e7, e7]
      rw [if_neg e7]
      by_cases e6 : j = k * 8 + 6
      · rw [if_pos e6, e6]
      rw [if_neg e6]
      by_cases e5 : j = k * 8 + 5
      · rw [if_pos e5, e5]
      rw [if_neg e5]
      by_cases e4 : j = k * 8 + 4
      · rw [if_pos e4, e4]
      rw [if_neg e4]
      by_cases e3 : j = k * 8 + 3
      · rw [if_pos e3, e3]
      rw [if_neg e3]
      by_cases e2 : j = k * 8 + 2
      · rw [if_pos e2, e2]
      rw [if_neg e2]
      by_cases e1 : j = k * 8 + 1
      · rw [if_pos e1, e1]
      rw [if_neg e1]
      by_cases e0 : j = k * 8
      · rw [if_pos e0, e0]
      rw [if_neg e0]
      exact hd j (by omega)
    · have hke : k = n := by omega
      subst hke
      go_wp2
      go_ret
      exact ⟨rfl, hP.congr hd, hB⟩
theorem keepG {w w' : World} {b1 b2 k : Nat} {X0 X1 X2 X3 X4 X5 X6 X7 : Int} (h : w.cell? ⟨b1, k * 8, none⟩ = some (.int .i64 (X0)) ∧ w.cell? ⟨b1, k * 8 + 1, none⟩ = some (.int .i64 (X1)) ∧ w.cell? ⟨b1, k * 8 + 2, none⟩ = some (.int .i64 (X2)) ∧ w.cell? ⟨b1, k * 8 + 3, none⟩ = some (.int .i64 (X3)) ∧ w.cell? ⟨b1, k * 8 + 4, none⟩ = some (.int .i64 (X4)) ∧ w.cell? ⟨b1, k * 8 + 5, none⟩ = some (.int .i64 (X5)) ∧ w.cell? ⟨b1, k * 8 + 6, none⟩ = some (.int .i64 (X6)) ∧ w.cell? ⟨b1, k * 8 + 7, none⟩ = some (.int .i64 (X7)) ∧ w.cell? ⟨b2, k * 8, none⟩ = some (.int .i64 (X0)) ∧ w.cell? ⟨b2, k * 8 + 1, none⟩ = some (.int .i64 (X1)) ∧ w.cell? ⟨b2, k * 8 + 2, none⟩ = some (.int .i64 (X2)) ∧ w.cell? ⟨b2, k * 8 + 3, none⟩ = some (.int .i64 (X3)) ∧ w.cell? ⟨b2, k * 8 + 4, none⟩ = some (.int .i64 (X4)) ∧ w.cell? ⟨b2, k * 8 + 5, none⟩ = some (.int .i64 (X5)) ∧ w.cell? ⟨b2, k * 8 + 6, none⟩ = some (.int .i64 (X6)) ∧ w.cell? ⟨b2, k * 8 + 7, none⟩ = some (.int .i64 (X7))) (l1 : b1 < w.heap.size) (l2 : b2 < w.heap.size) (q : Below w.heap.size w w') : w'.cell? ⟨b1, k * 8, none⟩ = some (.int .i64 (X0)) ∧ w'.cell? ⟨b1, k * 8 + 1, none⟩ = some (.int .i64 (X1)) ∧ w'.cell? ⟨b1, k * 8 + 2, none⟩ = some (.int .i64 (X2)) ∧ w'.cell? ⟨b1, k * 8 + 3, none⟩ = some (.int .i64 (X3)) ∧ w'.cell? ⟨b1, k * 8 + 4, none⟩ = some (.int .i64 (X4)) ∧ w'.cell? ⟨b1, k * 8 + 5, none⟩ = some (.int .i64 (X5)) ∧ w'.cell? ⟨b1, k * 8 + 6, none⟩ = some (.int .i64 (X6)) ∧ w'.cell? ⟨b1, k * 8 + 7, none⟩ = some (.int .i64 (X7)) ∧ w'.cell? ⟨b2, k * 8, none⟩ = some (.int .i64 (X0)) ∧ w'.cell? ⟨b2, k * 8 + 1, none⟩ = some (.int .i64 (X1)) ∧ w'.cell? ⟨b2, k * 8 + 2, none⟩ = some (.int .i64 (X2)) ∧ w'.cell? ⟨b2, k * 8 + 3, none⟩ = some (.int .i64 (X3)) ∧ w'.cell? ⟨b2, k * 8 + 4, none⟩ = some (.int .i64 (X4)) ∧ w'.cell? ⟨b2, k * 8 + 5, none⟩ = some (.int .i64 (X5)) ∧ w'.cell? ⟨b2, k * 8 + 6, none⟩ = some (.int .i64 (X6)) ∧ w'.cell? ⟨b2, k * 8 + 7, none⟩ = some (.int .i64 (X7)) := by
  obtain ⟨x0, x1, x2, x3, x4, x5, x6, x7, x8, x9, x10, x11, x12, x13, x14, x15⟩ := h
  exact ⟨(q.cell (p := ⟨b1, _, none⟩) l1).trans x0, (q.cell (p := ⟨b1, _, none⟩) l1).trans x1, (q.cell (p := ⟨b1, _, none⟩) l1).trans x2, (q.cell (p := ⟨b1, _, none⟩) l1).trans x3, (q.cell (p := ⟨b1, _, none⟩) l1).trans x4, (q.cell (p := ⟨b1, _, none⟩) l1).trans x5, (q.cell (p := ⟨b1, _, none⟩) l1).trans x6, (q.cell (p := ⟨b1, _, none⟩) l1).trans x7, (q.cell (p := ⟨b2, _, none⟩) l2).trans x8, (q.cell (p := ⟨b2, _, none⟩) l2).trans x9, (q.cell (p := ⟨b2, _, none⟩) l2).trans x10, (q.cell (p := ⟨b2, _, none⟩) l2).trans x11, (q.cell (p := ⟨b2, _, none⟩) l2).trans x12, (q.cell (p := ⟨b2, _, none⟩) l2).trans x13, (q.cell (p := ⟨b2, _, none⟩) l2).trans x14, (q.cell (p := ⟨b2, _, none⟩) l2).trans x15⟩

set_option maxHeartbeats 4000000 in
set_option maxRecDepth 20000 in
theorem eqGains_any (b1 b2 n c1 c2 : Nat) (F : Nat → Int) (w : World) (hn : n ≤ 1048576) (h1 : IP w b1 (n * 8) F) (h2 : IP w b2 (n * 8) F) :
    Calls Try.prog 26 #[.slice (some ⟨b1, 0, none⟩) n c1, .slice (some ⟨b2, 0, none⟩) n c2] w fun e w' => e = .returned (.bool true) ∧ Below w.heap.size w w' := by
  go_enter Try.func26, Try.ntmps26
  go_wp2
  go_loopw [5] (fun i wr => ∃ k : Nat, k ≤ n ∧ i = .int .i64 k ∧ Below w.heap.size w wr) (fun i _ => n - (intOf i).toNat)
  case atStart => exact ⟨0, Nat.zero_le _, rfl, Below.refl _ _⟩
  case round =>
    obtain ⟨k, hk, rfl, hB⟩ := hrel
    by_cases hlt : k < n
    · have t1 := h1.below hB h1.lt
      have t2 := h2.below hB h2.lt
      obtain ⟨x0, x1, x2, x3, x4, x5, x6, x7⟩ := t1.eight hlt
      obtain ⟨y0, y1, y2, y3, y4, y5, y6, y7⟩ := t2.eight hlt
      have hlt' : (k : Int) < (n : Int) := by omega
      have l1 := t1.lt
      have l2 := t2.lt
      have hw0 := Below.refl wr.heap.size wr
      clear t1 t2 h1 h2
      generalize F (k * 8) = X0 at x0 y0
      generalize F (k * 8 + 1) = X1 at x1 y1
      generalize F (k * 8 + 2) = X2 at x2 y2
      generalize F (k * 8 + 3) = X3 at x3 y3
      generalize F (k * 8 + 4) = X4 at x4 y4
      generalize F (k * 8 + 5) = X5 at x5 y5
      generalize F (k * 8 + 6) = X6 at x6 y6
      generalize F (k * 8 + 7) = X7 at x7 y7
      have hall : wr.cell? ⟨b1, k * 8, none⟩ = some (.int .i64 (X0)) ∧ wr.cell? ⟨b1, k * 8 + 1, none⟩ = some (.int .i64 (X1)) ∧ wr.cell? ⟨b1, k * 8 + 2, none⟩ = some (.int .i64 (X2)) ∧ wr.cell? ⟨b1, k * 8 + 3, none⟩ = some (.int .i64 (X3)) ∧ wr.cell? ⟨b1, k * 8 + 4, none⟩ = some (.int .i64 (X4)) ∧ wr.cell? ⟨b1, k * 8 + 5, none⟩ = some (.int .i64 (X5)) ∧ wr.cell? ⟨b1, k * 8 + 6, none⟩ = some (.int .i64 (X6)) ∧ wr.cell? ⟨b1, k * 8 + 7, none⟩ = some (.int .i64 (X7)) ∧ wr.cell? ⟨b2, k * 8, none⟩ = some (.int .i64 (X0)) ∧ wr.cell? ⟨b2, k * 8 + 1, none⟩ = some (.int .i64 (X1)) ∧ wr.cell? ⟨b2, k * 8 + 2, none⟩ = some (.int .i64 (X2)) ∧ wr.cell? ⟨b2, k * 8 + 3, none⟩ = some (.int .i64 (X3)) ∧ wr.cell? ⟨b2, k * 8 + 4, none⟩ = some (.int .i64 (X4)) ∧ wr.cell? ⟨b2, k * 8 + 5, none⟩ = some (.int .i64 (X5)) ∧ wr.cell? ⟨b2, k * 8 + 6, none⟩ = some (.int .i64 (X6)) ∧ wr.cell? ⟨b2, k * 8 + 7, none⟩ = some (.int .i64 (X7)) := ⟨x0, x1, x2, x3, x4, x5, x6, x7, y0, y1, y2, y3, y4, y5, y6, y7⟩
      have HA : Hid (wr.cell? ⟨b1, k * 8, none⟩ = some (.int .i64 (X0)) ∧ wr.cell? ⟨b1, k * 8 + 1, none⟩ = some (.int .i64 (X1)) ∧ wr.cell? ⟨b1, k * 8 + 2, none⟩ = some (.int .i64 (X2)) ∧ wr.cell? ⟨b1, k * 8 + 3, none⟩ = some (.int .i64 (X3)) ∧ wr.cell? ⟨b1, k * 8 + 4, none⟩ = some (.int .i64 (X4)) ∧ wr.cell? ⟨b1, k * 8 + 5, none⟩ = some (.int .i64 (X5)) ∧ wr.cell? ⟨b1, k * 8 + 6, none⟩ = some (.int .i64 (X6)) ∧ wr.cell? ⟨b1, k * 8 + 7, none⟩ = some (.int .i64 (X7)) ∧ wr.cell? ⟨b2, k * 8, none⟩ = some (.int .i64 (X0)) ∧ wr.cell? ⟨b2, k * 8 + 1, none⟩ = some (.int .i64 (X1)) ∧ wr.cell? ⟨b2, k * 8 + 2, none⟩ = some (.int .i64 (X2)) ∧ wr.cell? ⟨b2, k * 8 + 3, none⟩ = some (.int .i64 (X3)) ∧ wr.cell? ⟨b2, k * 8 + 4, none⟩ = some (.int .i64 (X4)) ∧ wr.cell? ⟨b2, k * 8 + 5, none⟩ = some (.int .i64 (X5)) ∧ wr.cell? ⟨b2, k * 8 + 6, none⟩ = some (.int .i64 (X6)) ∧ wr.cell? ⟨b2, k * 8 + 7, none⟩ = some (.int .i64 (X7))) := hall
      clear hall
      go_wp2_with fail
      go_region_held3 (fun w' => w'.cell? ⟨b1, k * 8, none⟩ = some (.int .i64 (X0)) ∧ w'.cell? ⟨b1, k * 8 + 1, none⟩ = some (.int .i64 (X1)) ∧ w'.cell? ⟨b1, k * 8 + 2, none⟩ = some (.int .i64 (X2)) ∧ w'.cell? ⟨b1, k * 8 + 3, none⟩ = some (.int .i64 (X3)) ∧ w'.cell? ⟨b1, k * 8 + 4, none⟩ = some (.int .i64 (X4)) ∧ w'.cell? ⟨b1, k * 8 + 5, none⟩ = some (.int .i64 (X5)) ∧ w'.cell? ⟨b1, k * 8 + 6, none⟩ = some (.int .i64 (X6)) ∧ w'.cell? ⟨b1, k * 8 + 7, none⟩ = some (.int .i64 (X7)) ∧ w'.cell? ⟨b2, k * 8, none⟩ = some (.int .i64 (X0)) ∧ w'.cell? ⟨b2, k * 8 + 1, none⟩ = some (.int .i64 (X1)) ∧ w'.cell? ⟨b2, k * 8 + 2, none⟩ = some (.int .i64 (X2)) ∧ w'.cell? ⟨b2, k * 8 + 3, none⟩ = some (.int .i64 (X3)) ∧ w'.cell? ⟨b2, k * 8 + 4, none⟩ = some (.int .i64 (X4)) ∧ w'.cell? ⟨b2, k * 8 + 5, none⟩ = some (.int .i64 (X5)) ∧ w'.cell? ⟨b2, k * 8 + 6, none⟩ = some (.int .i64 (X6)) ∧ w'.cell? ⟨b2, k * 8 + 7, none⟩ = some (.int .i64 (X7)))
        (first | (exact keepG HA.out l1 l2 hw0.drew) | (exact keepG HA.out l1 l2 hw1) | (fail))
        (first | (go_at_call 41; refine (eqGain_any X0 ⟨X1, X2, X3, X4, X5, X6, X7⟩ _).mono ?_; rintro e w1 ⟨rfl, hbn⟩; have hw1 := stepA hw0.drew hbn; clear hbn) | (fail))
      go_wp2
      go_roundw
      case rel => exact ⟨k + 1, by omega, by go_num, hB.trans (hw1.mono hB.size)⟩
      case measure => simp [intOf]; omega
    · clear h1 h2
      go_wp2
      go_ret
      exact ⟨rfl, hB⟩
set_option maxHeartbeats 400000 in
theorem szG_in (a : Option Addr) (n c : Nat) (w : World) (h0 : n ≤ 1048576) :
    Calls Try.prog 21 #[.slice a n c, .int .i64 1048576] w fun e w' => e = .returned (.int .i64 (1048576 - (n : Int))) ∧ w' = w := by
  have j : ¬ 1048576 - (n : Int) < 0 := by omega
  go_enter Try.func21, Try.ntmps21
  go_wp2
  go_ret
  exact ⟨rfl, rfl⟩
set_option maxHeartbeats 400000 in
theorem szG_out (a : Option Addr) (n c : Nat) (w : World) (h0 : ¬ n ≤ 1048576) (hm : n ≤ 9223372036854775807) :
    Calls Try.prog 21 #[.slice a n c, .int .i64 1048576] w fun e w' => e = .returned (.int .i64 (-1)) ∧ w' = w := by
  have j : 1048576 - (n : Int) < 0 := by omega
  go_enter Try.func21, Try.ntmps21
  go_wp2
  go_ret
  exact ⟨rfl, rfl⟩
end Go.Proofs.Ythmjoeknkenfgab
