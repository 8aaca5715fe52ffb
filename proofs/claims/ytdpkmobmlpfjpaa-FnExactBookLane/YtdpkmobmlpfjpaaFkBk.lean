/- Lists of a struct of four ints: the law's own copies of them, compared and marked; all by one flat index. -/
import Derived.Test.YtdpkmobmlpfjpaaFkFour
import Derived.Test.YtdpkmobmlpfjpaaFkBk1
namespace Go.Proofs.Ytdpkmobmlpfjpaa
open Go.RowKit

theorem infoBk : (Try.prog.info? 25).map (fun i => (i.zero, i.size, i.bytes)) = some (some (bkv 0 0 0 0), 4, 32) := by kernel_rfl
/-- make of n of them -/
theorem run_make_bk (n : Nat) (hn : n ≤ 1048576) (w : World) :
    (Instr.makeSlice 23 (.int .i64 (n : Int)) (.int .i64 (n : Int))).run Try.prog w = .ok (.slice (some ⟨w.heap.size, 0, none⟩) n n) (w.alloc (.cells (madeCells #[.int .i64 0, .int .i64 0, .int .i64 0, .int .i64 0] (n * 4)) 25)) := by
  obtain ⟨i, hi, hzz⟩ := Option.map_eq_some_iff.1 infoBk
  simp only [Prod.mk.injEq] at hzz
  obtain ⟨hz, hs, hb⟩ := hzz
  have hr := run_make (P := Try.prog) w 23 25 i _ Try.underlying23 hi hz .i64 .i64 (n : Int) (n : Int) (by omega) (Int.le_refl _) (by rw [hb]; omega) (by omega)
  simp only [Int.toNat_natCast, hs] at hr
  exact hr
theorem made_bk (w : World) (n : Nat) : IP (w.alloc (.cells (madeCells #[.int .i64 0, .int .i64 0, .int .i64 0, .int .i64 0] (n * 4)) 25)) w.heap.size (n * 4) (fun _ => 0) := by
  have hs : (madeCells #[Value.int .i64 0, .int .i64 0, .int .i64 0, .int .i64 0] (n * 4)).size = n * 4 := size_madeCells _ _
  have hr := World.rowIs_alloc w (madeCells #[Value.int .i64 0, .int .i64 0, .int .i64 0, .int .i64 0] (n * 4)) 25 (fun _ => .int .i64 0) (by
    intro j hj
    rw [hs] at hj
    have e : ∀ q, q < 4 → (#[Value.int .i64 0, .int .i64 0, .int .i64 0, .int .i64 0] : Array Value)[q]! = .int .i64 0 := by
      intro q hq
      match q, hq with
      | 0, _ => rfl
      | 1, _ => rfl
      | 2, _ => rfl
      | 3, _ => rfl
    simp only [madeCells, Array.getElem?_map, Array.getElem?_range, hj, if_true, Option.map_some]
    exact congrArg some (e _ (Nat.mod_lt _ (by decide))))
  rw [hs] at hr
  exact ⟨hr.lt, fun _ hi => hr.cell hi, fun j => hr.frozen j⟩
set_option maxHeartbeats 1000000 in
theorem toBookedS_any (a : Option Addr) (n cap : Nat) (F : Nat → Int) (w : World) (hn : n ≤ 1048576) (h : IL w a (n * 4) F) :
    Calls Try.prog 19 #[.slice a n cap] w fun e w' => e = .returned (.slice (some ⟨w.heap.size, 0, none⟩) n n) ∧ LQ w' w.heap.size (w.heap.size + 1) (some ⟨w.heap.size, 0, none⟩) (n * 4) F ∧ w.heap.size < w'.heap.size ∧ Below w.heap.size w w' := by
  have hmk := run_make_bk n hn
  have hP0 := made_bk w n
  have hb0 : Below w.heap.size w (w.alloc (.cells (madeCells #[.int .i64 0, .int .i64 0, .int .i64 0, .int .i64 0] (n * 4)) 25)) := (Below.refl _ _).alloc (Nat.le_refl _) _
  go_enter Try.func19, Try.ntmps19
  go_wp2
  clear hmk
  go_loopw [4] (fun i wr => ∃ (k : Nat) (G : Nat → Int), k ≤ n ∧ i = .int .i64 k ∧ IP wr w.heap.size (n * 4) G ∧ (∀ j, j < k * 4 → G j = F j) ∧ Below w.heap.size w wr) (fun i _ => n - (intOf i).toNat)
  case atStart => exact ⟨0, _, Nat.zero_le _, rfl, hP0, fun j hj => absurd hj (by omega), hb0⟩
  case round =>
    obtain ⟨k, G, hk, rfl, hP, hd, hB⟩ := hrel
    clear hP0 hb0
    by_cases hlt : k < n
    · obtain ⟨b, off, rfl, hbw, y0, y1, y2, y3⟩ := il_four4 (h.below hB) hlt
      have i0 : (0 : Int) ≤ (k : Int) := by omega
      have i1 : (k : Int) < (n : Int) := by omega
      go_wp2_with fail
      refine (toBooked_any (F (k * 4)) (F (k * 4 + 1)) (F (k * 4 + 2)) (F (k * 4 + 3)) _).mono ?_
      rintro e w1 ⟨rfl, hb1⟩
      have hP1 := hP.below hb1 hP.lt
      have hB1 := stepA hB hb1
      obtain ⟨x0, x1, x2, x3⟩ := ip_four4 hP1 hlt
      have f0 := hP1.fz (k * 4)
      have f1 := hP1.fz (k * 4 + 1)
      have f2 := hP1.fz (k * 4 + 2)
      have f3 := hP1.fz (k * 4 + 3)
      clear hP hB hb1 y0 y1 y2 y3 hbw
      go_wp2
      refine ⟨⟨k + 1, _, by omega, by go_num, (((hP1.set (k := k * 4) (by omega) _).set (k := k * 4 + 1) (by omega) _).set (k := k * 4 + 2) (by omega) _).set (k := k * 4 + 3) (by omega) _, fun j hj => ?_, (((hB1.setCell (p := ⟨_, _, none⟩) (Nat.le_refl _) _).setCell (p := ⟨_, _, none⟩) (Nat.le_refl _) _).setCell (p := ⟨_, _, none⟩) (Nat.le_refl _) _).setCell (p := ⟨_, _, none⟩) (Nat.le_refl _) _⟩, by simp [intOf]; omega⟩
      unfold put
      by_cases e3 : j = k * 4 + 3
      · rw [if_pos e3, e3]
      rw [if_neg e3]
      by_cases e2 : j = k * 4 + 2
      · rw [if_pos e2, e2]
      rw [if_neg e2]
      by_cases e1 : j = k * 4 + 1
      · rw [if_pos e1, e1]
      rw [if_neg e1]
      by_cases e0 : j = k * 4
      · rw [if_pos e0, e0]
      rw [if_neg e0]
      exact hd j (by omega)
    · have hke : k = n := by omega
      subst hke
      go_wp2
      go_ret
      exact ⟨rfl, lq_of (hP.congr hd) (Nat.le_refl _) (Nat.lt_succ_self _), hP.lt, hB⟩

set_option maxHeartbeats 400000 in
theorem eqBooked_any (a b c d : Int) (w : World) :
    Calls Try.prog 40 #[bkv a b c d, bkv a b c d] w fun e w' => e = .returned (.bool true) ∧ Below w.heap.size w w' := by
  go_enter Try.func40, Try.ntmps40
  go_wp2
  go_returns
  refine ⟨rfl, ?_⟩
  repeat' (first | exact Below.refl _ _ | refine below_dr ?_ _ | refine Below.alloc ?_ (by simp <;> omega) _ | refine Below.setCell ?_ (by simp <;> omega) _)
theorem keep4_bk {w w' : World} {b1 b2 o0 o1 o2 o3 p0 p1 p2 p3 : Nat} {v0 v1 v2 v3 u0 u1 u2 u3 : Value} (x0 : w.cell? ⟨b1, o0, none⟩ = some v0) (x1 : w.cell? ⟨b1, o1, none⟩ = some v1) (x2 : w.cell? ⟨b1, o2, none⟩ = some v2) (x3 : w.cell? ⟨b1, o3, none⟩ = some v3) (y0 : w.cell? ⟨b2, p0, none⟩ = some u0) (y1 : w.cell? ⟨b2, p1, none⟩ = some u1) (y2 : w.cell? ⟨b2, p2, none⟩ = some u2) (y3 : w.cell? ⟨b2, p3, none⟩ = some u3) (l1 : b1 < w.heap.size) (l2 : b2 < w.heap.size) (k : Below w.heap.size w w') :
    w'.cell? ⟨b1, o0, none⟩ = some v0 ∧ w'.cell? ⟨b1, o1, none⟩ = some v1 ∧ w'.cell? ⟨b1, o2, none⟩ = some v2 ∧ w'.cell? ⟨b1, o3, none⟩ = some v3 ∧ w'.cell? ⟨b2, p0, none⟩ = some u0 ∧ w'.cell? ⟨b2, p1, none⟩ = some u1 ∧ w'.cell? ⟨b2, p2, none⟩ = some u2 ∧ w'.cell? ⟨b2, p3, none⟩ = some u3 :=
  ⟨(k.cell (p := ⟨b1, _, none⟩) l1).trans x0, (k.cell (p := ⟨b1, _, none⟩) l1).trans x1, (k.cell (p := ⟨b1, _, none⟩) l1).trans x2, (k.cell (p := ⟨b1, _, none⟩) l1).trans x3, (k.cell (p := ⟨b2, _, none⟩) l2).trans y0, (k.cell (p := ⟨b2, _, none⟩) l2).trans y1, (k.cell (p := ⟨b2, _, none⟩) l2).trans y2, (k.cell (p := ⟨b2, _, none⟩) l2).trans y3⟩
set_option maxHeartbeats 2000000 in
theorem eqBookedS_any (a1 a2 : Option Addr) (n c1 c2 : Nat) (F : Nat → Int) (w : World) (hn : n ≤ 1048576) (h1 : IL w a1 (n * 4) F) (h2 : IL w a2 (n * 4) F) :
    Calls Try.prog 20 #[.slice a1 n c1, .slice a2 n c2] w fun e w' => e = .returned (.bool true) ∧ Below w.heap.size w w' := by
  go_enter Try.func20, Try.ntmps20
  go_wp2
  go_loopw [5] (fun i wr => ∃ k : Nat, k ≤ n ∧ i = .int .i64 k ∧ Below w.heap.size w wr) (fun i _ => n - (intOf i).toNat)
  case atStart => exact ⟨0, Nat.zero_le _, rfl, Below.refl _ _⟩
  case round =>
    obtain ⟨k, hk, rfl, hB⟩ := hrel
    by_cases hlt : k < n
    · obtain ⟨b1, o1, rfl, l1, x0, x1, x2, x3⟩ := il_four4 (h1.below hB) hlt
      obtain ⟨b2, o2, rfl, l2, y0, y1, y2, y3⟩ := il_four4 (h2.below hB) hlt
      have hlt' : (k : Int) < (n : Int) := by omega
      have hw0 := Below.refl wr.heap.size wr
      clear h1 h2
      generalize F (k * 4) = A at x0 y0
      generalize F (k * 4 + 1) = B at x1 y1
      generalize F (k * 4 + 2) = C at x2 y2
      generalize F (k * 4 + 3) = E at x3 y3
      go_wp2_with fail
      go_region_held3 (fun w' => w'.cell? ⟨b1, o1 + k * 4, none⟩ = some (.int .i64 A) ∧ w'.cell? ⟨b1, o1 + k * 4 + 1, none⟩ = some (.int .i64 B) ∧ w'.cell? ⟨b1, o1 + k * 4 + 2, none⟩ = some (.int .i64 C) ∧ w'.cell? ⟨b1, o1 + k * 4 + 3, none⟩ = some (.int .i64 E) ∧ w'.cell? ⟨b2, o2 + k * 4, none⟩ = some (.int .i64 A) ∧ w'.cell? ⟨b2, o2 + k * 4 + 1, none⟩ = some (.int .i64 B) ∧ w'.cell? ⟨b2, o2 + k * 4 + 2, none⟩ = some (.int .i64 C) ∧ w'.cell? ⟨b2, o2 + k * 4 + 3, none⟩ = some (.int .i64 E))
        (first | (exact keep4_bk x0 x1 x2 x3 y0 y1 y2 y3 l1 l2 hw0.drew) | (exact keep4_bk x0 x1 x2 x3 y0 y1 y2 y3 l1 l2 hw1) | (fail))
        ((go_at_call 40; refine (eqBooked_any _ _ _ _ _).mono ?_; rintro e w1 ⟨rfl, hbn⟩; have hw1 := stepA hw0.drew hbn; clear hbn))
      go_wp2
      go_roundw
      case rel => exact ⟨k + 1, by omega, by go_num, hB.trans (hw1.mono hB.size)⟩
      case measure => simp [intOf]; omega
    · clear h1 h2
      go_wp2
      go_ret
      exact ⟨rfl, hB⟩
theorem szBooked_in (a : Option Addr) (n c : Nat) (x : Int) (w : World) (h : (n : Int) ≤ x) (hx : x ≤ 1048576) :
    Calls Try.prog 18 #[.slice a n c, .int .i64 x] w fun e w' => e = .returned (.int .i64 (x - (n : Int))) ∧ w' = w := by
  have j1 : ¬ x - (n : Int) < 0 := by omega
  go_enter Try.func18, Try.ntmps18
  go_wp2
  go_ret
  exact ⟨rfl, rfl⟩
theorem szBooked_out (a : Option Addr) (n c : Nat) (x : Int) (w : World) (h : x < (n : Int)) (h0 : 0 ≤ x) (hx : x ≤ 1048576) (hn : n ≤ 9223372036854775807) :
    Calls Try.prog 18 #[.slice a n c, .int .i64 x] w fun e w' => e = .returned (.int .i64 (-1)) ∧ w' = w := by
  have j1 : x - (n : Int) < 0 := by omega
  go_enter Try.func18, Try.ntmps18
  go_wp2
  go_ret
  exact ⟨rfl, rfl⟩
end Go.Proofs.Ytdpkmobmlpfjpaa
