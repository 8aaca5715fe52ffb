/- Lists of a struct of three ints: the law's own copies of them, compared and marked; all by one flat index. -/
import Derived.Test.YteknkgfgefhloaaChThree
import Derived.Test.YteknkgfgefhloaaTaSt31
namespace Go.Proofs.Yteknkgfgefhloaa
open Go.RowKit

theorem infoStamped : (Try.prog.info? 29).map (fun i => (i.zero, i.size, i.bytes)) = some (some (spv 0 0 0), 3, 24) := by kernel_rfl
/-- make of n of them -/
theorem run_make_sp (n : Nat) (hn : n ≤ 1048576) (w : World) :
    (Instr.makeSlice 23 (.int .i64 (n : Int)) (.int .i64 (n : Int))).run Try.prog w = .ok (.slice (some ⟨w.heap.size, 0, none⟩) n n) (w.alloc (.cells (madeCells #[.int .i64 0, .int .i64 0, .int .i64 0] (n * 3)) 29)) := by
  obtain ⟨i, hi, hzz⟩ := Option.map_eq_some_iff.1 infoStamped
  simp only [Prod.mk.injEq] at hzz
  obtain ⟨hz, hs, hb⟩ := hzz
  have hr := run_make (P := Try.prog) w 23 29 i _ Try.underlying23 hi hz .i64 .i64 (n : Int) (n : Int) (by omega) (Int.le_refl _) (by rw [hb]; omega) (by omega)
  simp only [Int.toNat_natCast, hs] at hr
  exact hr
theorem made_sp (w : World) (n : Nat) : IP (w.alloc (.cells (madeCells #[.int .i64 0, .int .i64 0, .int .i64 0] (n * 3)) 29)) w.heap.size (n * 3) (fun _ => 0) := by
  have hs : (madeCells #[Value.int .i64 0, .int .i64 0, .int .i64 0] (n * 3)).size = n * 3 := size_madeCells _ _
  have hr := World.rowIs_alloc w (madeCells #[Value.int .i64 0, .int .i64 0, .int .i64 0] (n * 3)) 29 (fun _ => .int .i64 0) (by
    intro j hj
    rw [hs] at hj
    have e : ∀ q, q < 3 → (#[Value.int .i64 0, .int .i64 0, .int .i64 0] : Array Value)[q]! = .int .i64 0 := by
      intro q hq
      match q, hq with
      | 0, _ => rfl
      | 1, _ => rfl
      | 2, _ => rfl
    simp only [madeCells, Array.getElem?_map, Array.getElem?_range, hj, if_true, Option.map_some]
    exact congrArg some (e _ (Nat.mod_lt _ (by decide))))
  rw [hs] at hr
  exact ⟨hr.lt, fun _ hi => hr.cell hi, fun j => hr.frozen j⟩
set_option maxHeartbeats 1000000 in
theorem toStampedS_any (a : Option Addr) (n cap : Nat) (F : Nat → Int) (w : World) (hn : n ≤ 1048576) (h : IL w a (n * 3) F) :
    Calls Try.prog 33 #[.slice a n cap] w fun e w' => e = .returned (.slice (some ⟨w.heap.size, 0, none⟩) n n) ∧ LQ w' w.heap.size (w.heap.size + 1) (some ⟨w.heap.size, 0, none⟩) (n * 3) F ∧ w.heap.size < w'.heap.size ∧ Below w.heap.size w w' := by
  have hmk := run_make_sp n hn
  have hP0 := made_sp w n
  have hb0 : Below w.heap.size w (w.alloc (.cells (madeCells #[.int .i64 0, .int .i64 0, .int .i64 0] (n * 3)) 29)) := (Below.refl _ _).alloc (Nat.le_refl _) _
  go_enter Try.func33, Try.ntmps33
  go_wp2
  clear hmk
  go_loopw [4] (fun i wr => ∃ (k : Nat) (G : Nat → Int), k ≤ n ∧ i = .int .i64 k ∧ IP wr w.heap.size (n * 3) G ∧ (∀ j, j < k * 3 → G j = F j) ∧ Below w.heap.size w wr) (fun i _ => n - (intOf i).toNat)
  case atStart => exact ⟨0, _, Nat.zero_le _, rfl, hP0, fun j hj => absurd hj (by omega), hb0⟩
  case round =>
    obtain ⟨k, G, hk, rfl, hP, hd, hB⟩ := hrel
    clear hP0 hb0
    by_cases hlt : k < n
    · obtain ⟨b, off, rfl, hbw, y0, y1, y2⟩ := il_three (h.below hB) hlt
      have i0 : (0 : Int) ≤ (k : Int) := by omega
      have i1 : (k : Int) < (n : Int) := by omega
      go_wp2_with fail
      refine (toStamped_any (F (k * 3)) (F (k * 3 + 1)) (F (k * 3 + 2)) _).mono ?_
      rintro e w1 ⟨rfl, hb1⟩
      have hP1 := hP.below hb1 hP.lt
      have hB1 := stepA hB hb1
      obtain ⟨x0, x1, x2⟩ := ip_three hP1 hlt
      have f0 := hP1.fz (k * 3)
      have f1 := hP1.fz (k * 3 + 1)
      have f2 := hP1.fz (k * 3 + 2)
      clear hP hB hb1 y0 y1 y2 hbw
      go_wp2
      refine ⟨⟨k + 1, _, by omega, by go_num, ((hP1.set (k := k * 3) (by omega) _).set (k := k * 3 + 1) (by omega) _).set (k := k * 3 + 2) (by omega) _, fun j hj => ?_, ((hB1.setCell (p := ⟨_, _, none⟩) (Nat.le_refl _) _).setCell (p := ⟨_, _, none⟩) (Nat.le_refl _) _).setCell (p := ⟨_, _, none⟩) (Nat.le_refl _) _⟩, by simp [intOf]; omega⟩
      unfold put
      by_cases e2 : j = k * 3 + 2
      · rw [if_pos e2, e2]
      rw [if_neg e2]
      by_cases e1 : j = k * 3 + 1
      · rw [if_pos e1, e1]
      rw [if_neg e1]
      by_cases e0 : j = k * 3
      · rw [if_pos e0, e0]
      rw [if_neg e0]
      exact hd j (by omega)
    · have hke : k = n := by omega
      subst hke
      go_wp2
      go_ret
      exact ⟨rfl, lq_of (hP.congr hd) (Nat.le_refl _) (Nat.lt_succ_self _), hP.lt, hB⟩

set_option maxHeartbeats 400000 in
theorem eqStamped_any (a b c : Int) (w : World) :
    Calls Try.prog 55 #[spv a b c, spv a b c] w fun e w' => e = .returned (.bool true) ∧ Below w.heap.size w w' := by
  go_enter Try.func55, Try.ntmps55
  go_wp2
  go_returns
  refine ⟨rfl, ?_⟩
  repeat' (first | exact Below.refl _ _ | refine below_dr ?_ _ | refine Below.alloc ?_ (by simp <;> omega) _ | refine Below.setCell ?_ (by simp <;> omega) _)
theorem keep4_sp {w w' : World} {b1 b2 o1 o2 o3 o5 o6 o7 : Nat} {v1 v2 v3 v5 v6 v7 : Value} (x0 : w.cell? ⟨b1, o1, none⟩ = some v1) (x1 : w.cell? ⟨b1, o2, none⟩ = some v2) (x2 : w.cell? ⟨b1, o3, none⟩ = some v3) (y0 : w.cell? ⟨b2, o5, none⟩ = some v5) (y1 : w.cell? ⟨b2, o6, none⟩ = some v6) (y2 : w.cell? ⟨b2, o7, none⟩ = some v7) (l1 : b1 < w.heap.size) (l2 : b2 < w.heap.size) (k : Below w.heap.size w w') :
    w'.cell? ⟨b1, o1, none⟩ = some v1 ∧ w'.cell? ⟨b1, o2, none⟩ = some v2 ∧ w'.cell? ⟨b1, o3, none⟩ = some v3 ∧ w'.cell? ⟨b2, o5, none⟩ = some v5 ∧ w'.cell? ⟨b2, o6, none⟩ = some v6 ∧ w'.cell? ⟨b2, o7, none⟩ = some v7 :=
  ⟨(k.cell (p := ⟨b1, _, none⟩) l1).trans x0, (k.cell (p := ⟨b1, _, none⟩) l1).trans x1, (k.cell (p := ⟨b1, _, none⟩) l1).trans x2, (k.cell (p := ⟨b2, _, none⟩) l2).trans y0, (k.cell (p := ⟨b2, _, none⟩) l2).trans y1, (k.cell (p := ⟨b2, _, none⟩) l2).trans y2⟩
set_option maxHeartbeats 2000000 in
theorem eqStampedS_any (a1 a2 : Option Addr) (n c1 c2 : Nat) (F : Nat → Int) (w : World) (hn : n ≤ 1048576) (h1 : IL w a1 (n * 3) F) (h2 : IL w a2 (n * 3) F) :
    Calls Try.prog 34 #[.slice a1 n c1, .slice a2 n c2] w fun e w' => e = .returned (.bool true) ∧ Below w.heap.size w w' := by
  go_enter Try.func34, Try.ntmps34
  go_wp2
  go_loopw [5] (fun i wr => ∃ k : Nat, k ≤ n ∧ i = .int .i64 k ∧ Below w.heap.size w wr) (fun i _ => n - (intOf i).toNat)
  case atStart => exact ⟨0, Nat.zero_le _, rfl, Below.refl _ _⟩
  case round =>
    obtain ⟨k, hk, rfl, hB⟩ := hrel
    by_cases hlt : k < n
    · obtain ⟨b1, o1, rfl, l1, x0, x1, x2⟩ := il_three (h1.below hB) hlt
      obtain ⟨b2, o2, rfl, l2, y0, y1, y2⟩ := il_three (h2.below hB) hlt
      have hlt' : (k : Int) < (n : Int) := by omega
      have hw0 := Below.refl wr.heap.size wr
      clear h1 h2
      generalize F (k * 3) = A at x0 y0
      generalize F (k * 3 + 1) = B at x1 y1
      generalize F (k * 3 + 2) = C at x2 y2
      go_wp2_with fail
      go_region_held3 (fun w' => w'.cell? ⟨b1, o1 + k * 3, none⟩ = some (.int .i64 A) ∧ w'.cell? ⟨b1, o1 + k * 3 + 1, none⟩ = some (.int .i64 B) ∧ w'.cell? ⟨b1, o1 + k * 3 + 2, none⟩ = some (.int .i64 C) ∧ w'.cell? ⟨b2, o2 + k * 3, none⟩ = some (.int .i64 A) ∧ w'.cell? ⟨b2, o2 + k * 3 + 1, none⟩ = some (.int .i64 B) ∧ w'.cell? ⟨b2, o2 + k * 3 + 2, none⟩ = some (.int .i64 C))
        (first | (exact keep4_sp x0 x1 x2 y0 y1 y2 l1 l2 hw0.drew) | (exact keep4_sp x0 x1 x2 y0 y1 y2 l1 l2 hw1) | (fail))
        ((go_at_call 55; refine (eqStamped_any _ _ _ _).mono ?_; rintro e w1 ⟨rfl, hbn⟩; have hw1 := stepA hw0.drew hbn; clear hbn))
      go_wp2
      go_roundw
      case rel => exact ⟨k + 1, by omega, by go_num, hB.trans (hw1.mono hB.size)⟩
      case measure => simp [intOf]; omega
    · clear h1 h2
      go_wp2
      go_ret
      exact ⟨rfl, hB⟩
theorem szStamped_in (a : Option Addr) (n c : Nat) (x : Int) (w : World) (h : (n : Int) ≤ x) (hx : x ≤ 1048576) :
    Calls Try.prog 32 #[.slice a n c, .int .i64 x] w fun e w' => e = .returned (.int .i64 (x - (n : Int))) ∧ w' = w := by
  have j1 : ¬ x - (n : Int) < 0 := by omega
  go_enter Try.func32, Try.ntmps32
  go_wp2
  go_ret
  exact ⟨rfl, rfl⟩
theorem szStamped_out (a : Option Addr) (n c : Nat) (x : Int) (w : World) (h : x < (n : Int)) (h0 : 0 ≤ x) (hx : x ≤ 1048576) (hn : n ≤ 9223372036854775807) :
    Calls Try.prog 32 #[.slice a n c, .int .i64 x] w fun e w' => e = .returned (.int .i64 (-1)) ∧ w' = w := by
  have j1 : x - (n : Int) < 0 := by omega
  go_enter Try.func32, Try.ntmps32
  go_wp2
  go_ret
  exact ⟨rfl, rfl⟩
end Go.Proofs.Yteknkgfgefhloaa
