/- Lists of a struct of three ints: the law's own copies of them, compared and marked; all by one flat index. -/
import Derived.Test.YtnadedncjbibhaaChThree
import Derived.Test.YtnadedncjbibhaaPnSl1
namespace Go.Proofs.Ytnadedncjbibhaa
open Go.RowKit

theorem infoSlice : (Try.prog.info? 66).map (fun i => (i.zero, i.size, i.bytes)) = some (some (scv 0 0 0), 3, 24) := by kernel_rfl
/-- make of n of them -/
theorem run_make_sc (n : Nat) (hn : n ≤ 1048576) (w : World) :
    (Instr.makeSlice 27 (.int .i64 (n : Int)) (.int .i64 (n : Int))).run Try.prog w = .ok (.slice (some ⟨w.heap.size, 0, none⟩) n n) (w.alloc (.cells (madeCells #[.int .i64 0, .int .i64 0, .int .i64 0] (n * 3)) 66)) := by
  obtain ⟨i, hi, hzz⟩ := Option.map_eq_some_iff.1 infoSlice
  simp only [Prod.mk.injEq] at hzz
  obtain ⟨hz, hs, hb⟩ := hzz
  have hr := run_make (P := Try.prog) w 27 66 i _ Try.underlying27 hi hz .i64 .i64 (n : Int) (n : Int) (by omega) (Int.le_refl _) (by rw [hb]; omega) (by omega)
  simp only [Int.toNat_natCast, hs] at hr
  exact hr
theorem made_sc (w : World) (n : Nat) : IP (w.alloc (.cells (madeCells #[.int .i64 0, .int .i64 0, .int .i64 0] (n * 3)) 66)) w.heap.size (n * 3) (fun _ => 0) := by
  have hs : (madeCells #[Value.int .i64 0, .int .i64 0, .int .i64 0] (n * 3)).size = n * 3 := size_madeCells _ _
  have hr := World.rowIs_alloc w (madeCells #[Value.int .i64 0, .int .i64 0, .int .i64 0] (n * 3)) 66 (fun _ => .int .i64 0) (by
    intro j hj
    rw [hs] at hj
    have e : ∀ q, q < 3 → (#[Value.int .i64 0, .int .i64 0, .int .i64 0] : Array Value)[q]! = .int .i64 0 := by
      intro q hq
      match q, hq with
      | 0, _ => rfl
      | 1, _ => rfl
      | 2, _ => rfl
    simp only [madeCells, Array.getElem?_map, Array.getElem?_range, hj, if_true, Option.map_some]
    exact congrArg some (e _ (Nat.mod_lt _ (by decide))))
  rw [hs] at hr
  exact ⟨hr.lt, fun _ hi => hr.cell hi, fun j => hr.frozen j⟩
set_option maxHeartbeats 400000 in
theorem eqSlice_any (a b c : Int) (w : World) :
    Calls Try.prog 46 #[scv a b c, scv a b c] w fun e w' => e = .returned (.bool true) ∧ Below w.heap.size w w' := by
  go_enter Try.func46, Try.ntmps46
  go_wp2
  go_returns
  refine ⟨rfl, ?_⟩
  repeat' (first | exact Below.refl _ _ | refine below_dr ?_ _ | refine Below.alloc ?_ (by simp <;> omega) _ | refine Below.setCell ?_ (by simp <;> omega) _)
theorem keep4_sc {w w' : World} {b1 b2 o1 o2 o3 o5 o6 o7 : Nat} {v1 v2 v3 v5 v6 v7 : Value} (x0 : w.cell? ⟨b1, o1, none⟩ = some v1) (x1 : w.cell? ⟨b1, o2, none⟩ = some v2) (x2 : w.cell? ⟨b1, o3, none⟩ = some v3) (y0 : w.cell? ⟨b2, o5, none⟩ = some v5) (y1 : w.cell? ⟨b2, o6, none⟩ = some v6) (y2 : w.cell? ⟨b2, o7, none⟩ = some v7) (l1 : b1 < w.heap.size) (l2 : b2 < w.heap.size) (k : Below w.heap.size w w') :
    w'.cell? ⟨b1, o1, none⟩ = some v1 ∧ w'.cell? ⟨b1, o2, none⟩ = some v2 ∧ w'.cell? ⟨b1, o3, none⟩ = some v3 ∧ w'.cell? ⟨b2, o5, none⟩ = some v5 ∧ w'.cell? ⟨b2, o6, none⟩ = some v6 ∧ w'.cell? ⟨b2, o7, none⟩ = some v7 :=
  ⟨(k.cell (p := ⟨b1, _, none⟩) l1).trans x0, (k.cell (p := ⟨b1, _, none⟩) l1).trans x1, (k.cell (p := ⟨b1, _, none⟩) l1).trans x2, (k.cell (p := ⟨b2, _, none⟩) l2).trans y0, (k.cell (p := ⟨b2, _, none⟩) l2).trans y1, (k.cell (p := ⟨b2, _, none⟩) l2).trans y2⟩
set_option maxHeartbeats 2000000 in
theorem eqSliceS_any (a1 a2 : Option Addr) (n c1 c2 : Nat) (F : Nat → Int) (w : World) (hn : n ≤ 1048576) (h1 : IL w a1 (n * 3) F) (h2 : IL w a2 (n * 3) F) :
    Calls Try.prog 27 #[.slice a1 n c1, .slice a2 n c2] w fun e w' => e = .returned (.bool true) ∧ Below w.heap.size w w' := by
  go_enter Try.func27, Try.ntmps27
  go_wp2
  go_loopw [5] (fun i wr => ∃ k : Nat, k ≤ n ∧ i = .int .i64 k ∧ Below w.heap.size w wr) (fun i _ => n - (intOf i).toNat)
  case atStart => exact ⟨0, Nat.zero_le _, rfl, Below.refl _ _⟩
  case round =>
    obtain ⟨k, hk, rfl, hB⟩ := hrel
    by_cases hlt : k < n
    · obtain ⟨b1, o1, rfl, l1, x0, x1, x2⟩ := il_three (h1.below hB) hlt
      obtain ⟨b2, o2, rfl, l2, y0, y1, y2⟩ := il_three (h2.below hB) hlt
      have hlt' : (k : Int) < (n : Int) := by omega
      have hw0 := Below.refl wr.heap.size wr
      clear h1 h2
      generalize F (k * 3) = A at x0 y0
      generalize F (k * 3 + 1) = B at x1 y1
      generalize F (k * 3 + 2) = C at x2 y2
      go_wp2_with fail
      go_region_held3 (fun w' => w'.cell? ⟨b1, o1 + k * 3, none⟩ = some (.int .i64 A) ∧ w'.cell? ⟨b1, o1 + k * 3 + 1, none⟩ = some (.int .i64 B) ∧ w'.cell? ⟨b1, o1 + k * 3 + 2, none⟩ = some (.int .i64 C) ∧ w'.cell? ⟨b2, o2 + k * 3, none⟩ = some (.int .i64 A) ∧ w'.cell? ⟨b2, o2 + k * 3 + 1, none⟩ = some (.int .i64 B) ∧ w'.cell? ⟨b2, o2 + k * 3 + 2, none⟩ = some (.int .i64 C))
        (first | (exact keep4_sc x0 x1 x2 y0 y1 y2 l1 l2 hw0.drew) | (exact keep4_sc x0 x1 x2 y0 y1 y2 l1 l2 hw1) | (fail))
        ((go_at_call 46; refine (eqSlice_any _ _ _ _).mono ?_; rintro e w1 ⟨rfl, hbn⟩; have hw1 := stepA hw0.drew hbn; clear hbn))
      go_wp2
      go_roundw
      case rel => exact ⟨k + 1, by omega, by go_num, hB.trans (hw1.mono hB.size)⟩
      case measure => simp [intOf]; omega
    · clear h1 h2
      go_wp2
      go_ret
      exact ⟨rfl, hB⟩
end Go.Proofs.Ytnadedncjbibhaa
