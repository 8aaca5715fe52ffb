/- What FnChart draws; the law at every argument. -/
import Derived.Test.YtjefakfongehdaaRChChD
import Derived.Test.YtjefakfongehdaaRCurNew
import Derived.Test.YtjefakfongehdaaRChFnW
namespace Go.Proofs.YtjefakfongehdaaR
open Go.RowKit
set_option maxHeartbeats 4000000 in
theorem drawRun (a : Option Addr) (len cap : Nat) (w : World) (hl : len ≤ 1048576) (hb : 0 < len → ∃ b off, a = some ⟨b, off, none⟩ ∧ b < w.heap.size ∧ ∀ i, i < len → ∃ v : Int, w.cell? ⟨b, off + i, none⟩ = some (.int .u8 v) ∧ 0 ≤ v ∧ v ≤ 255) :
    Calls Try.prog 8 #[.slice a len cap] w fun e w' => AnsDc w w' e := by
  have hb0 : Below w.heap.size w (w.alloc (chO none 0 0 none 0 0 26)) := (Below.refl _ _).alloc (Nat.le_refl _) _
  have r0 := bx_new (w := w) (chL none 0 0 none 0 0) 26 rfl
  have hb' : 0 < len → ∃ b off, a = some ⟨b, off, none⟩ ∧ b < (w.alloc (chO none 0 0 none 0 0 26)).heap.size ∧ ∀ i, i < len → ∃ v : Int, (w.alloc (chO none 0 0 none 0 0 26)).cell? ⟨b, off + i, none⟩ = some (.int .u8 v) ∧ 0 ≤ v ∧ v ≤ 255 := fun h0 => by
    obtain ⟨b, off, ha, hbw, hc⟩ := hb h0
    refine ⟨b, off, ha, by rw [size_al]; omega, fun i hi => ?_⟩
    obtain ⟨v, hv, hv1⟩ := hc i hi
    exact ⟨v, (hb0.cell (p := ⟨b, _, none⟩) hbw).trans hv, hv1⟩
  have hc0 := cur_new (w.alloc (chO none 0 0 none 0 0 26)) a len cap hl hb'
  have hbC : Below (w.alloc (chO none 0 0 none 0 0 26)).heap.size (w.alloc (chO none 0 0 none 0 0 26)) ((w.alloc (chO none 0 0 none 0 0 26)).alloc (.cells #[.slice a len cap, .int .i64 0, .int .u64 0] 57)) := (Below.refl _ _).alloc (Nat.le_refl _) _
  have rc := r0.on hbC
  have hBc := stepA hb0 hbC
  rw [size_al] at hc0
  clear hb hb' hb0 r0 hbC
  go_enter Try.func8, Try.ntmps8
  go_wp2_with fail
  refine (chart_any (w.heap.size + 1) a len cap 0 _ hc0 (by omega)).mono ?_
  rintro e w1 ⟨a1, k, c1, G, a2, j, c2, H, n1, rfl, ⟨hkc, hk, hj⟩, hL1, hL2, hn1, hc1, hT1⟩
  have hz1 : w.heap.size + 2 ≤ w1.heap.size := by have := hT1.size; simp only [size_al] at this; omega
  have hB1 := hBc.trans (hT1.below (B := w.heap.size) (by omega) (by simp; omega))
  have r1 := rc.turns hT1 (.inl (by omega))
  simp only [size_al] at hL1 hL2
  clear hc0 rc hBc hT1
  go_wp2_with fail
  refine (events_any (w.heap.size + 1) a len cap n1 _ hc1 (by omega)).mono ?_
  rintro e w2 ⟨x, q, r, h, n2, rfl, hq, hL3, hn2, hc2, hT2⟩
  have hz2 := hT2.size
  have hB2 := hB1.trans (hT2.below (B := w.heap.size) (by omega) (by omega))
  have r2 := r1.turns hT2 (.inl (by omega))
  have m1 := hL1.turns hT2 (.inr (by omega))
  have m2 := hL2.turns hT2 (.inr (by omega))
  have z0 := r2.c0
  have z1 := r2.c1
  have zf0 := r2.fz 0
  have zf1 := r2.fz 1
  have bE := (r2.set 0 (by simp) (.slice a1 k c1)).set 1 (by simp) (.slice a2 j c2)
  have hBE := (hB2.setCell (p := ⟨w.heap.size, 0, none⟩) (Nat.le_refl _) (.slice a1 k c1)).setCell (p := ⟨w.heap.size, 1, none⟩) (Nat.le_refl _) (.slice a2 j c2)
  have e1 := (lq_set (lq_set m1 (b := w.heap.size) (k := 0) (.slice a1 k c1) (.inl (by omega))) (b := w.heap.size) (k := 1) (.slice a2 j c2) (.inl (by omega))).il
  have e2 := (lq_set (lq_set m2 (b := w.heap.size) (k := 0) (.slice a1 k c1) (.inl (by omega))) (b := w.heap.size) (k := 1) (.slice a2 j c2) (.inl (by omega))).il
  have e3 := (lq_set (lq_set hL3 (b := w.heap.size) (k := 0) (.slice a1 k c1) (.inl (by omega))) (b := w.heap.size) (k := 1) (.slice a2 j c2) (.inl (by omega))).il
  clear hc1 hc2 hT2 hB1 hB2 r1 hL1 hL2 hL3 m1 m2
  go_wp2_with fail
  refine ret_cht_tmp Try.results8 rfl bE.c0 bE.c1 rfl ?_
  exact ⟨a1, k, c1, a2, j, c2, G, H, x, q, r, h, rfl, ⟨hkc, hk, hj, hq⟩, e1, e2, e3, hBE⟩
set_option maxHeartbeats 400000 in
theorem chartFn_long (A : Option Addr) (len cap : Nat) (w : World) (h : 1048576 < len) :
    Calls Try.prog 3 #[.slice A len cap] w fun e w' => e = .returned (.bool true) ∧ Below w.heap.size w w' := by
  have j : (1048576 : Int) < (len : Int) := by omega
  go_enter Try.func3, Try.ntmps3
  go_wp2
  go_ret
  exact ⟨rfl, Below.refl _ _⟩
theorem chartFnAll (A : Option Addr) (len cap : Nat) (w : World) (hb : 0 < len → ∃ b off, A = some ⟨b, off, none⟩ ∧ b < w.heap.size ∧ ∀ i, i < len → ∃ v : Int, w.cell? ⟨b, off + i, none⟩ = some (.int .u8 v) ∧ 0 ≤ v ∧ v ≤ 255) :
    Calls Try.prog 3 #[.slice A len cap] w fun e w' => e = .returned (.bool true) ∧ Below w.heap.size w w' := by
  by_cases h : len ≤ 1048576
  · exact chartFn A len cap w h (drawRun A len cap w h hb)
  · exact chartFn_long A len cap w (by omega)
end Go.Proofs.YtjefakfongehdaaR
