/- What FnWays draws: the cells and the ends, the stroll; the law at every argument. -/
import Derived.Test.YtfciecoigfnnhaaWyEnds
import Derived.Test.YtfciecoigfnnhaaWyStroll
namespace Go.Proofs.Ytfciecoigfnnhaa
open Go.RowKit

set_option maxRecDepth 20000 in
set_option maxHeartbeats 4000000 in
theorem drawShort (a : Option Addr) (len cap : Nat) (w : World) (hl : len ≤ 1048576) (hb : 0 < len → ∃ b off, a = some ⟨b, off, none⟩ ∧ b < w.heap.size ∧ ∀ i, i < len → ∃ v : Int, w.cell? ⟨b, off + i, none⟩ = some (.int .u8 v) ∧ 0 ≤ v ∧ v ≤ 255) :
    Calls Try.prog 9 #[.slice a len cap] w fun e w' => (∃ W q n c f x y, e = .returned (.tuple #[cel W q n c, .int .i64 x, .int .i64 y]) ∧ n ≤ 1048576 ∧ IL w' q n f) ∧ Below w.heap.size w w' := by
  have hb0 : Below w.heap.size w (w.alloc (celO 0 none 0 0 25)) := (Below.refl _ _).alloc (Nat.le_refl _) _
  have r0 := bx_new (w := w) (celL 0 none 0 0) 25 rfl
  have hb' : 0 < len → ∃ b off, a = some ⟨b, off, none⟩ ∧ b < (w.alloc (celO 0 none 0 0 25)).heap.size ∧ ∀ i, i < len → ∃ v : Int, (w.alloc (celO 0 none 0 0 25)).cell? ⟨b, off + i, none⟩ = some (.int .u8 v) ∧ 0 ≤ v ∧ v ≤ 255 := fun h0 => by
    obtain ⟨b, off, ha, hbw, hc⟩ := hb h0
    refine ⟨b, off, ha, by rw [size_al]; omega, fun i hi => ?_⟩
    obtain ⟨v, hv, hv1⟩ := hc i hi
    exact ⟨v, (hb0.cell (p := ⟨b, _, none⟩) hbw).trans hv, hv1⟩
  have hc0 := cur_new (w.alloc (celO 0 none 0 0 25)) a len cap hl hb'
  have hbC : Below (w.alloc (celO 0 none 0 0 25)).heap.size (w.alloc (celO 0 none 0 0 25)) ((w.alloc (celO 0 none 0 0 25)).alloc (.cells #[.slice a len cap, .int .i64 0, .int .u64 0] 67)) := (Below.refl _ _).alloc (Nat.le_refl _) _
  have rc := r0.on hbC
  have hBc := stepA hb0 hbC
  rw [size_al] at hc0
  clear hb hb' hb0 r0 hbC
  go_enter Try.func9, Try.ntmps9
  go_wp2_with fail
  refine (ends_any (w.heap.size + 1) a len cap 0 _ hc0 (by omega)).mono ?_
  rintro e w1 ⟨⟨W, q, N, c, F, x, y, rfl, hN, hQ⟩, hT1⟩
  have r1 := rc.turns hT1 (.inl (by omega))
  have hB1 := hBc.trans (hT1.below (B := w.heap.size) (by omega) (by simp; omega))
  have y0 := r1.c0
  have y1 := r1.c1
  have f0 := r1.fz 0
  have f1 := r1.fz 1
  have l1 := r1.lt
  have bE := (r1.set 0 (by simp) (.int .i64 W)).set 1 (by simp) (.slice q N c)
  have hBE : Below w.heap.size w1 ((w1.setCell ⟨w.heap.size, 0, none⟩ (.int .i64 W)).setCell ⟨w.heap.size, 1, none⟩ (.slice q N c)) := ((Below.refl _ _).setCell (p := ⟨w.heap.size, 0, none⟩) (by simp) _).setCell (p := ⟨w.heap.size, 1, none⟩) (by simp) _
  have hQ1 := (lq_set (lq_set hQ (b := w.heap.size) (k := 0) (.int .i64 W) (.inl (by omega))) (b := w.heap.size) (k := 1) (.slice q N c) (.inl (by omega))).il
  clear hc0 rc hT1 r1 hQ hBc
  go_wp2_with fail
  refine ret_en Try.results9 rfl bE.c0 bE.c1 rfl ?_
  exact ⟨⟨W, q, N, c, F, x, y, rfl, by omega, hQ1⟩, hB1.trans hBE⟩

set_option maxRecDepth 20000 in
set_option maxHeartbeats 4000000 in
theorem strolled (a : Option Addr) (len cap : Nat) (W : Int) (q : Option Addr) (N d : Nat) (f : Nat → Int) (w : World) (hl : len ≤ 1048576) (hb : 0 < len → ∃ b off, a = some ⟨b, off, none⟩ ∧ b < w.heap.size ∧ ∀ i, i < len → ∃ v : Int, w.cell? ⟨b, off + i, none⟩ = some (.int .u8 v) ∧ 0 ≤ v ∧ v ≤ 255) (hN : N ≤ 1048576) (hf : IL w q N f) :
    Calls Try.prog 10 #[.slice a len cap, cel W q N d] w fun e w' => AnsSt w' e ∧ Below w.heap.size w w' := by
  have hb0 : Below w.heap.size w (w.alloc (celO W q N d 25)) := (Below.refl _ _).alloc (Nat.le_refl _) _
  have r0 := bx_new (w := w) (celL W q N d) 25 rfl
  have hb' : 0 < len → ∃ b off, a = some ⟨b, off, none⟩ ∧ b < (w.alloc (celO W q N d 25)).heap.size ∧ ∀ i, i < len → ∃ v : Int, (w.alloc (celO W q N d 25)).cell? ⟨b, off + i, none⟩ = some (.int .u8 v) ∧ 0 ≤ v ∧ v ≤ 255 := fun h0 => by
    obtain ⟨b, off, ha, hbw, hc⟩ := hb h0
    refine ⟨b, off, ha, by rw [size_al]; omega, fun i hi => ?_⟩
    obtain ⟨v, hv, hv1⟩ := hc i hi
    exact ⟨v, (hb0.cell (p := ⟨b, _, none⟩) hbw).trans hv, hv1⟩
  have hc0 := cur_new (w.alloc (celO W q N d 25)) a len cap hl hb'
  have hbC : Below (w.alloc (celO W q N d 25)).heap.size (w.alloc (celO W q N d 25)) ((w.alloc (celO W q N d 25)).alloc (.cells #[.slice a len cap, .int .i64 0, .int .u64 0] 67)) := (Below.refl _ _).alloc (Nat.le_refl _) _
  have rc := r0.on hbC
  have hBc := stepA hb0 hbC
  have hf2 := hf.below hBc
  have hq : 0 < N → ∃ x o, q = some ⟨x, o, none⟩ ∧ x < w.heap.size + 1 := fun h0 => by
    obtain ⟨x, o, e, hx, _⟩ := hf h0
    exact ⟨x, o, e, by omega⟩
  have y0 := rc.c0
  have y1 := rc.c1
  rw [size_al] at hc0
  clear hb hb' hb0 r0 hbC hf
  go_enter Try.func10, Try.ntmps10
  go_wp2_with fail
  refine (stroll_any (w.heap.size + 1) a len cap 0 W q N d f _ hc0 (by omega) hN hf2 hq).mono ?_
  rintro e w1 ⟨⟨b, m, d', g, rfl, hm, hmd, hg⟩, hT1⟩
  have hB1 := hBc.trans (hT1.below (B := w.heap.size) (by omega) (by simp; omega))
  clear hc0 rc hT1 hf2 hq y0 y1 hBc
  go_wp2_with fail
  go_ret
  exact ⟨⟨b, m, d', g, rfl, hm, hmd, hg⟩, hB1⟩
end Go.Proofs.Ytfciecoigfnnhaa