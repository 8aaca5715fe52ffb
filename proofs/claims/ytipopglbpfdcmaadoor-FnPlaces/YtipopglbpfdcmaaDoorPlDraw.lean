/- What FnPlaces draws: cells, places, a way, a distance. -/
import Derived.Test.YtipopglbpfdcmaaDoorPlCel
import Derived.Test.YtipopglbpfdcmaaDoorCurNew
import Derived.Test.YtipopglbpfdcmaaDoorPlLaw
namespace Go.Proofs.YtipopglbpfdcmaaDoor
open Go.RowKit

theorem keepD {w' : World} {M : Nat} {u v : Value} (h : Bx w' M [u, v]) : w'.cell? ⟨M, 0, none⟩ = some u ∧ w'.cell? ⟨M, 1, none⟩ = some v := ⟨h.c0, h.c1⟩
theorem ret_see {fn : Func} {t x y z : Tmp} {R : Ending → World → Prop} {a : Act} {w : World} {b : Nat} {u v : Value} (h : fn.results = #[.cell t 25, .tmp x, .tmp y, .tmp z]) (hp : a.tmps.getD t undef = .pointer (some ⟨b, 0, none⟩)) (c0 : w.cell? ⟨b, 0, none⟩ = some u) (c1 : w.cell? ⟨b, 1, none⟩ = some v) (hd : a.defers = [])
    (hR : R (.returned (.tuple #[.agg #[u, v], a.tmps.getD x undef, a.tmps.getD y undef, a.tmps.getD z undef])) w) : bodyPost Tryd.prog fn R .ret a w := by
  refine bodyPost_ret ?_ hd hR
  have hp' : a.tmps[t]?.getD undef = .pointer (some ⟨b, 0, none⟩) := by simpa using hp
  simp [results, h, hp', asAddr, loadVar, go_sem, c0, c1]
set_option maxHeartbeats 4000000 in
theorem drawSee (a : Option Addr) (len cap : Nat) (w : World) (hl : len ≤ 1048576) (hb : 0 < len → ∃ b off, a = some ⟨b, off, none⟩ ∧ b < w.heap.size ∧ ∀ i, i < len → ∃ v : Int, w.cell? ⟨b, off + i, none⟩ = some (.int .u8 v) ∧ 0 ≤ v ∧ v ≤ 255) :
    Calls Tryd.prog 4 #[.slice a len cap] w fun e w' => AnsSee w' e ∧ Below w.heap.size w w' := by
  have hb0 : Below w.heap.size w (w.alloc (celO 0 none 0 0 25)) := (Below.refl _ _).alloc (Nat.le_refl _) _
  have r0 := bx_new (w := w) (celL 0 none 0 0) 25 rfl
  have hb' : 0 < len → ∃ b off, a = some ⟨b, off, none⟩ ∧ b < (w.alloc (celO 0 none 0 0 25)).heap.size ∧ ∀ i, i < len → ∃ v : Int, (w.alloc (celO 0 none 0 0 25)).cell? ⟨b, off + i, none⟩ = some (.int .u8 v) ∧ 0 ≤ v ∧ v ≤ 255 := fun h0 => by
    obtain ⟨b, off, ha, hbw, hc⟩ := hb h0
    refine ⟨b, off, ha, by rw [size_al]; omega, fun i hi => ?_⟩
    obtain ⟨v, hv, hv1⟩ := hc i hi
    exact ⟨v, (hb0.cell (p := ⟨b, _, none⟩) hbw).trans hv, hv1⟩
  have hc0 := cur_new (w.alloc (celO 0 none 0 0 25)) a len cap hl hb'
  have hbC : Below (w.alloc (celO 0 none 0 0 25)).heap.size (w.alloc (celO 0 none 0 0 25)) ((w.alloc (celO 0 none 0 0 25)).alloc (.cells #[.slice a len cap, .int .i64 0, .int .u64 0] 35)) := (Below.refl _ _).alloc (Nat.le_refl _) _
  have rc := r0.on hbC
  have hBc := stepA hb0 hbC
  rw [size_al] at hc0
  clear hb hb' hb0 r0 hbC
  go_enter Tryd.func4, Tryd.ntmps4
  go_wp2_with fail
  refine (cells_any (w.heap.size + 1) a len cap 0 _ hc0 (by omega)).mono ?_
  rintro e w1 ⟨W, a', c', N, F, n1, rfl, hN, hL1, hn1, hc1, hT1⟩
  have r1 := rc.turns hT1 (.inl (by omega))
  have hB1 := hBc.trans (hT1.below (B := w.heap.size) (by omega) (by simp; omega))
  have hs1 : w.heap.size + 2 ≤ w1.heap.size := by have := hT1.size; simpa using this
  have hbM : Below w1.heap.size w1 (w1.alloc (celO W a' N c' 25)) := (Below.refl _ _).alloc (Nat.le_refl _) _
  have m2 := bx_new (w := w1) (celL W a' N c') 25 rfl
  have hd : Below (w1.alloc (celO W a' N c' 25)).heap.size (w1.alloc (celO W a' N c' 25)) (w1.alloc (celO W a' N c' 25)).drew := (Below.refl _ _).drew
  have r3 := (r1.on hbM).on hd
  have m3 := m2.on hd
  have hc3 := (hc1.below hbM hc1.lt).below hd (by simp; omega)
  have hL3 := (hL1.on hbM).on hd
  have hB3 := (hB1.trans (hbM.mono (by omega))).trans (hd.mono (by simp; omega))
  have hs3 : (w1.alloc (celO W a' N c' 25)).drew.heap.size = w1.heap.size + 1 := by simp
  have hlt1 := m2.lt
  simp only [size_al] at hL3
  clear rc hc0 hT1 hBc r1 hB1 hc1 hL1 hbM hd
  have x0 := m2.c0
  have x1 := m2.c1
  go_wp2_with fail
  go_region_held3 (fun w' => w'.cell? ⟨w1.heap.size, 0, none⟩ = some (.int .i64 W) ∧ w'.cell? ⟨w1.heap.size, 1, none⟩ = some (.slice a' N c'))
    (first | (exact keepD m3) | (exact keepD m4) | (exact keepD m5) | (exact keepD m6) | (exact keepD m7) | (exact keepD ((m7.far _ (by omega)).far _ (by omega))) | (fail))
    (first | (go_at_call 11; refine (pick_any (w.heap.size + 1) a len cap n6 4 _ hc6 (by omega)).mono ?_; rintro e w7 ⟨p7, n7, rfl, h70, -, h72, hn7, hc7, hO7⟩; have m7 := m6.turns (on_turns hO7) (.inr (by omega)); have r7 := r6.turns (on_turns hO7) (.inl (by omega)); have hT7 := hT6.trans (on_turns hO7); have y0 := r7.c0; have y1 := r7.c1; have f0 := r7.fz 0; have f1 := r7.fz 1; have l7 := r7.lt) | (go_at_call 11; refine (pick_any (w.heap.size + 1) a len cap n5 2 _ hc5 (by omega)).mono ?_; rintro e w6 ⟨p6, n6, rfl, h60, -, h62, hn6, hc6, hO6⟩; have m6 := m5.turns (on_turns hO6) (.inr (by omega)); have r6 := r5.turns (on_turns hO6) (.inl (by omega)); have hT6 := hT5.trans (on_turns hO6)) | (go_at_call 11; refine (pick_any (w.heap.size + 1) a len cap n4 5 _ hc4 (by omega)).mono ?_; rintro e w5 ⟨p5, n5, rfl, h50, -, h52, hn5, hc5, hO5⟩; have m5 := m4.turns (on_turns hO5) (.inr (by omega)); have r5 := r4.turns (on_turns hO5) (.inl (by omega)); have hT5 := hT4.trans (on_turns hO5)) | (go_at_call 10; refine (places_any (w.heap.size + 1) a len cap n1 W a' N c' F _ hc3 (by omega) (by omega) hL3.il).mono ?_; rintro e w4 ⟨b4, c4, l4, n4, rfl, hl4, hL4, hn4, hc4, hT4⟩; have m4 := m3.turns hT4 (.inr (by omega)); have r4 := r3.turns hT4 (.inl (by omega))) | (fail))
  have hT47 := ((on_turns hO5).trans (on_turns hO6)).trans (on_turns hO7)
  have bE := (r7.set 0 (by simp) (.int .i64 W)).set 1 (by simp) (.slice a' N c')
  have hBE : Below w.heap.size w7 ((w7.setCell ⟨w.heap.size, 0, none⟩ (.int .i64 W)).setCell ⟨w.heap.size, 1, none⟩ (.slice a' N c')) := ((Below.refl _ _).setCell (p := ⟨w.heap.size, 0, none⟩) (by simp) _).setCell (p := ⟨w.heap.size, 1, none⟩) (by simp) _
  have hBz := (hB3.trans (hT7.below (B := w.heap.size) (by omega) (by omega))).trans hBE
  have hQ1 := lq_set (lq_set (hL3.turns hT7 (.inr (by omega))) (b := w.heap.size) (k := 0) (.int .i64 W) (.inl (by omega))) (b := w.heap.size) (k := 1) (.slice a' N c') (.inl (by omega))
  have hQ2 := lq_set (lq_set (hL4.turns hT47 (.inr (by omega))) (b := w.heap.size) (k := 0) (.int .i64 W) (.inl (by omega))) (b := w.heap.size) (k := 1) (.slice a' N c') (.inl (by omega))
  have hi1 := hQ1.il
  have hi2 := hQ2.il
  go_wp2_with fail
  refine ret_see Tryd.results4 rfl bE.c0 bE.c1 rfl ?_
  exact ⟨⟨W, a', N, c', F, b4, l4.length, c4, gl l4, _, _, rfl, hi1, hi2, by omega, by omega⟩, hBz⟩
theorem fnPlacesAll (a : Option Addr) (len cap : Nat) (w : World) (hm : len ≤ 9223372036854775807) (hb : 0 < len → ∃ b off, a = some ⟨b, off, none⟩ ∧ b < w.heap.size ∧ ∀ i, i < len → ∃ v : Int, w.cell? ⟨b, off + i, none⟩ = some (.int .u8 v) ∧ 0 ≤ v ∧ v ≤ 255) (hT : Tab w) :
    Calls Tryd.prog 3 #[.slice a len cap] w fun e w' => e = .returned (.bool true) ∧ Below w.heap.size w w' := by
  by_cases h : len ≤ 1048576
  · exact fnPlaces a len cap w h hT (drawSee a len cap w h hb)
  · exact fnPlaces_long a len cap w (by omega) hm
end Go.Proofs.YtipopglbpfdcmaaDoor
