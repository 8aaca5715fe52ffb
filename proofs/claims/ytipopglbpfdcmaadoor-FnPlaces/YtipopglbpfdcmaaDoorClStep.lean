/- How far one sees: as the program reckons it. -/
import Derived.Test.YtipopglbpfdcmaaDoorClKind
namespace Go.Proofs.YtipopglbpfdcmaaDoor
open Go.RowKit

set_option maxHeartbeats 4000000 in
theorem far_any (W : Int) (a : Option Addr) (n c : Nat) (f : Nat → Int) (p v : Nat) (w : World) (hf : IL w a n f) (hs : sizedB W n = true) (hv : v < 4) (hp : p < n) (hT : Tab w) :
    Calls Tryd.prog 14 #[gr W (hgt W n) a n c, .int .i64 (p : Int), .int .i64 (v : Int)] w fun e w' => e = .returned (.int .i64 (farN W (hgt W n) f v p : Nat)) ∧ Below w.heap.size w w' := by
  obtain ⟨hH, hH1, hH2⟩ := hgt_mul hs
  obtain ⟨hW1, hW2, -, -, -⟩ := sizedB_t hs
  have hn := sized_le hs
  have hd := d_bd v hv
  unfold farN
  generalize hgt W n = H at *
  have hb0 : Below w.heap.size w (w.alloc (.cells #[.int .i64 W, .int .i64 H, .slice a n c] 42)) := (Below.refl _ _).alloc (Nat.le_refl _) _
  have b0 := bx_new (w := w) [.int .i64 W, .int .i64 H, .slice a n c] 42 rfl
  go_enter Tryd.func14, Tryd.ntmps14
  go_wp2_with fail
  go_step3
  go_wp2_with fail
  refine (place_any W H p _ hW1 hW2 (by omega)).mono ?_
  rintro e w1 ⟨rfl, hb1⟩
  have hB1 := stepA hb0 hb1
  have b1 := b0.on hb1
  have hf1 := hf.below hB1
  have hT1 := hT.on hB1
  have hx0 := Int.emod_nonneg (p : Int) (show W ≠ 0 by omega)
  have hx1 := Int.emod_lt_of_pos (p : Int) (show 0 < W by omega)
  have hy0 : 0 ≤ (p : Int) / W := Int.ediv_nonneg (by omega) (by omega)
  have hy1 : (p : Int) / W < H := by
    refine Int.ediv_lt_of_lt_mul (by omega) ?_
    rw [hH]; omega
  obtain ⟨X, eX⟩ : ∃ X, (p : Int) % W = X := ⟨_, rfl⟩
  obtain ⟨Y, eY⟩ : ∃ Y, (p : Int) / W = Y := ⟨_, rfl⟩
  have HXX : Hid ((p : Int) % W = X) := eX
  have HYY : Hid ((p : Int) / W = Y) := eY
  rw [eX] at hx0 hx1 ⊢
  rw [eY] at hy0 hy1 ⊢
  clear hb0 b0 hb1 hf hT eX eY
  go_wp2
  go_step3
  go_wp2
  go_loopw [7, 8, 9] (fun i x y wr => ∃ (k : Nat) (cx cy : Int), k ≤ 16 ∧ i = .int .i64 k ∧ x = .int .i64 cx ∧ y = .int .i64 cy ∧ cx = X + (k : Int) * dX v ∧ cy = Y + (k : Int) * dY v ∧ (∀ j : Nat, 1 ≤ j → j ≤ k → fre W H f (X + (j : Int) * dX v) (Y + (j : Int) * dY v) = true) ∧ Below w1.heap.size w1 wr) (fun i _ _ _ => 17 - (intOf i).toNat)
  case atStart => exact ⟨0, X, Y, by omega, rfl, rfl, rfl, by simp, by simp, fun j h1 h2 => by omega, Below.refl _ _⟩
  case round =>
    obtain ⟨k, cx, cy, hk, rfl, rfl, rfl, ecx, ecy, hall, hB⟩ := hrel
    have hBw := hB1.trans (hB.mono hB1.size)
    have ex : cx + dX v = X + ((k + 1 : Nat) : Int) * dX v := by
      have : ((k + 1 : Nat) : Int) * dX v = (k : Int) * dX v + dX v := by rw [Int.natCast_add, Int.add_mul]; simp
      omega
    have ey : cy + dY v = Y + ((k + 1 : Nat) : Int) * dY v := by
      have : ((k + 1 : Nat) : Int) * dY v = (k : Int) * dY v + dY v := by rw [Int.natCast_add, Int.add_mul]; simp
      omega
    have hbd := far_bd hd ecx ecy (by omega) hk
    have hgo : fre W H f (cx + dX v) (cy + dY v) = true → k + 1 ≤ 16 := fun q => far_go hd ecx ecy (by omega) (kA_free q).2
    have hT2 := hT1.on hB
    have t0 : wr.cell? ⟨0, v, none⟩ = some (.int .i64 (dX v)) := hT2.x v hv
    have t1 : wr.cell? ⟨1, v, none⟩ = some (.int .i64 (dY v)) := hT2.y v hv
    have i0 : (0 : Int) ≤ (v : Int) := by omega
    have i1 : (v : Int) < 4 := by omega
    have b2 := b1.on hB
    have x0 := b2.c0
    have x1 := b2.c1
    have x2 := b2.c2
    have hf2 := hf1.below hB
    clear hd hT1 hT2
    obtain ⟨u, hu⟩ : ∃ u, dX v = u := ⟨_, rfl⟩
    obtain ⟨z, hz⟩ : ∃ z, dY v = z := ⟨_, rfl⟩
    have HU : Hid (dX v = u) := hu
    have HZ : Hid (dY v = z) := hz
    rw [hu] at ecx ex hbd hgo t0 hall
    rw [hz] at ecy ey hbd hgo t1 hall
    clear hu hz
    have HX : Hid (cx + u = X + ((k + 1 : Nat) : Int) * u) := ex
    have HY : Hid (cy + z = Y + ((k + 1 : Nat) : Int) * z) := ey
    have HA : Hid (∀ j : Nat, 1 ≤ j → j ≤ k → fre W H f (X + (j : Int) * u) (Y + (j : Int) * z) = true) := hall
    have HG : Hid (fre W H f (cx + u) (cy + z) = true → k + 1 ≤ 16) := hgo
    clear ecx ecy ex ey hall hgo x0 x1 x2
    go_wp2_with fail
    go_region
    have hd : Below wr.heap.size wr wr.drew := (Below.refl _ _).drew
    replace b2 := b2.on hd
    have x0 := b2.c0
    have x1 := b2.c1
    have x2 := b2.c2
    replace hf2 := hf2.below hd
    replace hB := hB.trans (hd.mono hB.size)
    replace hBw := hBw.trans (hd.mono hBw.size)
    clear hd t0 t1 b1
    generalize wr.drew = wd at b2 x0 x1 x2 hf2 hB hBw ⊢
    go_wp2_with fail
    refine (kindAt_any W H a n c f (cx + u) (cy + z) wd hf2 hn.2 hH hW2).mono ?_
    rintro e w4 ⟨rfl, hb4⟩
    have hB4 := hB.trans (hb4.mono hB.size)
    have hBw4 := hBw.trans (hb4.mono hBw.size)
    clear b2 x0 x1 x2 hf2 hB hBw hb4
    cases hq : fre W H f (cx + u) (cy + z) with
    | true =>
      rw [(kA_free hq).1]
      have hk2 := HG.out hq
      go_wp2
      refine ⟨⟨k + 1, _, _, hk2, by go_num, rfl, rfl, by rw [HU.out]; exact HX.out, by rw [HZ.out]; exact HY.out, fun j h1 h2 => ?_, hB4⟩, by simp [intOf]; omega⟩
      rw [HU.out, HZ.out]
      by_cases e : j = k + 1
      · subst e; rw [← HX.out, ← HY.out]; exact hq
      · exact HA.out j h1 (by omega)
    | false =>
      have hne := kA_not hq
      have hr := fc_run (W := W) (H := H) (f := f) (v := v) k 17 X Y (by omega)
      rw [HU.out, HZ.out] at hr
      have hr2 := hr HA.out (by rw [← HX.out, ← HY.out]; exact hq)
      have HR : Hid (fc W H f v 17 X Y = k) := hr2
      clear hr hr2 HX HY HA HG HU HZ hq
      generalize kA W H f (cx + u) (cy + z) = q at hne
      go_wp2
      first | go_ret | (rw [Exit.noGoto_ret]; go_ret)
      exact ⟨ret_int (by rw [HXX.out, HYY.out, HR.out]), hBw4⟩
end Go.Proofs.YtipopglbpfdcmaaDoor
