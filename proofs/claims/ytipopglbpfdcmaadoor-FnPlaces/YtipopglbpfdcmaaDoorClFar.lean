/- How far one sees, as both tell it. -/
import Derived.Test.YtipopglbpfdcmaaDoorClSpec
import Derived.Test.YtipopglbpfdcmaaDoorClStep
namespace Go.Proofs.YtipopglbpfdcmaaDoor
open Go.RowKit

/-- what FarOf tells -/
def farV (W : Int) (n : Nat) (f : Nat → Int) (p v : Int) : Int := if celB W n f && frB n f p && wayB v then (farN W (hgt W n) f v.toNat p.toNat : Nat) else -1

set_option maxHeartbeats 2000000 in
theorem specFar_no (W : Int) (a : Option Addr) (n c : Nat) (f : Nat → Int) (p v : Int) (w : World) (hn : n ≤ 1048576) (hf : IL w a n f) (hno : (celB W n f && frB n f p && wayB v) = false) :
    Calls Tryd.prog 17 #[cel W a n c, .int .i64 p, .int .i64 v] w fun e w' => e = .returned (.int .i64 (-1)) ∧ Below w.heap.size w w' := by
  have hb0 : Below w.heap.size w (w.alloc (celO W a n c 25)) := (Below.refl _ _).alloc (Nat.le_refl _) _
  have b0 := bx_new (w := w) (celL W a n c) 25 rfl
  cases hg : celB W n f with
  | false =>
    go_enter Tryd.func17, Tryd.ntmps17
    go_wp2_with fail
    refine (specGoodL W a n c f _ hn (hf.below hb0)).mono ?_
    rw [hg]
    rintro e w1 ⟨rfl, hb1⟩
    have hB1 := stepA hb0 hb1
    go_wp2
    go_ret
    exact ⟨rfl, hB1⟩
  | true =>
    cases hr : frB n f p with
    | false =>
      go_enter Tryd.func17, Tryd.ntmps17
      go_wp2_with fail
      refine (specGoodL W a n c f _ hn (hf.below hb0)).mono ?_
      rw [hg]
      rintro e w1 ⟨rfl, hb1⟩
      have hB1 := stepA hb0 hb1
      have b1 := b0.on hb1
      have x0 := b1.c0
      have x1 := b1.c1
      go_wp2_with fail
      refine (sfree_any W a n c f p _ (hf.below hB1) hn).mono ?_
      rw [hr]
      rintro e w2 ⟨rfl, hb2⟩
      have hB2 := stepA hB1 hb2
      go_wp2
      go_ret
      exact ⟨rfl, hB2⟩
    | true =>
      have hv : wayB v = false := by simpa [hg, hr] using hno
      go_enter Tryd.func17, Tryd.ntmps17
      go_wp2_with fail
      refine (specGoodL W a n c f _ hn (hf.below hb0)).mono ?_
      rw [hg]
      rintro e w1 ⟨rfl, hb1⟩
      have hB1 := stepA hb0 hb1
      have b1 := b0.on hb1
      have x0 := b1.c0
      have x1 := b1.c1
      go_wp2_with fail
      refine (sfree_any W a n c f p _ (hf.below hB1) hn).mono ?_
      rw [hr]
      rintro e w2 ⟨rfl, hb2⟩
      have hB2 := stepA hB1 hb2
      go_wp2_with fail
      refine (sway_any v _).mono ?_
      rw [hv]
      rintro e w3 ⟨rfl, hw3⟩
      have hs3 := hw3.symm
      clear hw3
      subst hs3
      go_wp2
      go_ret
      exact ⟨rfl, hB2⟩
theorem idx_mod {W x y : Int} (h : 0 ≤ x ∧ x < W) : (y * W + x) % W = x ∧ (y * W + x) / W = y := by
  constructor
  · rw [Int.add_comm, Int.add_mul_emod_self_right, Int.emod_eq_of_lt h.1 h.2]
  · rw [Int.add_comm, Int.add_mul_ediv_right _ _ (show W ≠ 0 by omega), Int.ediv_eq_zero_of_lt h.1 h.2, Int.zero_add]

set_option maxHeartbeats 4000000 in
theorem specFar_yes (W : Int) (a : Option Addr) (n c : Nat) (f : Nat → Int) (p v : Nat) (w : World) (hf : IL w a n f) (hg : celB W n f = true) (hr : frB n f (p : Int) = true) (hv : v < 4) :
    Calls Tryd.prog 17 #[cel W a n c, .int .i64 (p : Int), .int .i64 (v : Int)] w fun e w' => e = .returned (.int .i64 (farN W (hgt W n) f v p : Nat)) ∧ Below w.heap.size w w' := by
  have hs := (celB_parts hg).1
  obtain ⟨hH, hH1, hH2⟩ := hgt_mul hs
  obtain ⟨hW1, hW2, -, -, -⟩ := sizedB_t hs
  have hn := sized_le hs
  have hp : p < n := by have := (frB_t hr).2.1; omega
  have hvB' : wayB (v : Int) = true := by simp [wayB]; omega
  have hd := d_bd v hv
  unfold farN
  have hb0 : Below w.heap.size w (w.alloc (celO W a n c 25)) := (Below.refl _ _).alloc (Nat.le_refl _) _
  have b0 := bx_new (w := w) (celL W a n c) 25 rfl
  go_enter Tryd.func17, Tryd.ntmps17
  go_wp2_with fail
  refine (specGoodL W a n c f _ (by omega) (hf.below hb0)).mono ?_
  rw [hg]
  rintro e w1 ⟨rfl, hb1⟩
  have hB1 := stepA hb0 hb1
  have b1 := b0.on hb1
  have x0 := b1.c0
  have x1 := b1.c1
  go_wp2_with fail
  refine (sfree_any W a n c f p _ (hf.below hB1) (by omega)).mono ?_
  rw [hr]
  rintro e w2 ⟨rfl, hb2⟩
  have hB2 := stepA hB1 hb2
  have b2 := b1.on hb2
  clear x0 x1 b0 b1 hb0 hb1 hB1 hb2
  have x0 := b2.c0
  have x1 := b2.c1
  go_wp2_with fail
  refine (sway_any v _).mono ?_
  rw [hvB']
  rintro e w3 ⟨rfl, hw3⟩
  have hs3 := hw3.symm
  clear hw3
  subst hs3
  have hx0 := Int.emod_nonneg (p : Int) (show W ≠ 0 by omega)
  have hx1 := Int.emod_lt_of_pos (p : Int) (show 0 < W by omega)
  have hy0 : 0 ≤ (p : Int) / W := Int.ediv_nonneg (by omega) (by omega)
  have hy1 : (p : Int) / W < hgt W n := by
    refine Int.ediv_lt_of_lt_mul (by omega) ?_
    rw [hH]; omega
  go_wp2_with fail
  refine (next_at W a n c f p v _ (hf.below hB2) hs hv hp).mono ?_
  rintro e w4 ⟨rfl, hb4⟩
  have hB4 := stepA hB2 hb4
  have b4 := b2.on hb4
  clear x0 x1 b2 hB2 hb4
  obtain ⟨X, eX⟩ : ∃ X, (p : Int) % W = X := ⟨_, rfl⟩
  obtain ⟨Y, eY⟩ : ∃ Y, (p : Int) / W = Y := ⟨_, rfl⟩
  obtain ⟨H, eH⟩ : ∃ H, hgt W n = H := ⟨_, rfl⟩
  have HXX : Hid ((p : Int) % W = X) := eX
  have HYY : Hid ((p : Int) / W = Y) := eY
  have HHH : Hid (hgt W n = H) := eH
  rw [eX] at hx0 hx1 ⊢
  rw [eH] at hy1 hH hH1 hH2 ⊢
  rw [eY] at hy0 hy1 ⊢
  clear eX eY eH
  go_wp2
  go_loopw [1, 7] (fun q i wr => ∃ (k : Nat) (cx cy : Int), k ≤ 16 ∧ i = .int .i64 k ∧ q = .int .i64 (nx W H f v cx cy) ∧ cx = X + (k : Int) * dX v ∧ cy = Y + (k : Int) * dY v ∧ (∀ j : Nat, 1 ≤ j → j ≤ k → fre W H f (X + (j : Int) * dX v) (Y + (j : Int) * dY v) = true) ∧ Below w4.heap.size w4 wr) (fun _ i _ => 17 - (intOf i).toNat)
  case atStart => exact ⟨0, X, Y, by omega, rfl, rfl, by simp, by simp, fun j h1 h2 => by omega, Below.refl _ _⟩
  case round =>
    obtain ⟨k, cx, cy, hk, rfl, rfl, ecx, ecy, hall, hB⟩ := hrel
    have hBw := hB4.trans (hB.mono hB4.size)
    have ex : cx + dX v = X + ((k + 1 : Nat) : Int) * dX v := by
      have : ((k + 1 : Nat) : Int) * dX v = (k : Int) * dX v + dX v := by rw [Int.natCast_add, Int.add_mul]; simp
      omega
    have ey : cy + dY v = Y + ((k + 1 : Nat) : Int) * dY v := by
      have : ((k + 1 : Nat) : Int) * dY v = (k : Int) * dY v + dY v := by rw [Int.natCast_add, Int.add_mul]; simp
      omega
    have b5 := b4.on hB
    have x0 := b5.c0
    have x1 := b5.c1
    have hf5 := hf.below hBw
    cases hq : fre W H f (cx + dX v) (cy + dY v) with
    | true =>
      have hin := (kA_free hq).2
      have hk2 := far_go hd ecx ecy ⟨hx0, hx1, hy0, hy1, hW2, hH2⟩ hin
      have hi := idx_bd hH hin
      have hm := idx_mod (y := cy + dY v) (W := W) (x := cx + dX v) ⟨hin.1, hin.2.1⟩
      obtain ⟨q, eq⟩ := Int.eq_ofNat_of_zero_le (show 0 ≤ (cy + dY v) * W + (cx + dX v) by omega)
      have hqn : q < n := by omega
      have hnx : nx W H f v cx cy = (q : Int) := by unfold nx; rw [hq, ← eq]; rfl
      rw [eq] at hm
      have hnext := next_at W a n c f q v wr hf5 hs hv hqn
      rw [hm.1, hm.2, HHH.out] at hnext
      rw [hnx]
      have hall2 : ∀ j : Nat, 1 ≤ j → j ≤ k + 1 → fre W H f (X + (j : Int) * dX v) (Y + (j : Int) * dY v) = true := fun j h1 h2 => by
        by_cases e : j = k + 1
        · subst e; rw [← ex, ← ey]; exact hq
        · exact hall j h1 (by omega)
      have HA : Hid (∀ j : Nat, 1 ≤ j → j ≤ k + 1 → fre W H f (X + (j : Int) * dX v) (Y + (j : Int) * dY v) = true) := hall2
      have HX : Hid (cx + dX v = X + ((k + 1 : Nat) : Int) * dX v) := ex
      have HY : Hid (cy + dY v = Y + ((k + 1 : Nat) : Int) * dY v) := ey
      have j0 : (0 : Int) ≤ (q : Int) := by omega
      clear ecx ecy ex ey hall hall2 hd hq hin hi hm eq hnx b4 b5 hf hf5
      go_wp2_with fail
      refine hnext.mono ?_
      rintro e w6 ⟨rfl, hb6⟩
      clear x0 x1 hnext
      go_wp2
      exact ⟨⟨k + 1, _, _, hk2, by go_num, rfl, HX.out, HY.out, HA.out, hB.trans (hb6.mono hB.size)⟩, by simp [intOf]; omega⟩
    | false =>
      have hnx : nx W H f v cx cy = -1 := by unfold nx; rw [hq]; rfl
      rw [hnx]
      have hr2 := fc_run (W := W) (H := H) (f := f) (v := v) k 17 X Y (by omega) hall (by rw [← ex, ← ey]; exact hq)
      have HR : Hid (fc W H f v 17 X Y = k) := hr2
      clear ecx ecy ex ey hall hr2 hd hq hnx b4 b5 hf hf5 x0 x1
      go_wp2
      go_ret
      exact ⟨ret_int (by rw [HHH.out, HXX.out, HYY.out, HR.out]), hBw⟩

theorem specFar (W : Int) (a : Option Addr) (n c : Nat) (f : Nat → Int) (p v : Int) (w : World) (hn : n ≤ 1048576) (hf : IL w a n f) :
    Calls Tryd.prog 17 #[cel W a n c, .int .i64 p, .int .i64 v] w fun e w' => e = .returned (.int .i64 (farV W n f p v)) ∧ Below w.heap.size w w' := by
  unfold farV
  cases h : (celB W n f && frB n f p && wayB v) with
  | false => exact specFar_no W a n c f p v w hn hf h
  | true =>
    simp only [Bool.and_eq_true] at h
    obtain ⟨⟨h1, h2⟩, h3⟩ := h
    have h4 := wayB_t h3
    have h5 := frB_t h2
    obtain ⟨p, rfl⟩ := Int.eq_ofNat_of_zero_le h5.1
    obtain ⟨v, rfl⟩ := Int.eq_ofNat_of_zero_le h4.1
    exact specFar_yes W a n c f p v w hf h1 h2 (by omega)

theorem farV_no {W : Int} {n : Nat} {f : Nat → Int} {p v : Int} (h : (celB W n f && frB n f p && wayB v) = false) : farV W n f p v = -1 := by
  unfold farV
  rw [h]
  rfl
end Go.Proofs.YtipopglbpfdcmaaDoor
