/- The cell behind one along a way, as the model tells it. -/
import Derived.Test.YtbndhhjgjalecabDoorQClVal
import Derived.Test.YtbndhhjgjalecabDoorQSzHas
import Derived.Test.YtbndhhjgjalecabDoorQClFrB
import Derived.WalkMore
namespace Go.Proofs.YtbndhhjgjalecabDoor
open Go.RowKit
set_option maxHeartbeats 2000000 in
theorem next_at (W : Int) (a : Option Addr) (n c : Nat) (f : Nat → Int) (p v : Nat) (w : World) (hf : IL w a n f) (hs : sizedB W n = true) (hv : v < 4) (hp : p < n) :
    Calls Tryd.prog 20 #[cel W a n c, .int .i64 (p : Int), .int .i64 (v : Int)] w fun e w' => e = .returned (.int .i64 (nx W (hgt W n) f v ((p : Int) % W) ((p : Int) / W))) ∧ Below w.heap.size w w' := by
  obtain ⟨hH, hH1, hH2⟩ := hgt_mul hs
  obtain ⟨hW1, hW2, -, -, -⟩ := sizedB_t hs
  have hn := sized_le hs
  have hb0 : Below w.heap.size w (w.alloc (celO W a n c 29)) := (Below.refl _ _).alloc (Nat.le_refl _) _
  have b0 := bx_new (w := w) (celL W a n c) 29 rfl
  have j0 : (0 : Int) ≤ (p : Int) := by omega
  have hz : ¬ W = 0 := by omega
  have et := Int.tmod_eq_emod_of_nonneg (a := (p : Int)) (b := W) (by omega)
  have ed := Int.tdiv_eq_ediv_of_nonneg (a := (p : Int)) (b := W) (by omega)
  have hx0 := Int.emod_nonneg (p : Int) (show W ≠ 0 by omega)
  have hx1 := Int.emod_lt_of_pos (p : Int) (show 0 < W by omega)
  have hy0 : 0 ≤ (p : Int) / W := Int.ediv_nonneg (by omega) (by omega)
  have hy1 : (p : Int) / W ≤ (p : Int) := Int.ediv_le_self _ (by omega)
  obtain ⟨X, eX⟩ : ∃ X, (p : Int) % W = X := ⟨_, rfl⟩
  obtain ⟨Y, eY⟩ : ∃ Y, (p : Int) / W = Y := ⟨_, rfl⟩
  have HXX : Hid ((p : Int) % W = X) := eX
  have HYY : Hid ((p : Int) / W = Y) := eY
  match v, hv with
  | 0, _ =>
    have hnx : nx W (hgt W n) f 0 X Y = if fre W (hgt W n) f (X + 1) (Y) then (Y) * W + (X + 1) else -1 := by
      unfold nx
      have e1 : X + dX 0 = X + 1 := by simp [dX] <;> omega
      have e2 : Y + dY 0 = Y := by simp [dY] <;> omega
      rw [e1, e2]
    go_enter Tryd.func20, Tryd.ntmps20
    go_wp2_with fail
    refine (has_any W n (X + 1) (Y) _ hW1 (by omega)).mono ?_
    cases hq : hvB W (hgt W n) (X + 1) (Y) with
    | false =>
      rintro e w1 ⟨rfl, hw1⟩
      have hs1 := hw1.symm
      clear hw1
      subst hs1
      have hr : fre W (hgt W n) f (X + 1) (Y) = false := by simp [fre, hq]
      rw [hr] at hnx
      have HN : Hid (nx W (hgt W n) f 0 X Y = -1) := hnx
      clear hnx hr eX eY
      go_wp2
      go_ret
      exact ⟨ret_int (by rw [HXX.out, HYY.out, HN.out]), hb0⟩
    | true =>
      rintro e w1 ⟨rfl, hw1⟩
      have hs1 := hw1.symm
      clear hw1
      subst hs1
      have hi := idx_bd hH (hvB_t hq)
      have ht := hvB_t hq
      obtain ⟨q, off, rfl, hb, hc⟩ := hf (by omega)
      have x3 := (hb0.cell (p := ⟨q, off + ((Y) * W + (X + 1)).toNat, none⟩) hb).trans (hc _ (show ((Y) * W + (X + 1)).toNat < n by omega))
      have k0 : 0 ≤ (Y) * W + (X + 1) := by omega
      have k1 : (Y) * W + (X + 1) < (n : Int) := hi.2
      cases hr : fre W (hgt W n) f (X + 1) (Y) with
      | false =>
        have hne := fre_no hr hq
        rw [hr] at hnx
        have HN : Hid (nx W (hgt W n) f 0 X Y = -1) := hnx
        generalize f ((Y) * W + (X + 1)).toNat = z at x3 hne
        have hne2 : (z != 0) = true := by simpa using hne
        clear hnx hr eX eY hc hne hf
        go_wp2
        go_ret
        exact ⟨ret_int (by rw [HXX.out, HYY.out, HN.out]), hb0⟩
      | true =>
        rw [(fre_hv hr).2] at x3
        rw [hr] at hnx
        have HN : Hid (nx W (hgt W n) f 0 X Y = (Y) * W + (X + 1)) := hnx
        clear hnx hr eX eY hc hf
        go_wp2
        go_ret
        exact ⟨ret_int (by rw [HXX.out, HYY.out, HN.out]), hb0⟩
  | 1, _ =>
    have hnx : nx W (hgt W n) f 1 X Y = if fre W (hgt W n) f (X) (Y + 1) then (Y + 1) * W + (X) else -1 := by
      unfold nx
      have e1 : X + dX 1 = X := by simp [dX] <;> omega
      have e2 : Y + dY 1 = Y + 1 := by simp [dY] <;> omega
      rw [e1, e2]
    go_enter Tryd.func20, Tryd.ntmps20
    go_wp2_with fail
    refine (has_any W n (X) (Y + 1) _ hW1 (by omega)).mono ?_
    cases hq : hvB W (hgt W n) (X) (Y + 1) with
    | false =>
      rintro e w1 ⟨rfl, hw1⟩
      have hs1 := hw1.symm
      clear hw1
      subst hs1
      have hr : fre W (hgt W n) f (X) (Y + 1) = false := by simp [fre, hq]
      rw [hr] at hnx
      have HN : Hid (nx W (hgt W n) f 1 X Y = -1) := hnx
      clear hnx hr eX eY
      go_wp2
      go_ret
      exact ⟨ret_int (by rw [HXX.out, HYY.out, HN.out]), hb0⟩
    | true =>
      rintro e w1 ⟨rfl, hw1⟩
      have hs1 := hw1.symm
      clear hw1
      subst hs1
      have hi := idx_bd hH (hvB_t hq)
      have ht := hvB_t hq
      obtain ⟨q, off, rfl, hb, hc⟩ := hf (by omega)
      have x3 := (hb0.cell (p := ⟨q, off + ((Y + 1) * W + (X)).toNat, none⟩) hb).trans (hc _ (show ((Y + 1) * W + (X)).toNat < n by omega))
      have k0 : 0 ≤ (Y + 1) * W + (X) := by omega
      have k1 : (Y + 1) * W + (X) < (n : Int) := hi.2
      cases hr : fre W (hgt W n) f (X) (Y + 1) with
      | false =>
        have hne := fre_no hr hq
        rw [hr] at hnx
        have HN : Hid (nx W (hgt W n) f 1 X Y = -1) := hnx
        generalize f ((Y + 1) * W + (X)).toNat = z at x3 hne
        have hne2 : (z != 0) = true := by simpa using hne
        clear hnx hr eX eY hc hne hf
        go_wp2
        go_ret
        exact ⟨ret_int (by rw [HXX.out, HYY.out, HN.out]), hb0⟩
      | true =>
        rw [(fre_hv hr).2] at x3
        rw [hr] at hnx
        have HN : Hid (nx W (hgt W n) f 1 X Y = (Y + 1) * W + (X)) := hnx
        clear hnx hr eX eY hc hf
        go_wp2
        go_ret
        exact ⟨ret_int (by rw [HXX.out, HYY.out, HN.out]), hb0⟩
  | 2, _ =>
    have hnx : nx W (hgt W n) f 2 X Y = if fre W (hgt W n) f (X - 1) (Y) then (Y) * W + (X - 1) else -1 := by
      unfold nx
      have e1 : X + dX 2 = X - 1 := by simp [dX] <;> omega
      have e2 : Y + dY 2 = Y := by simp [dY] <;> omega
      rw [e1, e2]
    go_enter Tryd.func20, Tryd.ntmps20
    go_wp2_with fail
    refine (has_any W n (X - 1) (Y) _ hW1 (by omega)).mono ?_
    cases hq : hvB W (hgt W n) (X - 1) (Y) with
    | false =>
      rintro e w1 ⟨rfl, hw1⟩
      have hs1 := hw1.symm
      clear hw1
      subst hs1
      have hr : fre W (hgt W n) f (X - 1) (Y) = false := by simp [fre, hq]
      rw [hr] at hnx
      have HN : Hid (nx W (hgt W n) f 2 X Y = -1) := hnx
      clear hnx hr eX eY
      go_wp2
      go_ret
      exact ⟨ret_int (by rw [HXX.out, HYY.out, HN.out]), hb0⟩
    | true =>
      rintro e w1 ⟨rfl, hw1⟩
      have hs1 := hw1.symm
      clear hw1
      subst hs1
      have hi := idx_bd hH (hvB_t hq)
      have ht := hvB_t hq
      obtain ⟨q, off, rfl, hb, hc⟩ := hf (by omega)
      have x3 := (hb0.cell (p := ⟨q, off + ((Y) * W + (X - 1)).toNat, none⟩) hb).trans (hc _ (show ((Y) * W + (X - 1)).toNat < n by omega))
      have k0 : 0 ≤ (Y) * W + (X - 1) := by omega
      have k1 : (Y) * W + (X - 1) < (n : Int) := hi.2
      cases hr : fre W (hgt W n) f (X - 1) (Y) with
      | false =>
        have hne := fre_no hr hq
        rw [hr] at hnx
        have HN : Hid (nx W (hgt W n) f 2 X Y = -1) := hnx
        generalize f ((Y) * W + (X - 1)).toNat = z at x3 hne
        have hne2 : (z != 0) = true := by simpa using hne
        clear hnx hr eX eY hc hne hf
        go_wp2
        go_ret
        exact ⟨ret_int (by rw [HXX.out, HYY.out, HN.out]), hb0⟩
      | true =>
        rw [(fre_hv hr).2] at x3
        rw [hr] at hnx
        have HN : Hid (nx W (hgt W n) f 2 X Y = (Y) * W + (X - 1)) := hnx
        clear hnx hr eX eY hc hf
        go_wp2
        go_ret
        exact ⟨ret_int (by rw [HXX.out, HYY.out, HN.out]), hb0⟩
  | 3, _ =>
    have hnx : nx W (hgt W n) f 3 X Y = if fre W (hgt W n) f (X) (Y - 1) then (Y - 1) * W + (X) else -1 := by
      unfold nx
      have e1 : X + dX 3 = X := by simp [dX] <;> omega
      have e2 : Y + dY 3 = Y - 1 := by simp [dY] <;> omega
      rw [e1, e2]
    go_enter Tryd.func20, Tryd.ntmps20
    go_wp2_with fail
    refine (has_any W n (X) (Y - 1) _ hW1 (by omega)).mono ?_
    cases hq : hvB W (hgt W n) (X) (Y - 1) with
    | false =>
      rintro e w1 ⟨rfl, hw1⟩
      have hs1 := hw1.symm
      clear hw1
      subst hs1
      have hr : fre W (hgt W n) f (X) (Y - 1) = false := by simp [fre, hq]
      rw [hr] at hnx
      have HN : Hid (nx W (hgt W n) f 3 X Y = -1) := hnx
      clear hnx hr eX eY
      go_wp2
      go_ret
      exact ⟨ret_int (by rw [HXX.out, HYY.out, HN.out]), hb0⟩
    | true =>
      rintro e w1 ⟨rfl, hw1⟩
      have hs1 := hw1.symm
      clear hw1
      subst hs1
      have hi := idx_bd hH (hvB_t hq)
      have ht := hvB_t hq
      obtain ⟨q, off, rfl, hb, hc⟩ := hf (by omega)
      have x3 := (hb0.cell (p := ⟨q, off + ((Y - 1) * W + (X)).toNat, none⟩) hb).trans (hc _ (show ((Y - 1) * W + (X)).toNat < n by omega))
      have k0 : 0 ≤ (Y - 1) * W + (X) := by omega
      have k1 : (Y - 1) * W + (X) < (n : Int) := hi.2
      cases hr : fre W (hgt W n) f (X) (Y - 1) with
      | false =>
        have hne := fre_no hr hq
        rw [hr] at hnx
        have HN : Hid (nx W (hgt W n) f 3 X Y = -1) := hnx
        generalize f ((Y - 1) * W + (X)).toNat = z at x3 hne
        have hne2 : (z != 0) = true := by simpa using hne
        clear hnx hr eX eY hc hne hf
        go_wp2
        go_ret
        exact ⟨ret_int (by rw [HXX.out, HYY.out, HN.out]), hb0⟩
      | true =>
        rw [(fre_hv hr).2] at x3
        rw [hr] at hnx
        have HN : Hid (nx W (hgt W n) f 3 X Y = (Y - 1) * W + (X)) := hnx
        clear hnx hr eX eY hc hf
        go_wp2
        go_ret
        exact ⟨ret_int (by rw [HXX.out, HYY.out, HN.out]), hb0⟩
end Go.Proofs.YtbndhhjgjalecabDoor
