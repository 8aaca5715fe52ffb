/- Do the first paths let one go, as the model tells it. -/
import Derived.Test.YtbndhhjgjalecaaDoorQCwMtS
import Derived.Test.YtbndhhjgjalecaaDoorQCwPnM
import Derived.Test.YtbndhhjgjalecaaDoorQClNxB
import Derived.WalkMore
namespace Go.Proofs.YtbndhhjgjalecaaDoor
open Go.RowKit

theorem nhB_no {R : Nat → Nat → Int} {k : Nat} {a b : Int} {J j : Nat} (hj : j < J) (h : hitB (R j) k a b = true) : nhB R k a b J = false := by
  cases e : nhB R k a b J with
  | false => rfl
  | true => rw [nhB_iff.1 e j hj] at h; cases h
set_option maxRecDepth 20000 in
set_option maxHeartbeats 2000000 in
theorem sFreeP (q : Option Addr) (J c T : Nat) (R : Nat → Nat → Int) (k : Nat) (a b : Int) (w : World) (hJ : J ≤ 1048576) (hT : T ≤ 1048575) (hk : k ≤ T) (h : RR w q J (fun _ => T + 1) R) :
    Calls Tryd.prog 69 #[.slice q J c, .int .i64 (k : Int), .int .i64 a, .int .i64 b] w fun e w' => e = .returned (.bool (nhB R k a b J)) ∧ w' = w := by
  obtain ⟨A, C, hL⟩ := h
  go_enter Tryd.func69, Tryd.ntmps69
  go_wp2
  go_loopw [13] (fun i wr => ∃ m : Nat, m ≤ J ∧ i = .int .i64 m ∧ nhB R k a b m = true ∧ wr = w) (fun i _ => J - (intOf i).toNat)
  case atStart => exact ⟨0, Nat.zero_le _, rfl, rfl, rfl⟩
  case round =>
    obtain ⟨m, hm, rfl, hN, hw⟩ := hrel
    have hw' := hw.symm
    clear hw
    subst hw'
    by_cases hlt : m < J
    · obtain ⟨g, off, rfl, hb, hc⟩ := hL.out (by omega)
      have x0 := hc m hlt
      have hrow := hL.row m hlt
      have j0 : (0 : Int) ≤ (m : Int) := by omega
      have j1 : (m : Int) < (J : Int) := by omega
      have kH := sHits (A m) (T + 1) (C m) (R m) k a b w (by omega) (by omega) hrow
      have HE : Hid (nhB R k a b (m + 1) = (nhB R k a b m && !hitB (R m) k a b)) := rfl
      have HV : Hid (hitB (R m) k a b = true → nhB R k a b J = false) := fun h => nhB_no hlt h
      clear hc hrow
      generalize hitB (R m) k a b = X at kH HE HV
      cases X with
      | true =>
        have HR : Hid (nhB R k a b J = false) := HV.out rfl
        clear HE HV
        go_wp2_with (first | (go_at_call 75; refine kH.mono ?_; rintro e w9 ⟨rfl, hw9⟩; have hs' := hw9.symm; clear hw9; subst hs') | (fail))
        go_ret
        exact ⟨by rw [HR.out]; rfl, rfl⟩
      | false =>
        have hr : nhB R k a b (m + 1) = true := by rw [HE.out, hN]; rfl
        have HR : Hid (nhB R k a b (m + 1) = true) := hr
        clear HE HV hr
        go_wp2_with (first | (go_at_call 75; refine kH.mono ?_; rintro e w9 ⟨rfl, hw9⟩; have hs' := hw9.symm; clear hw9; subst hs') | (fail))
        exact ⟨⟨m + 1, by omega, by go_num, HR.out, trivial⟩, by simp [intOf]; omega⟩
    · have hme : m = J := by omega
      subst hme
      have HR : Hid (nhB R k a b m = true) := hN
      clear hN hL
      go_wp2
      go_ret
      exact ⟨by rw [HR.out]; rfl, rfl⟩
end Go.Proofs.YtbndhhjgjalecaaDoor

/- Which places lie within the sides, as the model says it. -/
namespace Go.Proofs.YtbndhhjgjalecaaDoor
open Go.RowKit

set_option maxHeartbeats 1000000 in
theorem has_any (W : Int) (n : Nat) (x y : Int) (w : World) (h0 : 1 ≤ W) (hn : n ≤ 1048576) :
    Calls Tryd.prog 91 #[.int .i64 W, .int .i64 (n : Int), .int .i64 x, .int .i64 y] w fun e w' => e = .returned (.bool (hvB W (hgt W n) x y)) ∧ w' = w := by
  have j0 : (0 : Int) ≤ (n : Int) := by omega
  have hz : ¬ W = 0 := by omega
  have ed := Int.tdiv_eq_ediv_of_nonneg (a := (n : Int)) (b := W) (by omega)
  have hq0 : 0 ≤ (n : Int) / W := Int.ediv_nonneg (by omega) (by omega)
  have hq1 : (n : Int) / W ≤ (n : Int) := Int.ediv_le_self _ (by omega)
  unfold hgt
  by_cases h1 : 0 ≤ x
  · by_cases h2 : x < W
    · by_cases h3 : 0 ≤ y
      · by_cases h4 : y < (n : Int) / W
        · rw [hvB_mk ⟨h1, h2, h3, h4⟩]
          go_enter Tryd.func91, Tryd.ntmps91
          go_wp2
          go_ret
          exact ⟨rfl, rfl⟩
        · rw [hvB_f (by omega)]
          go_enter Tryd.func91, Tryd.ntmps91
          go_wp2
          go_ret
          exact ⟨rfl, rfl⟩
      · rw [hvB_f (by omega)]
        go_enter Tryd.func91, Tryd.ntmps91
        go_wp2
        go_ret
        exact ⟨rfl, rfl⟩
    · rw [hvB_f (by omega)]
      go_enter Tryd.func91, Tryd.ntmps91
      go_wp2
      go_ret
      exact ⟨rfl, rfl⟩
  · rw [hvB_f (by omega)]
    go_enter Tryd.func91, Tryd.ntmps91
    go_wp2
    go_ret
    exact ⟨rfl, rfl⟩

end Go.Proofs.YtbndhhjgjalecaaDoor

/- The cell behind one along a way, as the model tells it. -/
namespace Go.Proofs.YtbndhhjgjalecaaDoor
open Go.RowKit
set_option maxHeartbeats 2000000 in
theorem next_at (W : Int) (a : Option Addr) (n c : Nat) (f : Nat → Int) (p v : Nat) (w : World) (hf : IL w a n f) (hs : sizedB W n = true) (hv : v < 4) (hp : p < n) :
    Calls Tryd.prog 74 #[cel W a n c, .int .i64 (p : Int), .int .i64 (v : Int)] w fun e w' => e = .returned (.int .i64 (nx W (hgt W n) f v ((p : Int) % W) ((p : Int) / W))) ∧ Below w.heap.size w w' := by
  obtain ⟨hH, hH1, hH2⟩ := hgt_mul hs
  obtain ⟨hW1, hW2, -, -, -⟩ := sizedB_t hs
  have hn := sized_le hs
  have hb0 : Below w.heap.size w (w.alloc (celO W a n c 25)) := (Below.refl _ _).alloc (Nat.le_refl _) _
  have b0 := bx_new (w := w) (celL W a n c) 25 rfl
  have j0 : (0 : Int) ≤ (p : Int) := by omega
  have hz : ¬ W = 0 := by omega
  have et := Int.tmod_eq_emod_of_nonneg (a := (p : Int)) (b := W) (by omega)
  have ed := Int.tdiv_eq_ediv_of_nonneg (a := (p : Int)) (b := W) (by omega)
  have hx0 := Int.emod_nonneg (p : Int) (show W ≠ 0 by omega)
  have hx1 := Int.emod_lt_of_pos (p : Int) (show 0 < W by omega)
  have hy0 : 0 ≤ (p : Int) / W := Int.ediv_nonneg (by omega) (by omega)
  have hy1 : (p : Int) / W ≤ (p : Int) := Int.ediv_le_self _ (by omega)
  obtain ⟨X, eX⟩ : ∃ X, (p : Int) % W = X := ⟨_, rfl⟩
  obtain ⟨Y, eY⟩ : ∃ Y, (p : Int) / W = Y := ⟨_, rfl⟩
  have HXX : Hid ((p : Int) % W = X) := eX
  have HYY : Hid ((p : Int) / W = Y) := eY
  match v, hv with
  | 0, _ =>
    have hnx : nx W (hgt W n) f 0 X Y = if fre W (hgt W n) f (X + 1) (Y) then (Y) * W + (X + 1) else -1 := by
      unfold nx
      have e1 : X + dX 0 = X + 1 := by simp [dX] <;> omega
      have e2 : Y + dY 0 = Y := by simp [dY] <;> omega
      rw [e1, e2]
    go_enter Tryd.func74, Tryd.ntmps74
    go_wp2_with fail
    refine (has_any W n (X + 1) (Y) _ hW1 (by omega)).mono ?_
    cases hq : hvB W (hgt W n) (X + 1) (Y) with
    | false =>
      rintro e w1 ⟨rfl, hw1⟩
      have hs1 := hw1.symm
      clear hw1
      subst hs1
      have hr : fre W (hgt W n) f (X + 1) (Y) = false := by simp [fre, hq]
      rw [hr] at hnx
      have HN : Hid (nx W (hgt W n) f 0 X Y = -1) := hnx
      clear hnx hr eX eY
      go_wp2
      go_ret
      exact ⟨ret_int (by rw [HXX.out, HYY.out, HN.out]), hb0⟩
    | true =>
      rintro e w1 ⟨rfl, hw1⟩
      have hs1 := hw1.symm
      clear hw1
      subst hs1
      have hi := idx_bd hH (hvB_t hq)
      have ht := hvB_t hq
      obtain ⟨q, off, rfl, hb, hc⟩ := hf (by omega)
      have x3 := (hb0.cell (p := ⟨q, off + ((Y) * W + (X + 1)).toNat, none⟩) hb).trans (hc _ (show ((Y) * W + (X + 1)).toNat < n by omega))
      have k0 : 0 ≤ (Y) * W + (X + 1) := by omega
      have k1 : (Y) * W + (X + 1) < (n : Int) := hi.2
      cases hr : fre W (hgt W n) f (X + 1) (Y) with
      | false =>
        have hne := fre_no hr hq
        rw [hr] at hnx
        have HN : Hid (nx W (hgt W n) f 0 X Y = -1) := hnx
        generalize f ((Y) * W + (X + 1)).toNat = z at x3 hne
        have hne2 : (z != 0) = true := by simpa using hne
        clear hnx hr eX eY hc hne hf
        go_wp2
        go_ret
        exact ⟨ret_int (by rw [HXX.out, HYY.out, HN.out]), hb0⟩
      | true =>
        rw [(fre_hv hr).2] at x3
        rw [hr] at hnx
        have HN : Hid (nx W (hgt W n) f 0 X Y = (Y) * W + (X + 1)) := hnx
        clear hnx hr eX eY hc hf
        go_wp2
        go_ret
        exact ⟨ret_int (by rw [HXX.out, HYY.out, HN.out]), hb0⟩
  | 1, _ =>
    have hnx : nx W (hgt W n) f 1 X Y = if fre W (hgt W n) f (X) (Y + 1) then (Y + 1) * W + (X) else -1 := by
      unfold nx
      have e1 : X + dX 1 = X := by simp [dX] <;> omega
      have e2 : Y + dY 1 = Y + 1 := by simp [dY] <;> omega
      rw [e1, e2]
    go_enter Tryd.func74, Tryd.ntmps74
    go_wp2_with fail
    refine (has_any W n (X) (Y + 1) _ hW1 (by omega)).mono ?_
    cases hq : hvB W (hgt W n) (X) (Y + 1) with
    | false =>
      rintro e w1 ⟨rfl, hw1⟩
      have hs1 := hw1.symm
      clear hw1
      subst hs1
      have hr : fre W (hgt W n) f (X) (Y + 1) = false := by simp [fre, hq]
      rw [hr] at hnx
      have HN : Hid (nx W (hgt W n) f 1 X Y = -1) := hnx
      clear hnx hr eX eY
      go_wp2
      go_ret
      exact ⟨ret_int (by rw [HXX.out, HYY.out, HN.out]), hb0⟩
    | true =>
      rintro e w1 ⟨rfl, hw1⟩
      have hs1 := hw1.symm
      clear hw1
      subst hs1
      have hi := idx_bd hH (hvB_t hq)
      have ht := hvB_t hq
      obtain ⟨q, off, rfl, hb, hc⟩ := hf (by omega)
      have x3 := (hb0.cell (p := ⟨q, off + ((Y + 1) * W + (X)).toNat, none⟩) hb).trans (hc _ (show ((Y + 1) * W + (X)).toNat < n by omega))
      have k0 : 0 ≤ (Y + 1) * W + (X) := by omega
      have k1 : (Y + 1) * W + (X) < (n : Int) := hi.2
      cases hr : fre W (hgt W n) f (X) (Y + 1) with
      | false =>
        have hne := fre_no hr hq
        rw [hr] at hnx
        have HN : Hid (nx W (hgt W n) f 1 X Y = -1) := hnx
        generalize f ((Y + 1) * W + (X)).toNat = z at x3 hne
        have hne2 : (z != 0) = true := by simpa using hne
        clear hnx hr eX eY hc hne hf
        go_wp2
        go_ret
        exact ⟨ret_int (by rw [HXX.out, HYY.out, HN.out]), hb0⟩
      | true =>
        rw [(fre_hv hr).2] at x3
        rw [hr] at hnx
        have HN : Hid (nx W (hgt W n) f 1 X Y = (Y + 1) * W + (X)) := hnx
        clear hnx hr eX eY hc hf
        go_wp2
        go_ret
        exact ⟨ret_int (by rw [HXX.out, HYY.out, HN.out]), hb0⟩
  | 2, _ =>
    have hnx : nx W (hgt W n) f 2 X Y = if fre W (hgt W n) f (X - 1) (Y) then (Y) * W + (X - 1) else -1 := by
      unfold nx
      have e1 : X + dX 2 = X - 1 := by simp [dX] <;> omega
      have e2 : Y + dY 2 = Y := by simp [dY] <;> omega
      rw [e1, e2]
    go_enter Tryd.func74, Tryd.ntmps74
    go_wp2_with fail
    refine (has_any W n (X - 1) (Y) _ hW1 (by omega)).mono ?_
    cases hq : hvB W (hgt W n) (X - 1) (Y) with
    | false =>
      rintro e w1 ⟨rfl, hw1⟩
      have hs1 := hw1.symm
      clear hw1
      subst hs1
      have hr : fre W (hgt W n) f (X - 1) (Y) = false := by simp [fre, hq]
      rw [hr] at hnx
      have HN : Hid (nx W (hgt W n) f 2 X Y = -1) := hnx
      clear hnx hr eX eY
      go_wp2
      go_ret
      exact ⟨ret_int (by rw [HXX.out, HYY.out, HN.out]), hb0⟩
    | true =>
      rintro e w1 ⟨rfl, hw1⟩
      have hs1 := hw1.symm
      clear hw1
      subst hs1
      have hi := idx_bd hH (hvB_t hq)
      have ht := hvB_t hq
      obtain ⟨q, off, rfl, hb, hc⟩ := hf (by omega)
      have x3 := (hb0.cell (p := ⟨q, off + ((Y) * W + (X - 1)).toNat, none⟩) hb).trans (hc _ (show ((Y) * W + (X - 1)).toNat < n by omega))
      have k0 : 0 ≤ (Y) * W + (X - 1) := by omega
      have k1 : (Y) * W + (X - 1) < (n : Int) := hi.2
      cases hr : fre W (hgt W n) f (X - 1) (Y) with
      | false =>
        have hne := fre_no hr hq
        rw [hr] at hnx
        have HN : Hid (nx W (hgt W n) f 2 X Y = -1) := hnx
        generalize f ((Y) * W + (X - 1)).toNat = z at x3 hne
        have hne2 : (z != 0) = true := by simpa using hne
        clear hnx hr eX eY hc hne hf
        go_wp2
        go_ret
        exact ⟨ret_int (by rw [HXX.out, HYY.out, HN.out]), hb0⟩
      | true =>
        rw [(fre_hv hr).2] at x3
        rw [hr] at hnx
        have HN : Hid (nx W (hgt W n) f 2 X Y = (Y) * W + (X - 1)) := hnx
        clear hnx hr eX eY hc hf
        go_wp2
        go_ret
        exact ⟨ret_int (by rw [HXX.out, HYY.out, HN.out]), hb0⟩
  | 3, _ =>
    have hnx : nx W (hgt W n) f 3 X Y = if fre W (hgt W n) f (X) (Y - 1) then (Y - 1) * W + (X) else -1 := by
      unfold nx
      have e1 : X + dX 3 = X := by simp [dX] <;> omega
      have e2 : Y + dY 3 = Y - 1 := by simp [dY] <;> omega
      rw [e1, e2]
    go_enter Tryd.func74, Tryd.ntmps74
    go_wp2_with fail
    refine (has_any W n (X) (Y - 1) _ hW1 (by omega)).mono ?_
    cases hq : hvB W (hgt W n) (X) (Y - 1) with
    | false =>
      rintro e w1 ⟨rfl, hw1⟩
      have hs1 := hw1.symm
      clear hw1
      subst hs1
      have hr : fre W (hgt W n) f (X) (Y - 1) = false := by simp [fre, hq]
      rw [hr] at hnx
      have HN : Hid (nx W (hgt W n) f 3 X Y = -1) := hnx
      clear hnx hr eX eY
      go_wp2
      go_ret
      exact ⟨ret_int (by rw [HXX.out, HYY.out, HN.out]), hb0⟩
    | true =>
      rintro e w1 ⟨rfl, hw1⟩
      have hs1 := hw1.symm
      clear hw1
      subst hs1
      have hi := idx_bd hH (hvB_t hq)
      have ht := hvB_t hq
      obtain ⟨q, off, rfl, hb, hc⟩ := hf (by omega)
      have x3 := (hb0.cell (p := ⟨q, off + ((Y - 1) * W + (X)).toNat, none⟩) hb).trans (hc _ (show ((Y - 1) * W + (X)).toNat < n by omega))
      have k0 : 0 ≤ (Y - 1) * W + (X) := by omega
      have k1 : (Y - 1) * W + (X) < (n : Int) := hi.2
      cases hr : fre W (hgt W n) f (X) (Y - 1) with
      | false =>
        have hne := fre_no hr hq
        rw [hr] at hnx
        have HN : Hid (nx W (hgt W n) f 3 X Y = -1) := hnx
        generalize f ((Y - 1) * W + (X)).toNat = z at x3 hne
        have hne2 : (z != 0) = true := by simpa using hne
        clear hnx hr eX eY hc hne hf
        go_wp2
        go_ret
        exact ⟨ret_int (by rw [HXX.out, HYY.out, HN.out]), hb0⟩
      | true =>
        rw [(fre_hv hr).2] at x3
        rw [hr] at hnx
        have HN : Hid (nx W (hgt W n) f 3 X Y = (Y - 1) * W + (X)) := hnx
        clear hnx hr eX eY hc hf
        go_wp2
        go_ret
        exact ⟨ret_int (by rw [HXX.out, HYY.out, HN.out]), hb0⟩
end Go.Proofs.YtbndhhjgjalecaaDoor
