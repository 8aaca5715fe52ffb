/- A step, as both reckon it. -/
import Derived.Test.YtbndhhjgjalecabDoorQClKind
import Derived.Test.YtbndhhjgjalecabDoorQStMath
namespace Go.Proofs.YtbndhhjgjalecabDoor
open Go.RowKit

/-- where one is behind a step -/
def stN (W H : Int) (f : Nat → Int) (v p : Nat) : Int := if fre W H f ((p : Int) % W + dX v) ((p : Int) / W + dY v) then ((p : Int) / W + dY v) * W + ((p : Int) % W + dX v) else (p : Int)
theorem stN_nx (W H : Int) (f : Nat → Int) (v p : Nat) (hW : 1 ≤ W) : (if nx W H f v ((p : Int) % W) ((p : Int) / W) < 0 then (p : Int) else nx W H f v ((p : Int) % W) ((p : Int) / W)) = stN W H f v p := by
  unfold nx stN
  cases hq : fre W H f ((p : Int) % W + dX v) ((p : Int) / W + dY v) with
  | false => simp
  | true =>
    have h := (kA_free hq).2
    have h1 := Int.mul_nonneg h.2.2.1 (show 0 ≤ W by omega)
    simp only [if_true]
    rw [if_neg (by omega)]
theorem stN_bd {W H : Int} {f : Nat → Int} {v p n : Nat} (hH : H * W = (n : Int)) (hp : p < n) : 0 ≤ stN W H f v p ∧ stN W H f v p < n := by
  unfold stN
  cases hq : fre W H f ((p : Int) % W + dX v) ((p : Int) / W + dY v) with
  | false => simp; omega
  | true =>
    have h := (kA_free hq).2
    have h1 := idx_bd hH h
    simp only [if_true]
    omega
set_option maxHeartbeats 4000000 in
theorem step_any (W : Int) (a : Option Addr) (n c : Nat) (f : Nat → Int) (p v : Nat) (w : World) (hf : IL w a n f) (hs : sizedB W n = true) (hv : v < 4) (hp : p < n) (hT : Tab w) :
    Calls Tryd.prog 31 #[gr W (hgt W n) a n c, .int .i64 (p : Int), .int .i64 (v : Int)] w fun e w' => e = .returned (.int .i64 (stN W (hgt W n) f v p)) ∧ Below w.heap.size w w' := by
  obtain ⟨hH, hH1, hH2⟩ := hgt_mul hs
  obtain ⟨hW1, hW2, -, -, -⟩ := sizedB_t hs
  have hn := sized_le hs
  have hd := d_bd v hv
  obtain ⟨O, hO⟩ : ∃ O : Int, stN W (hgt W n) f v p = O := ⟨_, rfl⟩
  rw [hO]
  unfold stN at hO
  generalize hgt W n = H at *
  have HO1 : Hid ((if fre W H f ((p : Int) % W + dX v) ((p : Int) / W + dY v) then ((p : Int) / W + dY v) * W + ((p : Int) % W + dX v) else (p : Int)) = O) := hO
  clear hO
  have hb0 : Below w.heap.size w (w.alloc (.cells #[.int .i64 W, .int .i64 H, .slice a n c] 43)) := (Below.refl _ _).alloc (Nat.le_refl _) _
  have b0 := bx_new (w := w) [.int .i64 W, .int .i64 H, .slice a n c] 43 rfl
  go_enter Tryd.func31, Tryd.ntmps31
  go_wp2_with fail
  refine (place_any W H p _ hW1 hW2 (by omega)).mono ?_
  rintro e w1 ⟨rfl, hb1⟩
  have hB1 := stepA hb0 hb1
  have b1 := b0.on hb1
  have hf1 := hf.below hB1
  have hT1 := hT.on hB1
  have hx0 := Int.emod_nonneg (p : Int) (show W ≠ 0 by omega)
  have hx1 := Int.emod_lt_of_pos (p : Int) (show 0 < W by omega)
  have hy0 : 0 ≤ (p : Int) / W := Int.ediv_nonneg (by omega) (by omega)
  have hy1 : (p : Int) / W < H := by
    refine Int.ediv_lt_of_lt_mul (by omega) ?_
    rw [hH]; omega
  obtain ⟨X, eX⟩ : ∃ X, (p : Int) % W = X := ⟨_, rfl⟩
  obtain ⟨Y, eY⟩ : ∃ Y, (p : Int) / W = Y := ⟨_, rfl⟩
  have hO := HO1.out
  rw [eX, eY] at hO
  rw [eX] at hx0 hx1 ⊢
  rw [eY] at hy0 hy1 ⊢
  have t0 : w1.cell? ⟨0, v, none⟩ = some (.int .i64 (dX v)) := hT1.x v hv
  have t1 : w1.cell? ⟨1, v, none⟩ = some (.int .i64 (dY v)) := hT1.y v hv
  have i0 : (0 : Int) ≤ (v : Int) := by omega
  have i1 : (v : Int) < 4 := by omega
  clear hb0 b0 hb1 hf hT eX eY HO1 hT1
  have hbd : -1 ≤ dX v ∧ dX v ≤ 1 ∧ -1 ≤ dY v ∧ dY v ≤ 1 := by rcases hd with h | h | h | h <;> omega
  clear hd
  generalize dX v = u at *
  generalize dY v = z at *
  have HO : Hid ((if fre W H f (X + u) (Y + z) then (Y + z) * W + (X + u) else (p : Int)) = O) := hO
  clear hO
  go_wp2_with fail
  go_region
  have hd : Below w1.heap.size w1 w1.drew := (Below.refl _ _).drew
  replace b1 := b1.on hd
  have x0 := b1.c0
  have x1 := b1.c1
  have x2 := b1.c2
  replace hf1 := hf1.below hd
  replace hB1 := stepA hB1 hd
  clear hd t0 t1
  generalize w1.drew = wd at *
  go_wp2_with fail
  refine (kindAt_any W H a n c f (X + u) (Y + z) wd hf1 hn.2 hH hW2).mono ?_
  rintro e w4 ⟨rfl, hb4⟩
  have hB4 := stepA hB1 hb4
  have b4 := b1.on hb4
  clear x0 x1 x2 hf1 hB1 hb4 b1
  have x0 := b4.c0
  have x1 := b4.c1
  have x2 := b4.c2
  cases hq : fre W H f (X + u) (Y + z) with
  | true =>
    have h9 := (kA_free hq).2
    have h8 := idx_bd hH h9
    rw [(kA_free hq).1]
    have HO2 : Hid ((Y + z) * W + (X + u) = O) := by have := HO.out; rw [hq] at this; exact this
    clear HO hq
    go_wp2_with fail
    refine (number_any W H (X + u) (Y + z) _ h8.1 (by omega) h9.1 (by omega)).mono ?_
    rintro e w5 ⟨rfl, hb5⟩
    have hB5 := stepA hB4 hb5
    go_wp2
    go_ret
    exact ⟨ret_int HO2.out, hB5⟩
  | false =>
    have hne := kA_not hq
    have HO2 : Hid ((p : Int) = O) := by have := HO.out; rw [hq] at this; exact this
    clear HO hq
    generalize kA W H f (X + u) (Y + z) = q at hne
    go_wp2
    go_ret
    exact ⟨ret_int HO2.out, hB4⟩
end Go.Proofs.YtbndhhjgjalecabDoor
