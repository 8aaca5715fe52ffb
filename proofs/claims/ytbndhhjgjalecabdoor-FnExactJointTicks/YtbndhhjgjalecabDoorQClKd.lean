/- Cells by their places, as the program reckons them. -/
import Derived.Test.YtbndhhjgjalecabDoorQSzHave
import Derived.Test.YtbndhhjgjalecabDoorQClVal
import Derived.WalkMore
namespace Go.Proofs.YtbndhhjgjalecabDoor
open Go.RowKit

set_option maxHeartbeats 1000000 in
theorem place_any (W H : Int) (p : Nat) (w : World) (h0 : 1 ≤ W) (h1 : W ≤ 16) (h2 : p ≤ 1048576) :
    Calls Tryd.prog 35 #[sd W H, .int .i64 (p : Int)] w fun e w' => e = .returned (.tuple #[.int .i64 ((p : Int) % W), .int .i64 ((p : Int) / W)]) ∧ Below w.heap.size w w' := by
  have hb0 : Below w.heap.size w (w.alloc (.cells #[.int .i64 W, .int .i64 H] 41)) := (Below.refl _ _).alloc (Nat.le_refl _) _
  have j0 : (0 : Int) ≤ (p : Int) := by omega
  have hz : ¬ W = 0 := by omega
  have et := Int.tmod_eq_emod_of_nonneg (a := (p : Int)) (b := W) (by omega)
  have ed := Int.tdiv_eq_ediv_of_nonneg (a := (p : Int)) (b := W) (by omega)
  have hq0 : 0 ≤ (p : Int) / W := Int.ediv_nonneg (by omega) (by omega)
  have hq1 : (p : Int) / W ≤ (p : Int) := Int.ediv_le_self _ (by omega)
  go_enter Tryd.func35, Tryd.ntmps35
  go_wp2
  go_region
  go_wp2
  go_ret2
  exact ⟨rfl, hb0.drew⟩

theorem keepK {w w' : World} {b p o : Nat} {u v x z : Value} (h : Bx w b [u, v, x]) (hc : w.cell? ⟨p, o, none⟩ = some z) (hp : p < w.heap.size) (k : Below w.heap.size w w') :
    w'.cell? ⟨b, 0, none⟩ = some u ∧ w'.cell? ⟨b, 1, none⟩ = some v ∧ w'.cell? ⟨b, 2, none⟩ = some x ∧ w'.cell? ⟨p, o, none⟩ = some z :=
  ⟨(h.on k).c0, (h.on k).c1, (h.on k).c2, (k.cell (p := ⟨p, o, none⟩) hp).trans hc⟩
/-- the kind at a place; -1 beyond the edge -/
def kA (W H : Int) (f : Nat → Int) (x y : Int) : Int := if hvB W H x y then f (y * W + x).toNat else -1
set_option maxHeartbeats 2000000 in
theorem kindAt_any (W H : Int) (a : Option Addr) (n c : Nat) (f : Nat → Int) (x y : Int) (w : World) (hf : IL w a n f) (hn : n ≤ 256) (hH : H * W = (n : Int)) (hW : W ≤ 16) :
    Calls Tryd.prog 36 #[gr W H a n c, .int .i64 x, .int .i64 y] w fun e w' => e = .returned (.int .i64 (kA W H f x y)) ∧ Below w.heap.size w w' := by
  have hb0 : Below w.heap.size w (w.alloc (.cells #[.int .i64 W, .int .i64 H, .slice a n c] 43)) := (Below.refl _ _).alloc (Nat.le_refl _) _
  have b0 := bx_new (w := w) [.int .i64 W, .int .i64 H, .slice a n c] 43 rfl
  unfold kA
  cases hv : hvB W H x y with
  | false =>
    go_enter Tryd.func36, Tryd.ntmps36
    go_wp2_with fail
    refine (have_any W H x y _).mono ?_
    rw [hv]
    rintro e w1 ⟨rfl, hb1⟩
    have hB1 := stepA hb0 hb1
    go_wp2
    go_ret
    exact ⟨rfl, hB1⟩
  | true =>
    have ht := hvB_t hv
    have hi := idx_bd hH ht
    go_enter Tryd.func36, Tryd.ntmps36
    go_wp2_with fail
    refine (have_any W H x y _).mono ?_
    rw [hv]
    rintro e w1 ⟨rfl, hb1⟩
    have hB1 := stepA hb0 hb1
    have b1 := b0.on hb1
    have x0 := b1.c0
    have x1 := b1.c1
    have x2 := b1.c2
    obtain ⟨p, off, rfl, hb, hc⟩ := hf (by omega)
    have hk : (y * W + x).toNat < n := by omega
    have x3 := (hB1.cell (p := ⟨p, off + (y * W + x).toNat, none⟩) hb).trans (hc _ hk)
    have hpl : p < w1.heap.size := Nat.lt_of_lt_of_le hb hB1.size
    have i0 : 0 ≤ y * W + x := by omega
    have i1 : y * W + x < (n : Int) := hi.2
    have hw0 := Below.refl w1.heap.size w1
    clear hc hf
    go_wp2_with fail
    go_region_held3 (fun w' => w'.cell? ⟨w.heap.size, 0, none⟩ = some (.int .i64 W) ∧ w'.cell? ⟨w.heap.size, 1, none⟩ = some (.int .i64 H) ∧ w'.cell? ⟨w.heap.size, 2, none⟩ = some (.slice (some ⟨p, off, none⟩) n c) ∧ w'.cell? ⟨p, off + (y * W + x).toNat, none⟩ = some (.int .i64 (f (y * W + x).toNat)))
      (first | (exact keepK b1 x3 hpl hw0.drew) | (exact keepK b1 x3 hpl hw2) | (fail))
      (first | (go_at_call 37; refine (number_any W H x y _ hi.1 (by omega) (by omega) (by omega)).mono ?_; rintro e w2 ⟨rfl, hbn⟩; have hw2 := stepA hw0.drew hbn; clear hbn) | (fail))
    have hB2 := stepA hB1 hw2
    clear hw2 hw0 b1 x0 x1 x2 x3
    go_wp2
    go_ret
    exact ⟨rfl, hB2⟩

theorem kA_free {W H : Int} {f : Nat → Int} {x y : Int} (h : fre W H f x y = true) : kA W H f x y = 0 ∧ 0 ≤ x ∧ x < W ∧ 0 ≤ y ∧ y < H := by
  simp only [fre, Bool.and_eq_true, decide_eq_true_eq] at h
  exact ⟨by unfold kA; rw [if_pos h.1, h.2], hvB_t h.1⟩
theorem kA_not {W H : Int} {f : Nat → Int} {x y : Int} (h : fre W H f x y = false) : (kA W H f x y == 0) = false := by
  unfold kA
  cases e : hvB W H x y with
  | false => simp
  | true =>
    simp only [fre, e, Bool.true_and, decide_eq_false_iff_not] at h
    simpa using h
end Go.Proofs.YtbndhhjgjalecabDoor
