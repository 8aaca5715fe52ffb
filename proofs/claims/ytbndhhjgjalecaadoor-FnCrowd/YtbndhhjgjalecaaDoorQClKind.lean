/- Which places are free, as the program says it. -/
import Derived.Test.YtbndhhjgjalecaaDoorQClNxB
import Derived.WalkMore
namespace Go.Proofs.YtbndhhjgjalecaaDoor
open Go.RowKit

set_option maxHeartbeats 1000000 in
theorem free_any (W H : Int) (a : Option Addr) (n c : Nat) (f : Nat → Int) (p : Int) (w : World) (hf : IL w a n f) (hn : n ≤ 1048576) :
    Calls Tryd.prog 61 #[gr W H a n c, .int .i64 p] w fun e w' => e = .returned (.bool (frB n f p)) ∧ Below w.heap.size w w' := by
  have hb0 : Below w.heap.size w (w.alloc (.cells #[.int .i64 W, .int .i64 H, .slice a n c] 68)) := (Below.refl _ _).alloc (Nat.le_refl _) _
  by_cases h0 : 0 ≤ p
  · by_cases h1 : p < (n : Int)
    · obtain ⟨k, rfl⟩ := Int.eq_ofNat_of_zero_le h0
      have hk : k < n := by omega
      obtain ⟨b, off, rfl, hb, hc⟩ := hf (by omega)
      have x0 := (hb0.cell (p := ⟨b, off + k, none⟩) hb).trans (hc k hk)
      by_cases h2 : f k = 0
      · have he : frB n f (k : Int) = true := frB_mk ⟨h0, h1, by simpa using h2⟩
        rw [he]
        rw [h2] at x0
        clear hc hf h2 he
        go_enter Tryd.func61, Tryd.ntmps61
        go_wp2
        go_ret
        exact ⟨rfl, hb0⟩
      · have he : frB n f (k : Int) = false := frB_f (by simp [h2])
        rw [he]
        generalize f k = x at x0 h2
        have k2 : (x == 0) = false := by simpa using h2
        clear hc hf h2 he
        go_enter Tryd.func61, Tryd.ntmps61
        go_wp2
        go_ret
        first | exact ⟨rfl, hb0⟩ | exact ⟨ret_bool k2, hb0⟩
    · rw [frB_f (by omega)]
      go_enter Tryd.func61, Tryd.ntmps61
      go_wp2
      go_ret
      exact ⟨rfl, hb0⟩
  · rw [frB_f (by omega)]
    go_enter Tryd.func61, Tryd.ntmps61
    go_wp2
    go_ret
    exact ⟨rfl, hb0⟩
end Go.Proofs.YtbndhhjgjalecaaDoor

/- Which places lie within the sides, and their numbers, as the program says it. -/
namespace Go.Proofs.YtbndhhjgjalecaaDoor
open Go.RowKit

set_option maxHeartbeats 1000000 in
theorem have_any (W H x y : Int) (w : World) :
    Calls Tryd.prog 100 #[sd W H, .int .i64 x, .int .i64 y] w fun e w' => e = .returned (.bool (hvB W H x y)) ∧ Below w.heap.size w w' := by
  have hb0 : Below w.heap.size w (w.alloc (.cells #[.int .i64 W, .int .i64 H] 66)) := (Below.refl _ _).alloc (Nat.le_refl _) _
  by_cases h1 : 0 ≤ x
  · by_cases h2 : x < W
    · by_cases h3 : 0 ≤ y
      · by_cases h4 : y < H
        · rw [hvB_mk ⟨h1, h2, h3, h4⟩]
          go_enter Tryd.func100, Tryd.ntmps100
          go_wp2
          go_ret
          exact ⟨rfl, hb0⟩
        · rw [hvB_f (by omega)]
          go_enter Tryd.func100, Tryd.ntmps100
          go_wp2
          go_ret
          exact ⟨rfl, hb0⟩
      · rw [hvB_f (by omega)]
        go_enter Tryd.func100, Tryd.ntmps100
        go_wp2
        go_ret
        exact ⟨rfl, hb0⟩
    · rw [hvB_f (by omega)]
      go_enter Tryd.func100, Tryd.ntmps100
      go_wp2
      go_ret
      exact ⟨rfl, hb0⟩
  · rw [hvB_f (by omega)]
    go_enter Tryd.func100, Tryd.ntmps100
    go_wp2
    go_ret
    exact ⟨rfl, hb0⟩
set_option maxHeartbeats 1000000 in
theorem number_any (W H x y : Int) (w : World) (h0 : 0 ≤ y * W) (h1 : y * W ≤ 1000) (h2 : 0 ≤ x) (h3 : x ≤ 1000) :
    Calls Tryd.prog 94 #[sd W H, .int .i64 x, .int .i64 y] w fun e w' => e = .returned (.int .i64 (y * W + x)) ∧ Below w.heap.size w w' := by
  have hb0 : Below w.heap.size w (w.alloc (.cells #[.int .i64 W, .int .i64 H] 66)) := (Below.refl _ _).alloc (Nat.le_refl _) _
  go_enter Tryd.func94, Tryd.ntmps94
  go_wp2
  go_ret
  exact ⟨rfl, hb0⟩
end Go.Proofs.YtbndhhjgjalecaaDoor

/- Cells by their places, as the program reckons them. -/
namespace Go.Proofs.YtbndhhjgjalecaaDoor
open Go.RowKit

set_option maxHeartbeats 1000000 in
theorem place_any (W H : Int) (p : Nat) (w : World) (h0 : 1 ≤ W) (h1 : W ≤ 16) (h2 : p ≤ 1048576) :
    Calls Tryd.prog 92 #[sd W H, .int .i64 (p : Int)] w fun e w' => e = .returned (.tuple #[.int .i64 ((p : Int) % W), .int .i64 ((p : Int) / W)]) ∧ Below w.heap.size w w' := by
  have hb0 : Below w.heap.size w (w.alloc (.cells #[.int .i64 W, .int .i64 H] 66)) := (Below.refl _ _).alloc (Nat.le_refl _) _
  have j0 : (0 : Int) ≤ (p : Int) := by omega
  have hz : ¬ W = 0 := by omega
  have et := Int.tmod_eq_emod_of_nonneg (a := (p : Int)) (b := W) (by omega)
  have ed := Int.tdiv_eq_ediv_of_nonneg (a := (p : Int)) (b := W) (by omega)
  have hq0 : 0 ≤ (p : Int) / W := Int.ediv_nonneg (by omega) (by omega)
  have hq1 : (p : Int) / W ≤ (p : Int) := Int.ediv_le_self _ (by omega)
  go_enter Tryd.func92, Tryd.ntmps92
  go_wp2
  go_region
  go_wp2
  go_ret2
  exact ⟨rfl, hb0.drew⟩

theorem keepK {w w' : World} {b p o : Nat} {u v x z : Value} (h : Bx w b [u, v, x]) (hc : w.cell? ⟨p, o, none⟩ = some z) (hp : p < w.heap.size) (k : Below w.heap.size w w') :
    w'.cell? ⟨b, 0, none⟩ = some u ∧ w'.cell? ⟨b, 1, none⟩ = some v ∧ w'.cell? ⟨b, 2, none⟩ = some x ∧ w'.cell? ⟨p, o, none⟩ = some z :=
  ⟨(h.on k).c0, (h.on k).c1, (h.on k).c2, (k.cell (p := ⟨p, o, none⟩) hp).trans hc⟩
/-- the kind at a place; -1 beyond the edge -/
def kA (W H : Int) (f : Nat → Int) (x y : Int) : Int := if hvB W H x y then f (y * W + x).toNat else -1
set_option maxHeartbeats 2000000 in
theorem kindAt_any (W H : Int) (a : Option Addr) (n c : Nat) (f : Nat → Int) (x y : Int) (w : World) (hf : IL w a n f) (hn : n ≤ 256) (hH : H * W = (n : Int)) (hW : W ≤ 16) :
    Calls Tryd.prog 93 #[gr W H a n c, .int .i64 x, .int .i64 y] w fun e w' => e = .returned (.int .i64 (kA W H f x y)) ∧ Below w.heap.size w w' := by
  have hb0 : Below w.heap.size w (w.alloc (.cells #[.int .i64 W, .int .i64 H, .slice a n c] 68)) := (Below.refl _ _).alloc (Nat.le_refl _) _
  have b0 := bx_new (w := w) [.int .i64 W, .int .i64 H, .slice a n c] 68 rfl
  unfold kA
  cases hv : hvB W H x y with
  | false =>
    go_enter Tryd.func93, Tryd.ntmps93
    go_wp2_with fail
    refine (have_any W H x y _).mono ?_
    rw [hv]
    rintro e w1 ⟨rfl, hb1⟩
    have hB1 := stepA hb0 hb1
    go_wp2
    go_ret
    exact ⟨rfl, hB1⟩
  | true =>
    have ht := hvB_t hv
    have hi := idx_bd hH ht
    go_enter Tryd.func93, Tryd.ntmps93
    go_wp2_with fail
    refine (have_any W H x y _).mono ?_
    rw [hv]
    rintro e w1 ⟨rfl, hb1⟩
    have hB1 := stepA hb0 hb1
    have b1 := b0.on hb1
    have x0 := b1.c0
    have x1 := b1.c1
    have x2 := b1.c2
    obtain ⟨p, off, rfl, hb, hc⟩ := hf (by omega)
    have hk : (y * W + x).toNat < n := by omega
    have x3 := (hB1.cell (p := ⟨p, off + (y * W + x).toNat, none⟩) hb).trans (hc _ hk)
    have hpl : p < w1.heap.size := Nat.lt_of_lt_of_le hb hB1.size
    have i0 : 0 ≤ y * W + x := by omega
    have i1 : y * W + x < (n : Int) := hi.2
    have hw0 := Below.refl w1.heap.size w1
    clear hc hf
    go_wp2_with fail
    go_region_held3 (fun w' => w'.cell? ⟨w.heap.size, 0, none⟩ = some (.int .i64 W) ∧ w'.cell? ⟨w.heap.size, 1, none⟩ = some (.int .i64 H) ∧ w'.cell? ⟨w.heap.size, 2, none⟩ = some (.slice (some ⟨p, off, none⟩) n c) ∧ w'.cell? ⟨p, off + (y * W + x).toNat, none⟩ = some (.int .i64 (f (y * W + x).toNat)))
      (first | (exact keepK b1 x3 hpl hw0.drew) | (exact keepK b1 x3 hpl hw2) | (fail))
      (first | (go_at_call 94; refine (number_any W H x y _ hi.1 (by omega) (by omega) (by omega)).mono ?_; rintro e w2 ⟨rfl, hbn⟩; have hw2 := stepA hw0.drew hbn; clear hbn) | (fail))
    have hB2 := stepA hB1 hw2
    clear hw2 hw0 b1 x0 x1 x2 x3
    go_wp2
    go_ret
    exact ⟨rfl, hB2⟩

theorem kA_free {W H : Int} {f : Nat → Int} {x y : Int} (h : fre W H f x y = true) : kA W H f x y = 0 ∧ 0 ≤ x ∧ x < W ∧ 0 ≤ y ∧ y < H := by
  simp only [fre, Bool.and_eq_true, decide_eq_true_eq] at h
  exact ⟨by unfold kA; rw [if_pos h.1, h.2], hvB_t h.1⟩
theorem kA_not {W H : Int} {f : Nat → Int} {x y : Int} (h : fre W H f x y = false) : (kA W H f x y == 0) = false := by
  unfold kA
  cases e : hvB W H x y with
  | false => simp
  | true =>
    simp only [fre, e, Bool.true_and, decide_eq_false_iff_not] at h
    simpa using h
end Go.Proofs.YtbndhhjgjalecaaDoor

/- The ways, cells by their places, how far one sees: as the program reckons it. -/
namespace Go.Proofs.YtbndhhjgjalecaaDoor
open Go.RowKit

/-- the two tables of the ways -/
structure Tab (w : World) : Prop where
  x : ∀ i, i < 4 → w.cell? ⟨0, i, none⟩ = some (.int .i64 ([1, 0, -1, 0].getD i 0))
  y : ∀ i, i < 4 → w.cell? ⟨1, i, none⟩ = some (.int .i64 ([0, 1, 0, -1].getD i 0))
  l0 : 0 < w.heap.size
  l1 : 1 < w.heap.size
theorem Tab.on {w w' : World} (h : Tab w) (k : Below w.heap.size w w') : Tab w' :=
  ⟨fun i hi => (k.cell (p := ⟨0, i, none⟩) h.l0).trans (h.x i hi), fun i hi => (k.cell (p := ⟨1, i, none⟩) h.l1).trans (h.y i hi), Nat.lt_of_lt_of_le h.l0 k.size, Nat.lt_of_lt_of_le h.l1 k.size⟩
theorem Tab.below {B : Nat} {w w' : World} (h : Tab w) (k : Below B w w') (hB : 1 < B) : Tab w' :=
  ⟨fun i hi => (k.cell (p := ⟨0, i, none⟩) (by simp; omega)).trans (h.x i hi), fun i hi => (k.cell (p := ⟨1, i, none⟩) (by simpa using hB)).trans (h.y i hi), Nat.lt_of_lt_of_le h.l0 k.size, Nat.lt_of_lt_of_le h.l1 k.size⟩
theorem Tab.turns {lo hi : Nat} {w w' : World} (h : Tab w) (k : Turns lo hi w w') (hd : 1 < lo) : Tab w' :=
  h.below (k.below (B := 2) hd h.l1) (by omega)
/-- how many free cells stand behind one another, at most k of them -/
def fc (W H : Int) (f : Nat → Int) (v : Nat) : Nat → Int → Int → Nat
  | 0, _, _ => 0
  | k + 1, x, y => if fre W H f (x + dX v) (y + dY v) then fc W H f v k (x + dX v) (y + dY v) + 1 else 0
theorem fc_run {W H : Int} {f : Nat → Int} {v : Nat} (i : Nat) : ∀ (k : Nat) (x y : Int), i < k → (∀ j : Nat, 1 ≤ j → j ≤ i → fre W H f (x + (j : Int) * dX v) (y + (j : Int) * dY v) = true) →
    fre W H f (x + ((i + 1 : Nat) : Int) * dX v) (y + ((i + 1 : Nat) : Int) * dY v) = false → fc W H f v k x y = i := by
  induction i with
  | zero =>
    intro k x y hk _ h
    obtain ⟨k, rfl⟩ : ∃ m, k = m + 1 := ⟨k - 1, by omega⟩
    have e1 : ((0 + 1 : Nat) : Int) * dX v = dX v := by simp
    have e2 : ((0 + 1 : Nat) : Int) * dY v = dY v := by simp
    rw [e1, e2] at h
    simp [fc, h]
  | succ i ih =>
    intro k x y hk hf h
    obtain ⟨k, rfl⟩ : ∃ m, k = m + 1 := ⟨k - 1, by omega⟩
    have h1 := hf 1 (by omega) (by omega)
    have e1 : ((1 : Nat) : Int) * dX v = dX v := by simp
    have e2 : ((1 : Nat) : Int) * dY v = dY v := by simp
    rw [e1, e2] at h1
    have sx : ∀ j : Nat, x + dX v + (j : Int) * dX v = x + ((j + 1 : Nat) : Int) * dX v := fun j => by
      have : ((j + 1 : Nat) : Int) * dX v = (j : Int) * dX v + dX v := by rw [Int.natCast_add, Int.add_mul]; simp
      omega
    have sy : ∀ j : Nat, y + dY v + (j : Int) * dY v = y + ((j + 1 : Nat) : Int) * dY v := fun j => by
      have : ((j + 1 : Nat) : Int) * dY v = (j : Int) * dY v + dY v := by rw [Int.natCast_add, Int.add_mul]; simp
      omega
    have := ih k (x + dX v) (y + dY v) (by omega) (fun j h2 h3 => by rw [sx, sy]; exact hf (j + 1) (by omega) (by omega)) (by rw [sx, sy]; exact h)
    simp [fc, h1, this]
/-- what FarOf tells of a free cell -/
def farN (W H : Int) (f : Nat → Int) (v : Nat) (p : Nat) : Nat := fc W H f v 17 ((p : Int) % W) ((p : Int) / W)

theorem far_bd {u z X Y cx cy : Int} {k : Nat} (hd : (u = 1 ∧ z = 0) ∨ (u = 0 ∧ z = 1) ∨ (u = -1 ∧ z = 0) ∨ (u = 0 ∧ z = -1)) (ex : cx = X + (k : Int) * u) (ey : cy = Y + (k : Int) * z) (hb : 0 ≤ X ∧ X < 16 ∧ 0 ≤ Y ∧ Y < 16) (hk : k ≤ 16) :
    -40 ≤ cx ∧ cx ≤ 40 ∧ -40 ≤ cy ∧ cy ≤ 40 ∧ -1 ≤ u ∧ u ≤ 1 ∧ -1 ≤ z ∧ z ≤ 1 := by
  rcases hd with ⟨rfl, rfl⟩ | ⟨rfl, rfl⟩ | ⟨rfl, rfl⟩ | ⟨rfl, rfl⟩ <;> omega
theorem far_go {u z X Y W H cx cy : Int} {k : Nat} (hd : (u = 1 ∧ z = 0) ∨ (u = 0 ∧ z = 1) ∨ (u = -1 ∧ z = 0) ∨ (u = 0 ∧ z = -1)) (ex : cx = X + (k : Int) * u) (ey : cy = Y + (k : Int) * z) (hb : 0 ≤ X ∧ X < W ∧ 0 ≤ Y ∧ Y < H ∧ W ≤ 16 ∧ H ≤ 16) (h : 0 ≤ cx + u ∧ cx + u < W ∧ 0 ≤ cy + z ∧ cy + z < H) : k + 1 ≤ 16 := by
  rcases hd with ⟨rfl, rfl⟩ | ⟨rfl, rfl⟩ | ⟨rfl, rfl⟩ | ⟨rfl, rfl⟩ <;> omega
end Go.Proofs.YtbndhhjgjalecaaDoor
