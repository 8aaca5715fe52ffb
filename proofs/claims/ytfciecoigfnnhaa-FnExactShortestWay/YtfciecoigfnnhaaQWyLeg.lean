/- Which places are free, as the program says it. -/
import Derived.Test.YtfciecoigfnnhaaQWyCrd
import Derived.Test.YtfciecoigfnnhaaQSzHv
import Derived.WalkMore
namespace Go.Proofs.Ytfciecoigfnnhaa
open Go.RowKit

set_option maxHeartbeats 1000000 in
theorem free_any (W H : Int) (a : Option Addr) (n c : Nat) (f : Nat → Int) (p : Int) (w : World) (hf : IL w a n f) (hn : n ≤ 1048576) :
    Calls Try.prog 41 #[gr W H a n c, .int .i64 p] w fun e w' => e = .returned (.bool (frB n f p)) ∧ Below w.heap.size w w' := by
  have hb0 : Below w.heap.size w (w.alloc (.cells #[.int .i64 W, .int .i64 H, .slice a n c] 73)) := (Below.refl _ _).alloc (Nat.le_refl _) _
  by_cases h0 : 0 ≤ p
  · by_cases h1 : p < (n : Int)
    · obtain ⟨k, rfl⟩ := Int.eq_ofNat_of_zero_le h0
      have hk : k < n := by omega
      obtain ⟨b, off, rfl, hb, hc⟩ := hf (by omega)
      have x0 := (hb0.cell (p := ⟨b, off + k, none⟩) hb).trans (hc k hk)
      by_cases h2 : f k = 0
      · have he : frB n f (k : Int) = true := frB_mk ⟨h0, h1, by simpa using h2⟩
        rw [he]
        rw [h2] at x0
        clear hc hf h2 he
        go_enter Try.func41, Try.ntmps41
        go_wp2
        go_ret
        exact ⟨rfl, hb0⟩
      · have he : frB n f (k : Int) = false := frB_f (by simp [h2])
        rw [he]
        generalize f k = x at x0 h2
        have k2 : (x == 0) = false := by simpa using h2
        clear hc hf h2 he
        go_enter Try.func41, Try.ntmps41
        go_wp2
        go_ret
        first | exact ⟨rfl, hb0⟩ | exact ⟨ret_bool k2, hb0⟩
    · rw [frB_f (by omega)]
      go_enter Try.func41, Try.ntmps41
      go_wp2
      go_ret
      exact ⟨rfl, hb0⟩
  · rw [frB_f (by omega)]
    go_enter Try.func41, Try.ntmps41
    go_wp2
    go_ret
    exact ⟨rfl, hb0⟩
end Go.Proofs.Ytfciecoigfnnhaa

/- Which places lie within the sides, and their numbers, as the program says it. -/
namespace Go.Proofs.Ytfciecoigfnnhaa
open Go.RowKit

set_option maxHeartbeats 1000000 in
theorem have_any (W H x y : Int) (w : World) :
    Calls Try.prog 104 #[sd W H, .int .i64 x, .int .i64 y] w fun e w' => e = .returned (.bool (hvB W H x y)) ∧ Below w.heap.size w w' := by
  have hb0 : Below w.heap.size w (w.alloc (.cells #[.int .i64 W, .int .i64 H] 71)) := (Below.refl _ _).alloc (Nat.le_refl _) _
  by_cases h1 : 0 ≤ x
  · by_cases h2 : x < W
    · by_cases h3 : 0 ≤ y
      · by_cases h4 : y < H
        · rw [hvB_mk ⟨h1, h2, h3, h4⟩]
          go_enter Try.func104, Try.ntmps104
          go_wp2
          go_ret
          exact ⟨rfl, hb0⟩
        · rw [hvB_f (by omega)]
          go_enter Try.func104, Try.ntmps104
          go_wp2
          go_ret
          exact ⟨rfl, hb0⟩
      · rw [hvB_f (by omega)]
        go_enter Try.func104, Try.ntmps104
        go_wp2
        go_ret
        exact ⟨rfl, hb0⟩
    · rw [hvB_f (by omega)]
      go_enter Try.func104, Try.ntmps104
      go_wp2
      go_ret
      exact ⟨rfl, hb0⟩
  · rw [hvB_f (by omega)]
    go_enter Try.func104, Try.ntmps104
    go_wp2
    go_ret
    exact ⟨rfl, hb0⟩
set_option maxHeartbeats 1000000 in
theorem number_any (W H x y : Int) (w : World) (h0 : 0 ≤ y * W) (h1 : y * W ≤ 1000) (h2 : 0 ≤ x) (h3 : x ≤ 1000) :
    Calls Try.prog 105 #[sd W H, .int .i64 x, .int .i64 y] w fun e w' => e = .returned (.int .i64 (y * W + x)) ∧ Below w.heap.size w w' := by
  have hb0 : Below w.heap.size w (w.alloc (.cells #[.int .i64 W, .int .i64 H] 71)) := (Below.refl _ _).alloc (Nat.le_refl _) _
  go_enter Try.func105, Try.ntmps105
  go_wp2
  go_ret
  exact ⟨rfl, hb0⟩
end Go.Proofs.Ytfciecoigfnnhaa

/- Cells by their places, as the program reckons them. -/
namespace Go.Proofs.Ytfciecoigfnnhaa
open Go.RowKit

set_option maxHeartbeats 1000000 in
theorem place_any (W H : Int) (p : Nat) (w : World) (h0 : 1 ≤ W) (h1 : W ≤ 16) (h2 : p ≤ 1048576) :
    Calls Try.prog 103 #[sd W H, .int .i64 (p : Int)] w fun e w' => e = .returned (.tuple #[.int .i64 ((p : Int) % W), .int .i64 ((p : Int) / W)]) ∧ Below w.heap.size w w' := by
  have hb0 : Below w.heap.size w (w.alloc (.cells #[.int .i64 W, .int .i64 H] 71)) := (Below.refl _ _).alloc (Nat.le_refl _) _
  have j0 : (0 : Int) ≤ (p : Int) := by omega
  have hz : ¬ W = 0 := by omega
  have et := Int.tmod_eq_emod_of_nonneg (a := (p : Int)) (b := W) (by omega)
  have ed := Int.tdiv_eq_ediv_of_nonneg (a := (p : Int)) (b := W) (by omega)
  have hq0 : 0 ≤ (p : Int) / W := Int.ediv_nonneg (by omega) (by omega)
  have hq1 : (p : Int) / W ≤ (p : Int) := Int.ediv_le_self _ (by omega)
  go_enter Try.func103, Try.ntmps103
  go_wp2
  go_region
  go_wp2
  go_ret2
  exact ⟨rfl, hb0.drew⟩

theorem keepK {w w' : World} {b p o : Nat} {u v x z : Value} (h : Bx w b [u, v, x]) (hc : w.cell? ⟨p, o, none⟩ = some z) (hp : p < w.heap.size) (k : Below w.heap.size w w') :
    w'.cell? ⟨b, 0, none⟩ = some u ∧ w'.cell? ⟨b, 1, none⟩ = some v ∧ w'.cell? ⟨b, 2, none⟩ = some x ∧ w'.cell? ⟨p, o, none⟩ = some z :=
  ⟨(h.on k).c0, (h.on k).c1, (h.on k).c2, (k.cell (p := ⟨p, o, none⟩) hp).trans hc⟩
/-- the kind at a place; -1 beyond the edge -/
def kA (W H : Int) (f : Nat → Int) (x y : Int) : Int := if hvB W H x y then f (y * W + x).toNat else -1
set_option maxHeartbeats 2000000 in
theorem kindAt_any (W H : Int) (a : Option Addr) (n c : Nat) (f : Nat → Int) (x y : Int) (w : World) (hf : IL w a n f) (hn : n ≤ 256) (hH : H * W = (n : Int)) (hW : W ≤ 16) :
    Calls Try.prog 88 #[gr W H a n c, .int .i64 x, .int .i64 y] w fun e w' => e = .returned (.int .i64 (kA W H f x y)) ∧ Below w.heap.size w w' := by
  have hb0 : Below w.heap.size w (w.alloc (.cells #[.int .i64 W, .int .i64 H, .slice a n c] 73)) := (Below.refl _ _).alloc (Nat.le_refl _) _
  have b0 := bx_new (w := w) [.int .i64 W, .int .i64 H, .slice a n c] 73 rfl
  unfold kA
  cases hv : hvB W H x y with
  | false =>
    go_enter Try.func88, Try.ntmps88
    go_wp2_with fail
    refine (have_any W H x y _).mono ?_
    rw [hv]
    rintro e w1 ⟨rfl, hb1⟩
    have hB1 := stepA hb0 hb1
    go_wp2
    go_ret
    exact ⟨rfl, hB1⟩
  | true =>
    have ht := hvB_t hv
    have hi := idx_bd hH ht
    go_enter Try.func88, Try.ntmps88
    go_wp2_with fail
    refine (have_any W H x y _).mono ?_
    rw [hv]
    rintro e w1 ⟨rfl, hb1⟩
    have hB1 := stepA hb0 hb1
    have b1 := b0.on hb1
    have x0 := b1.c0
    have x1 := b1.c1
    have x2 := b1.c2
    obtain ⟨p, off, rfl, hb, hc⟩ := hf (by omega)
    have hk : (y * W + x).toNat < n := by omega
    have x3 := (hB1.cell (p := ⟨p, off + (y * W + x).toNat, none⟩) hb).trans (hc _ hk)
    have hpl : p < w1.heap.size := Nat.lt_of_lt_of_le hb hB1.size
    have i0 : 0 ≤ y * W + x := by omega
    have i1 : y * W + x < (n : Int) := hi.2
    have hw0 := Below.refl w1.heap.size w1
    clear hc hf
    go_wp2_with fail
    go_region_held3 (fun w' => w'.cell? ⟨w.heap.size, 0, none⟩ = some (.int .i64 W) ∧ w'.cell? ⟨w.heap.size, 1, none⟩ = some (.int .i64 H) ∧ w'.cell? ⟨w.heap.size, 2, none⟩ = some (.slice (some ⟨p, off, none⟩) n c) ∧ w'.cell? ⟨p, off + (y * W + x).toNat, none⟩ = some (.int .i64 (f (y * W + x).toNat)))
      (first | (exact keepK b1 x3 hpl hw0.drew) | (exact keepK b1 x3 hpl hw2) | (fail))
      (first | (go_at_call 105; refine (number_any W H x y _ hi.1 (by omega) (by omega) (by omega)).mono ?_; rintro e w2 ⟨rfl, hbn⟩; have hw2 := stepA hw0.drew hbn; clear hbn) | (fail))
    have hB2 := stepA hB1 hw2
    clear hw2 hw0 b1 x0 x1 x2 x3
    go_wp2
    go_ret
    exact ⟨rfl, hB2⟩

def fre (W H : Int) (f : Nat → Int) (x y : Int) : Bool := hvB W H x y && decide (f (y * W + x).toNat = 0)
theorem kA_free {W H : Int} {f : Nat → Int} {x y : Int} (h : fre W H f x y = true) : kA W H f x y = 0 ∧ 0 ≤ x ∧ x < W ∧ 0 ≤ y ∧ y < H := by
  simp only [fre, Bool.and_eq_true, decide_eq_true_eq] at h
  exact ⟨by unfold kA; rw [if_pos h.1, h.2], hvB_t h.1⟩
theorem kA_not {W H : Int} {f : Nat → Int} {x y : Int} (h : fre W H f x y = false) : (kA W H f x y == 0) = false := by
  unfold kA
  cases e : hvB W H x y with
  | false => simp
  | true =>
    simp only [fre, e, Bool.true_and, decide_eq_false_iff_not] at h
    simpa using h
end Go.Proofs.Ytfciecoigfnnhaa

/- A straight line from cell to cell, as the program holds it. -/
namespace Go.Proofs.Ytfciecoigfnnhaa
open Go.RowKit

/-- a leg as a value -/
abbrev lg (x y u v : Int) : Value := .agg #[.int .i64 x, .int .i64 y, .int .i64 u, .int .i64 v]
abbrev lgL (x y u v : Int) : List Value := [.int .i64 x, .int .i64 y, .int .i64 u, .int .i64 v]
theorem Bx.c3 {w : World} {b : Nat} {s t u v : Value} {l : List Value} (h : Bx w b (s :: t :: u :: v :: l)) : w.cell? ⟨b, 3, none⟩ = some v := h.c 3 (by simp)
theorem ret_leg {fn : Func} {t : Tmp} {R : Ending → World → Prop} {a : Act} {w : World} {b : Nat} {x y u v : Int} (h : fn.results = #[.cell t 123]) (hp : a.tmps.getD t undef = .pointer (some ⟨b, 0, none⟩)) (c : Bx w b (lgL x y u v)) (hd : a.defers = [])
    (hR : R (.returned (lg x y u v)) w) : bodyPost Try.prog fn R .ret a w := by
  refine bodyPost_ret ?_ hd hR
  have hp' : a.tmps[t]?.getD undef = .pointer (some ⟨b, 0, none⟩) := by simpa using hp
  simp [results, h, hp', asAddr, loadVar, go_sem, c.c0, c.c1, c.c2, c.c3]
theorem place_in (W H : Int) (n : Nat) (p : Int) (w : World) (hs : sizedB W n = true) (h0 : 0 ≤ p) (h1 : p < (n : Int)) :
    Calls Try.prog 103 #[sd W H, .int .i64 p] w fun e w' => e = .returned (.tuple #[.int .i64 (p % W), .int .i64 (p / W)]) ∧ Below w.heap.size w w' := by
  obtain ⟨k, rfl⟩ := Int.eq_ofNat_of_zero_le h0
  have := sized_le hs
  exact place_any W H k w (sizedB_t hs).1 (sizedB_t hs).2.1 (by omega)

set_option maxHeartbeats 1000000 in
theorem legFrom_any (W H : Int) (q : Option Addr) (n c : Nat) (a b : Int) (w : World) (hs : sizedB W n = true) (a0 : 0 ≤ a) (a1 : a < (n : Int)) (b0 : 0 ≤ b) (b1 : b < (n : Int)) :
    Calls Try.prog 86 #[gr W H q n c, .int .i64 a, .int .i64 b] w fun e w' => e = .returned (lg (a % W) (a / W) (b % W - a % W) (b / W - a / W)) ∧ Below w.heap.size w w' := by
  have hb0 : Below w.heap.size w ((w.alloc (.cells #[.int .i64 W, .int .i64 H, .slice q n c] 73)).alloc (.cells #[.int .i64 0, .int .i64 0, .int .i64 0, .int .i64 0] 123)) := ((Below.refl _ _).alloc (Nat.le_refl _) _).alloc (by simp) _
  have bG := (bx_new (w := w) [.int .i64 W, .int .i64 H, .slice q n c] 73 rfl).alloc (.cells #[.int .i64 0, .int .i64 0, .int .i64 0, .int .i64 0] 123)
  have bL := bx_new (w := w.alloc (.cells #[.int .i64 W, .int .i64 H, .slice q n c] 73)) (b := w.heap.size + 1) (lgL 0 0 0 0) 123 (by simp)
  have k1 := fun w => place_in W H n a w hs a0 a1
  have k2 := fun w => place_in W H n b w hs b0 b1
  obtain ⟨ax, ay⟩ := crd hs a0 a1
  obtain ⟨bx, by'⟩ := crd hs b0 b1
  generalize a % W = AX at *
  generalize a / W = AY at *
  generalize b % W = BX at *
  generalize b / W = BY at *
  clear hs a0 a1 b0 b1
  go_enter Try.func86, Try.ntmps86
  go_wp2_with fail
  refine (k1 _).mono ?_
  rintro e9 w1 ⟨rfl, hb1⟩
  have hB1 := stepA hb0 hb1
  have bG1 := bG.on hb1
  have bL1 := bL.on hb1
  have x0 := bG1.c0
  have x1 := bG1.c1
  clear hb0 bG bL hb1
  go_wp2_with fail
  refine (k2 _).mono ?_
  rintro e9 w2 ⟨rfl, hb2⟩
  have hB2 := stepA hB1 hb2
  have bL2 := bL1.on hb2
  have s0 := bL2.c0
  have s1 := bL2.c1
  have s2 := bL2.c2
  have s3 := bL2.c3
  have f0 := bL2.fz 0
  have f1 := bL2.fz 1
  have f2 := bL2.fz 2
  have f3 := bL2.fz 3
  have LR := bL2.lt
  have bE := ((((bL2.set 0 (by simp) (.int .i64 AX)).set 1 (by simp) (.int .i64 AY)).set 2 (by simp) (.int .i64 (BX - AX))).set 3 (by simp) (.int .i64 (BY - AY)))
  have hBE := ((((hB2.setCell (p := ⟨w.heap.size + 1, 0, none⟩) (by simp) (.int .i64 AX)).setCell (p := ⟨w.heap.size + 1, 1, none⟩) (by simp) (.int .i64 AY)).setCell (p := ⟨w.heap.size + 1, 2, none⟩) (by simp) (.int .i64 (BX - AX))).setCell (p := ⟨w.heap.size + 1, 3, none⟩) (by simp) (.int .i64 (BY - AY)))
  clear x0 x1 bG1 bL1 hb2
  go_wp2
  refine ret_leg Try.results86 rfl bE rfl ?_
  exact ⟨rfl, hBE⟩
end Go.Proofs.Ytfciecoigfnnhaa
