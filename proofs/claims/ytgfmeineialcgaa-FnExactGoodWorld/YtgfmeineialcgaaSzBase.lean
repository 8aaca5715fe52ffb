/- Widths and heights, as both look at them. -/
import Derived.Test.YtgfmeineialcgaaLqBase
import Derived.Deep.Cut
namespace Go.Proofs.Ytgfmeineialcgaa
open Go.RowKit

/-- are n numbers cells of that width -/
def sizedB (W : Int) (n : Nat) : Bool := decide (1 ≤ W) && decide (W ≤ 16) && decide (W ≤ (n : Int)) && decide ((n : Int) % W = 0) && decide ((n : Int) / W ≤ 16)
theorem sizedB_t {W : Int} {n : Nat} (h : sizedB W n = true) : 1 ≤ W ∧ W ≤ 16 ∧ W ≤ (n : Int) ∧ (n : Int) % W = 0 ∧ (n : Int) / W ≤ 16 := by
  simpa [sizedB, and_assoc] using h
theorem sizedB_mk {W : Int} {n : Nat} (h : 1 ≤ W ∧ W ≤ 16 ∧ W ≤ (n : Int) ∧ (n : Int) % W = 0 ∧ (n : Int) / W ≤ 16) : sizedB W n = true := by
  simpa [sizedB, and_assoc] using h
theorem sizedB_f {W : Int} {n : Nat} (h : ¬ (1 ≤ W ∧ W ≤ 16 ∧ W ≤ (n : Int) ∧ (n : Int) % W = 0 ∧ (n : Int) / W ≤ 16)) : sizedB W n = false := by
  cases e : sizedB W n with
  | false => rfl
  | true => exact absurd (sizedB_t e) h
/-- how high they are -/
def hgt (W : Int) (n : Nat) : Int := (n : Int) / W
theorem hgt_mul {W : Int} {n : Nat} (h : sizedB W n = true) : hgt W n * W = (n : Int) ∧ 1 ≤ hgt W n ∧ hgt W n ≤ 16 := by
  obtain ⟨h1, h2, h3, h4, h5⟩ := sizedB_t h
  unfold hgt
  have e := Int.emod_add_mul_ediv (n : Int) W
  rw [h4, Int.zero_add, Int.mul_comm] at e
  refine ⟨e, ?_, h5⟩
  rcases Int.lt_or_le ((n : Int) / W) 1 with h6 | h6
  · have h7 : (n : Int) / W * W ≤ 0 := Int.mul_nonpos_of_nonpos_of_nonneg (by omega) (by omega)
    omega
  · exact h6
theorem sized_le {W : Int} {n : Nat} (h : sizedB W n = true) : 1 ≤ n ∧ n ≤ 256 := by
  obtain ⟨h0, h1, h2⟩ := hgt_mul h
  obtain ⟨h3, h4, _⟩ := sizedB_t h
  have := Int.mul_le_mul h2 h4 (by omega) (by omega)
  have := Int.mul_le_mul h1 h3 (by omega) (by omega)
  omega

set_option maxHeartbeats 1000000 in
theorem l12Sized_any (W : Int) (n : Nat) (w : World) (hn : n ≤ 1048576) :
    Calls Try.prog 19 #[.int .i64 W, .int .i64 (n : Int)] w fun e w' => e = .returned (.bool (sizedB W n)) ∧ w' = w := by
  have j0 : (0 : Int) ≤ (n : Int) := by omega
  by_cases h1 : 1 ≤ W
  · by_cases h2 : W ≤ 16
    · by_cases h3 : W ≤ (n : Int)
      · have hz : ¬ W = 0 := by omega
        have et := Int.tmod_eq_emod_of_nonneg (a := (n : Int)) (b := W) (by omega)
        have ed := Int.tdiv_eq_ediv_of_nonneg (a := (n : Int)) (b := W) (by omega)
        have hq0 : 0 ≤ (n : Int) / W := Int.ediv_nonneg (by omega) (by omega)
        have hq1 : (n : Int) / W ≤ (n : Int) := Int.ediv_le_self _ (by omega)
        by_cases h4 : (n : Int) % W = 0
        · by_cases h5 : (n : Int) / W ≤ 16
          · go_enter Try.func19, Try.ntmps19
            go_wp2
            go_ret
            exact ⟨ret_bool (sizedB_mk (by omega)).symm, rfl⟩
          · go_enter Try.func19, Try.ntmps19
            go_wp2
            go_ret
            exact ⟨ret_bool (sizedB_f (by omega)).symm, rfl⟩
        · go_enter Try.func19, Try.ntmps19
          go_wp2
          go_ret
          exact ⟨ret_bool (sizedB_f (by omega)).symm, rfl⟩
      · go_enter Try.func19, Try.ntmps19
        go_wp2
        go_ret
        exact ⟨ret_bool (sizedB_f (by omega)).symm, rfl⟩
    · go_enter Try.func19, Try.ntmps19
      go_wp2
      go_ret
      exact ⟨ret_bool (sizedB_f (by omega)).symm, rfl⟩
  · go_enter Try.func19, Try.ntmps19
    go_wp2
    go_ret
    exact ⟨ret_bool (sizedB_f (by omega)).symm, rfl⟩

/-- sides as a value -/
abbrev sd (W H : Int) : Value := .agg #[.int .i64 W, .int .i64 H]
def sidesB (W H : Int) : Bool := decide (1 ≤ W) && decide (W ≤ 16) && decide (1 ≤ H) && decide (H ≤ 16)
theorem sidesB_t {W H : Int} (h : sidesB W H = true) : 1 ≤ W ∧ W ≤ 16 ∧ 1 ≤ H ∧ H ≤ 16 := by simpa [sidesB, and_assoc] using h
theorem sidesB_mk {W H : Int} (h : 1 ≤ W ∧ W ≤ 16 ∧ 1 ≤ H ∧ H ≤ 16) : sidesB W H = true := by simpa [sidesB, and_assoc] using h
theorem sidesB_f {W H : Int} (h : ¬ (1 ≤ W ∧ W ≤ 16 ∧ 1 ≤ H ∧ H ≤ 16)) : sidesB W H = false := by
  cases e : sidesB W H with
  | false => rfl
  | true => exact absurd (sidesB_t e) h
theorem sized_sides {W : Int} {n : Nat} (h1 : 1 ≤ W) (h4 : (n : Int) % W = 0) : sidesB W ((n : Int) / W) = sizedB W n := by
  have e := Int.emod_add_mul_ediv (n : Int) W
  rw [h4, Int.zero_add, Int.mul_comm] at e
  have hq0 : 0 ≤ (n : Int) / W := Int.ediv_nonneg (by omega) (by omega)
  cases hs : sizedB W n with
  | true =>
    obtain ⟨_, k1, k2⟩ := hgt_mul hs
    obtain ⟨_, k3, _⟩ := sizedB_t hs
    unfold hgt at k1 k2
    exact sidesB_mk ⟨h1, k3, k1, k2⟩
  | false =>
    refine sidesB_f fun ⟨_, k2, k3, k4⟩ => ?_
    have : W ≤ (n : Int) := by
      have := Int.mul_le_mul_of_nonneg_right k3 (show 0 ≤ W by omega)
      omega
    rw [sizedB_mk ⟨h1, k2, this, h4, k4⟩] at hs
    cases hs
set_option maxHeartbeats 1000000 in
theorem sgood_any (W H : Int) (w : World) :
    Calls Try.prog 23 #[sd W H] w fun e w' => e = .returned (.bool (sidesB W H)) ∧ Below w.heap.size w w' := by
  have hb0 : Below w.heap.size w (w.alloc (.cells #[.int .i64 W, .int .i64 H] 41)) := (Below.refl _ _).alloc (Nat.le_refl _) _
  by_cases h1 : 1 ≤ W
  · by_cases h2 : W ≤ 16
    · by_cases h3 : 1 ≤ H
      · by_cases h4 : H ≤ 16
        · go_enter Try.func23, Try.ntmps23
          go_wp2
          go_ret
          exact ⟨ret_bool (sidesB_mk (by omega)).symm, hb0⟩
        · go_enter Try.func23, Try.ntmps23
          go_wp2
          go_ret
          exact ⟨ret_bool (sidesB_f (by omega)).symm, hb0⟩
      · go_enter Try.func23, Try.ntmps23
        go_wp2
        go_ret
        exact ⟨ret_bool (sidesB_f (by omega)).symm, hb0⟩
    · go_enter Try.func23, Try.ntmps23
      go_wp2
      go_ret
      exact ⟨ret_bool (sidesB_f (by omega)).symm, hb0⟩
  · go_enter Try.func23, Try.ntmps23
    go_wp2
    go_ret
    exact ⟨ret_bool (sidesB_f (by omega)).symm, hb0⟩

theorem keepS {w w' : World} {b : Nat} {u v : Value} (h1 : Bx w b [u, v]) (k : Below w.heap.size w w') :
    w'.cell? ⟨b, 0, none⟩ = some u ∧ w'.cell? ⟨b, 1, none⟩ = some v := ⟨(h1.on k).c0, (h1.on k).c1⟩
theorem keepT {w : World} {b b' k : Nat} {u v x : Value} (h1 : Bx w b [u, v]) (hn : b ≠ b') :
    (w.setCell ⟨b', k, none⟩ x).cell? ⟨b, 0, none⟩ = some u ∧ (w.setCell ⟨b', k, none⟩ x).cell? ⟨b, 1, none⟩ = some v := ⟨(h1.far x hn).c0, (h1.far x hn).c1⟩
theorem ret_sd_tmp {fn : Func} {t t2 : Tmp} {R : Ending → World → Prop} {a : Act} {w : World} {b : Nat} {u v : Value} (h : fn.results = #[.cell t 41, .tmp t2]) (hp : a.tmps.getD t undef = .pointer (some ⟨b, 0, none⟩)) (c0 : w.cell? ⟨b, 0, none⟩ = some u) (c1 : w.cell? ⟨b, 1, none⟩ = some v) (hd : a.defers = [])
    (hR : R (.returned (.tuple #[.agg #[u, v], a.tmps.getD t2 undef])) w) : bodyPost Try.prog fn R .ret a w := by
  refine bodyPost_ret ?_ hd hR
  rw [results_cell_tmp h, hp]
  simp [asAddr, loadVar, go_sem, c0, c1]
/-- what sidesOver tells of -/
def ovr (W : Int) (n : Nat) : Int × Int := if 1 ≤ W ∧ (n : Int) % W = 0 then (W, (n : Int) / W) else (0, 0)
theorem ovr_t {W : Int} {n : Nat} (h : sizedB W n = true) : ovr W n = (W, hgt W n) := by
  obtain ⟨h1, _, _, h4, _⟩ := sizedB_t h
  unfold ovr hgt
  rw [if_pos ⟨h1, h4⟩]
set_option maxHeartbeats 1000000 in
theorem over_any (W : Int) (n : Nat) (w : World) (hn : n ≤ 1048576) :
    Calls Try.prog 21 #[.int .i64 W, .int .i64 (n : Int)] w fun e w' => e = .returned (.tuple #[sd (ovr W n).1 (ovr W n).2, .bool (sizedB W n)]) ∧ Below w.heap.size w w' := by
  have j0 : (0 : Int) ≤ (n : Int) := by omega
  by_cases h1 : 1 ≤ W
  · have hz : ¬ W = 0 := by omega
    have et := Int.tmod_eq_emod_of_nonneg (a := (n : Int)) (b := W) (by omega)
    have ed := Int.tdiv_eq_ediv_of_nonneg (a := (n : Int)) (b := W) (by omega)
    have hq0 : 0 ≤ (n : Int) / W := Int.ediv_nonneg (by omega) (by omega)
    have hq1 : (n : Int) / W ≤ (n : Int) := Int.ediv_le_self _ (by omega)
    by_cases h4 : (n : Int) % W = 0
    · have he : ovr W n = (W, (n : Int) / W) := by unfold ovr; rw [if_pos ⟨h1, h4⟩]
      have hs := sized_sides h1 h4
      rw [he, ← hs]
      have k1 : ¬ W < 1 := by omega
      have k4 : ((n : Int) % W != 0) = false := by simp [h4]
      go_enter Try.func21, Try.ntmps21
      go_upto_region 4 with fail
      generalize hH : (n : Int) / W = H at hq0 hq1 ed ⊢
      have bR := (bx_new (w := w) [.int .i64 0, .int .i64 0] 41 rfl).alloc (.cells #[.int .i64 W, .int .i64 H] 41)
      have bA := bx_new (w := w.alloc (.cells #[.int .i64 0, .int .i64 0] 41)) (b := w.heap.size + 1) [.int .i64 W, .int .i64 H] 41 (by simp)
      have hB0 : Below w.heap.size w ((w.alloc (.cells #[.int .i64 0, .int .i64 0] 41)).alloc (.cells #[.int .i64 W, .int .i64 H] 41)) := ((Below.refl _ _).alloc (Nat.le_refl _) _).alloc (by simp) _
      generalize (w.alloc (.cells #[.int .i64 0, .int .i64 0] 41)).alloc (.cells #[.int .i64 W, .int .i64 H] 41) = W0 at bR bA hB0 ⊢
      have hw0 := Below.refl W0.heap.size W0
      have a0 := bA.c0
      have a1 := bA.c1
      have l1 := bR.lt
      have l2 := bA.lt
      have hne : w.heap.size + 1 ≠ w.heap.size := by omega
      have hH' : Hid ((n : Int) / W = H) := hH
      clear hH he hs h4 k4 k1 et ed hz h1
      go_region_held3 (fun w' => w'.cell? ⟨w.heap.size + 1, 0, none⟩ = some (.int .i64 W) ∧ w'.cell? ⟨w.heap.size + 1, 1, none⟩ = some (.int .i64 H))
        (first | (exact keepS bA hw0.drew) | (exact keepS bA hw1) | (exact keepS bA hw0) | (exact keepT ((bA.on hw1).far _ hne) hne) | (fail))
        ((go_at_call 23; refine (sgood_any W H _).mono ?_; rintro e w1 ⟨rfl, hbn⟩; have hw1 := stepA hw0.drew hbn; have r0 := (bR.on hw1).c0; have r1 := (bR.on hw1).c1; have r2 := (bR.on hw1).fz 0; have r3 := (bR.on hw1).fz 1; clear hbn))
      have bE := (((bR.on hw1).set 0 (by simp) (.int .i64 W)).set 1 (by simp) (.int .i64 H))
      have hBE := (((hB0.trans (hw1.mono hB0.size)).setCell (p := ⟨w.heap.size, 0, none⟩) (Nat.le_refl _) (.int .i64 W)).setCell (p := ⟨w.heap.size, 1, none⟩) (Nat.le_refl _) (.int .i64 H))
      go_wp2
      refine ret_sd_tmp Try.results21 rfl bE.c0 bE.c1 rfl ?_
      rw [hH'.out]
      exact ⟨rfl, hBE⟩
    · have he : ovr W n = (0, 0) := by unfold ovr; rw [if_neg (by omega)]
      rw [he, sizedB_f (by omega)]
      have k1 : ¬ W < 1 := by omega
      have k4 : ((n : Int) % W != 0) = true := by simp [h4]
      clear h4
      go_enter Try.func21, Try.ntmps21
      go_wp2
      go_returns
      exact ⟨rfl, (Below.refl _ _).alloc (Nat.le_refl _) _⟩
  · have he : ovr W n = (0, 0) := by unfold ovr; rw [if_neg (by omega)]
    rw [he, sizedB_f (by omega)]
    have k1 : W < 1 := by omega
    clear h1
    go_enter Try.func21, Try.ntmps21
    go_wp2
    go_returns
    exact ⟨rfl, (Below.refl _ _).alloc (Nat.le_refl _) _⟩
end Go.Proofs.Ytgfmeineialcgaa
