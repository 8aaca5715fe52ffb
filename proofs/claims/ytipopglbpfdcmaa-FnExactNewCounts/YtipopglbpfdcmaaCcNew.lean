/- New counts, as both make them. -/
import Derived.Test.YtipopglbpfdcmaaCcLaw1
namespace Go.Proofs.Ytipopglbpfdcmaa
open Go.RowKit

def nwN (W H : Int) : Nat := if sidesB W H then (W * H).toNat else 0
def nwW (W H : Int) : Int := if sidesB W H then W else 0
theorem prod_bd {W H : Int} (h : sidesB W H = true) : 1 ≤ W * H ∧ W * H ≤ 256 := by
  obtain ⟨h1, h2, h3, h4⟩ := sidesB_t h
  have := Int.mul_le_mul h2 h4 (by omega) (by omega)
  have := Int.mul_le_mul h1 h3 (by omega) (by omega)
  omega
abbrev madeO (N : Nat) : Obj := .cells (madeCells #[.int .i64 0] N) 3
abbrev newW (w1 : World) (s : Nat) (v0 v1 v2 : Value) (N : Nat) : World := (((((w1.setCell ⟨s, 0, none⟩ v0).setCell ⟨s, 1, none⟩ v1).setCell ⟨s, 2, none⟩ v2).alloc (madeO N)).alloc (madeO N)).drew
section
variable {w w1 : World} {s : Nat} {u0 u1 u2 v0 v1 v2 : Value}
theorem new_bx (b : Bx w1 s [u0, u1, u2]) (v0 v1 v2 : Value) (N : Nat) : Bx (newW w1 s v0 v1 v2 N) s [v0, v1, v2] :=
  ((((((b.set 0 (by simp) v0).set 1 (by simp) v1).set 2 (by simp) v2).alloc (madeO N)).alloc (madeO N)).on (Below.refl _ _).drew)
theorem new_c0 (b : Bx w1 s [u0, u1, u2]) (v0 v1 v2 : Value) (N : Nat) : (newW w1 s v0 v1 v2 N).cell? ⟨s, 0, none⟩ = some v0 := (new_bx b v0 v1 v2 N).c0
theorem new_c1 (b : Bx w1 s [u0, u1, u2]) (v0 v1 v2 : Value) (N : Nat) : (newW w1 s v0 v1 v2 N).cell? ⟨s, 1, none⟩ = some v1 := (new_bx b v0 v1 v2 N).c1
theorem new_c2 (b : Bx w1 s [u0, u1, u2]) (v0 v1 v2 : Value) (N : Nat) : (newW w1 s v0 v1 v2 N).cell? ⟨s, 2, none⟩ = some v2 := (new_bx b v0 v1 v2 N).c2
theorem made_ip (w : World) (b N : Nat) (h : b = w.heap.size) : IP (w.alloc (madeO N)) b N (fun _ => 0) := by
  subst h
  exact row_ip (World.rowIs_made w (.int .i64 0) N 3)
theorem new_ip1 (N : Nat) : IP (newW w1 s v0 v1 v2 N) w1.heap.size N (fun _ => 0) := by
  have h := made_ip (((w1.setCell ⟨s, 0, none⟩ v0).setCell ⟨s, 1, none⟩ v1).setCell ⟨s, 2, none⟩ v2) w1.heap.size N (by simp)
  exact h.below (((Below.refl _ _).alloc (Nat.le_refl _) (madeO N)).drew) h.lt
theorem new_ip2 (N : Nat) : IP (newW w1 s v0 v1 v2 N) (w1.heap.size + 1) N (fun _ => 0) := by
  have h := made_ip ((((w1.setCell ⟨s, 0, none⟩ v0).setCell ⟨s, 1, none⟩ v1).setCell ⟨s, 2, none⟩ v2).alloc (madeO N)) (w1.heap.size + 1) N (by simp)
  exact h.below (Below.refl _ _).drew h.lt
theorem new_size (N : Nat) : (newW w1 s v0 v1 v2 N).heap.size = w1.heap.size + 2 := by simp [newW, World.drew]
theorem new_cp {L : Nat} (h : L ≤ w1.heap.size) (N : Nat) : CP (newW w1 s v0 v1 v2 N) L (newW w1 s v0 v1 v2 N).heap.size (some ⟨w1.heap.size, 0, none⟩) N (fun _ => 0) (some ⟨w1.heap.size + 1, 0, none⟩) N (fun _ => 0) :=
  ⟨w1.heap.size, w1.heap.size + 1, w1.heap.size + 1, w1.heap.size + 2, by omega, by rw [new_size]; omega, by omega, by rw [new_size]; omega, .inl (by omega), lq_of (new_ip1 N) (by omega) (by omega), lq_of (new_ip2 N) (by omega) (by omega)⟩
theorem new_cp2 {L : Nat} (h : L ≤ w1.heap.size) (N : Nat) : CP (newW w1 s v0 v1 v2 N) L (newW w1 s v0 v1 v2 N).heap.size (some ⟨w1.heap.size + 1, 0, none⟩) N (fun _ => 0) (some ⟨w1.heap.size, 0, none⟩) N (fun _ => 0) :=
  ⟨w1.heap.size + 1, w1.heap.size + 2, w1.heap.size, w1.heap.size + 1, by omega, by rw [new_size]; omega, by omega, by rw [new_size]; omega, .inr (by omega), lq_of (new_ip2 N) (by omega) (by omega), lq_of (new_ip1 N) (by omega) (by omega)⟩
theorem new_below (h : Below w.heap.size w w1) (N : Nat) : Below w.heap.size w (newW w1 w.heap.size v0 v1 v2 N) :=
  ((((((h.setCell (p := ⟨w.heap.size, 0, none⟩) (Nat.le_refl _) v0).setCell (p := ⟨w.heap.size, 1, none⟩) (Nat.le_refl _) v1).setCell (p := ⟨w.heap.size, 2, none⟩) (Nat.le_refl _) v2).alloc (by simp only [size_set]; exact h.size) (madeO N)).alloc (by simp only [size_al, size_set]; have := h.size; omega) (madeO N))).drew
abbrev nwWd (w : World) (o : Obj) (N : Nat) : World := (((w.alloc o).alloc (madeO N)).alloc (madeO N)).drew
theorem nw_bx (w : World) (v0 v1 v2 : Value) (N : Nat) : Bx (nwWd w (.cells #[v0, v1, v2] 31) N) w.heap.size [v0, v1, v2] :=
  ((((bx_new (w := w) [v0, v1, v2] 31 rfl).alloc (madeO N)).alloc (madeO N)).on (Below.refl _ _).drew)
theorem nw_c0 (w : World) (v0 v1 v2 : Value) (N : Nat) : (nwWd w (.cells #[v0, v1, v2] 31) N).cell? ⟨w.heap.size, 0, none⟩ = some v0 := (nw_bx w v0 v1 v2 N).c0
theorem nw_c1 (w : World) (v0 v1 v2 : Value) (N : Nat) : (nwWd w (.cells #[v0, v1, v2] 31) N).cell? ⟨w.heap.size, 1, none⟩ = some v1 := (nw_bx w v0 v1 v2 N).c1
theorem nw_c2 (w : World) (v0 v1 v2 : Value) (N : Nat) : (nwWd w (.cells #[v0, v1, v2] 31) N).cell? ⟨w.heap.size, 2, none⟩ = some v2 := (nw_bx w v0 v1 v2 N).c2
theorem nw_ip1 (w : World) (o : Obj) (N : Nat) : IP (nwWd w o N) (w.heap.size + 1) N (fun _ => 0) := by
  have h := made_ip (w.alloc o) (w.heap.size + 1) N (by simp)
  exact h.below (((Below.refl _ _).alloc (Nat.le_refl _) (madeO N)).drew) h.lt
theorem nw_ip2 (w : World) (o : Obj) (N : Nat) : IP (nwWd w o N) (w.heap.size + 1 + 1) N (fun _ => 0) := by
  have h := made_ip ((w.alloc o).alloc (madeO N)) (w.heap.size + 1 + 1) N (by simp)
  exact h.below (Below.refl _ _).drew h.lt
theorem nw_size (w : World) (o : Obj) (N : Nat) : (nwWd w o N).heap.size = w.heap.size + 3 := by simp [nwWd, World.drew]
theorem nw_cp (w : World) (o : Obj) (N : Nat) : CP (nwWd w o N) w.heap.size (nwWd w o N).heap.size (some ⟨w.heap.size + 1, 0, none⟩) N (fun _ => 0) (some ⟨w.heap.size + 1 + 1, 0, none⟩) N (fun _ => 0) :=
  ⟨w.heap.size + 1, w.heap.size + 2, w.heap.size + 2, w.heap.size + 3, by omega, by rw [nw_size]; omega, by omega, by rw [nw_size]; omega, .inl (by omega), lq_of (nw_ip1 w o N) (by omega) (by omega), lq_of (nw_ip2 w o N) (by omega) (by omega)⟩
theorem nw_cp2 (w : World) (o : Obj) (N : Nat) : CP (nwWd w o N) w.heap.size (nwWd w o N).heap.size (some ⟨w.heap.size + 1 + 1, 0, none⟩) N (fun _ => 0) (some ⟨w.heap.size + 1, 0, none⟩) N (fun _ => 0) :=
  ⟨w.heap.size + 2, w.heap.size + 3, w.heap.size + 1, w.heap.size + 2, by omega, by rw [nw_size]; omega, by omega, by rw [nw_size]; omega, .inr (by omega), lq_of (nw_ip2 w o N) (by omega) (by omega), lq_of (nw_ip1 w o N) (by omega) (by omega)⟩
theorem nw_below (w : World) (o : Obj) (N : Nat) : Below w.heap.size w (nwWd w o N) :=
  ((((Below.refl _ _).alloc (Nat.le_refl _) o).alloc (by simp) (madeO N)).alloc (by simp <;> omega) (madeO N)).drew
end
set_option maxHeartbeats 1000000 in
theorem implNew (W H : Int) (w : World) :
    Calls Try.prog 26 #[.int .i64 W, .int .i64 H] w fun e w' => ∃ a b, e = .returned (cnt (nwW W H) a (nwN W H) (nwN W H) b (nwN W H) (nwN W H)) ∧ CP w' w.heap.size w'.heap.size a (nwN W H) (fun _ => 0) b (nwN W H) (fun _ => 0) ∧ Below w.heap.size w w' := by
  have bR0 := (bx_new (w := w) (cntL 0 none 0 0 none 0 0) 31 rfl).alloc (.cells #[.int .i64 W, .int .i64 H] 61)
  cases hs : sidesB W H with
  | false =>
    have e1 : nwN W H = 0 := by simp [nwN, hs]
    have e2 : nwW W H = 0 := by simp [nwW, hs]
    rw [e1, e2]
    go_enter Try.func26, Try.ntmps26
    go_wp2_with fail
    refine (sgood_any W H _).mono ?_
    rw [hs]
    rintro e w1 ⟨rfl, hb1⟩
    have bR := bR0.on hb1
    have hB1 := below_al (below_al hb1)
    have r0 := bR.c0
    have r1 := bR.c1
    have r2 := bR.c2
    have f0 := bR.fz 0
    have f1 := bR.fz 1
    have f2 := bR.fz 2
    have bE := ((bR.set 0 (by simp) (.int .i64 0)).set 1 (by simp) (.slice none 0 0)).set 2 (by simp) (.slice none 0 0)
    have hBE := ((hB1.setCell (p := ⟨w.heap.size, 0, none⟩) (Nat.le_refl _) (.int .i64 0)).setCell (p := ⟨w.heap.size, 1, none⟩) (Nat.le_refl _) (.slice none 0 0)).setCell (p := ⟨w.heap.size, 2, none⟩) (Nat.le_refl _) (.slice none 0 0)
    clear bR0 hb1 hB1 bR
    go_wp2
    refine ret_cnt Try.results26 rfl bE.c0 bE.c1 bE.c2 rfl ?_
    exact ⟨none, none, rfl, cp_none _ _ _ _ _ _ _ hBE.size, hBE⟩
  | true =>
    have e1 : nwN W H = (W * H).toNat := by simp [nwN, hs]
    have e2 : nwW W H = W := by simp [nwW, hs]
    have hp := prod_bd hs
    obtain ⟨N, hN⟩ := Int.eq_ofNat_of_zero_le (show 0 ≤ W * H by omega)
    rw [e1, e2, hN, Int.toNat_natCast]
    have hmk := run_make_row' (P := Try.prog) 29 3 (.int .i64 0) 8 Try.underlying29 infoI rfl .i64 .i64 N (by omega) (by omega)
    rw [← hN] at hmk
    have HN : Hid (W * H = (N : Int)) := hN
    clear hN e1 e2
    go_enter Try.func26, Try.ntmps26
    go_wp2_with fail
    refine (sgood_any W H _).mono ?_
    rw [hs]
    rintro e w1 ⟨rfl, hb1⟩
    have bR := bR0.on hb1
    have hB1 := below_al (below_al hb1)
    have lR := bR.lt
    have r0 := bR.c0
    have r1 := bR.c1
    have r2 := bR.c2
    have f0 := bR.fz 0
    have f1 := bR.fz 1
    have f2 := bR.fz 2
    clear bR0 hb1
    go_wp2_with fail
    go_region
    all_goals go_wp2
    all_goals
      first
        | (refine ret_cnt Try.results26 rfl (new_c0 bR _ _ _ N) (new_c1 bR _ _ _ N) (new_c2 bR _ _ _ N) rfl ?_
           exact ⟨_, _, rfl, new_cp hB1.size N, new_below hB1 N⟩)
        | (refine ret_cnt Try.results26 rfl (new_c0 bR _ _ _ N) (new_c1 bR _ _ _ N) (new_c2 bR _ _ _ N) rfl ?_
           exact ⟨_, _, rfl, new_cp2 hB1.size N, new_below hB1 N⟩)
set_option maxHeartbeats 1000000 in
theorem specNew (W H : Int) (w : World) :
    Calls Try.prog 25 #[.int .i64 W, .int .i64 H] w fun e w' => ∃ a b, e = .returned (cnt (nwW W H) a (nwN W H) (nwN W H) b (nwN W H) (nwN W H)) ∧ CP w' w.heap.size w'.heap.size a (nwN W H) (fun _ => 0) b (nwN W H) (fun _ => 0) ∧ Below w.heap.size w w' := by
  cases hs : sidesB W H with
  | false =>
    have hs2 : ¬ (1 ≤ W ∧ W ≤ 16 ∧ 1 ≤ H ∧ H ≤ 16) := fun h => by rw [sidesB_mk h] at hs; cases hs
    have e1 : nwN W H = 0 := by simp [nwN, hs]
    have e2 : nwW W H = 0 := by simp [nwW, hs]
    rw [e1, e2]
    have hBE : Below w.heap.size w (w.alloc (cntO 0 none 0 0 none 0 0 31)) := (Below.refl _ _).alloc (Nat.le_refl _) _
    by_cases k1 : W < 1
    · go_enter Try.func25, Try.ntmps25
      go_wp2
      go_returns
      exact ⟨none, none, rfl, cp_none _ _ _ _ _ _ _ hBE.size, hBE⟩
    by_cases k2 : 16 < W
    · go_enter Try.func25, Try.ntmps25
      go_wp2
      go_returns
      exact ⟨none, none, rfl, cp_none _ _ _ _ _ _ _ hBE.size, hBE⟩
    by_cases k3 : H < 1
    · go_enter Try.func25, Try.ntmps25
      go_wp2
      go_returns
      exact ⟨none, none, rfl, cp_none _ _ _ _ _ _ _ hBE.size, hBE⟩
    have k4 : 16 < H := by omega
    go_enter Try.func25, Try.ntmps25
    go_wp2
    go_returns
    exact ⟨none, none, rfl, cp_none _ _ _ _ _ _ _ hBE.size, hBE⟩
  | true =>
    obtain ⟨h1, h2, h3, h4⟩ := sidesB_t hs
    have e1 : nwN W H = (W * H).toNat := by simp [nwN, hs]
    have e2 : nwW W H = W := by simp [nwW, hs]
    have hp := prod_bd hs
    obtain ⟨N, hN⟩ := Int.eq_ofNat_of_zero_le (show 0 ≤ W * H by omega)
    rw [e1, e2, hN, Int.toNat_natCast]
    have hmk := run_make_row' (P := Try.prog) 29 3 (.int .i64 0) 8 Try.underlying29 infoI rfl .i64 .i64 N (by omega) (by omega)
    rw [← hN] at hmk
    have HN : Hid (W * H = (N : Int)) := hN
    clear hN e1 e2
    have k1 : ¬ W < 1 := by omega
    have k2 : ¬ 16 < W := by omega
    have k3 : ¬ H < 1 := by omega
    have k4 : ¬ 16 < H := by omega
    clear h1 h2 h3 h4
    go_enter Try.func25, Try.ntmps25
    go_wp2_with fail
    go_region
    all_goals go_wp2
    all_goals
      first
        | (refine ret_cnt Try.results25 rfl (nw_c0 w _ _ _ N) (nw_c1 w _ _ _ N) (nw_c2 w _ _ _ N) rfl ?_
           exact ⟨_, _, rfl, nw_cp w _ N, nw_below w _ N⟩)
        | (refine ret_cnt Try.results25 rfl (nw_c0 w _ _ _ N) (nw_c1 w _ _ _ N) (nw_c2 w _ _ _ N) rfl ?_
           exact ⟨_, _, rfl, nw_cp2 w _ N, nw_below w _ N⟩)

theorem nwN_le (W H : Int) : nwN W H ≤ 256 := by
  unfold nwN
  split
  · next h => have := prod_bd h; omega
  · omega

set_option maxHeartbeats 1000000 in
theorem newLaw (W H : Int) (w : World) :
    Calls Try.prog 7 #[.int .i64 W, .int .i64 H] w fun e w' => e = .returned (.bool true) ∧ Below w.heap.size w w' := by
  have hN := nwN_le W H
  have hA := implNew W H
  have hS := specNew W H
  generalize nwN W H = N at hN hA hS
  generalize nwW W H = V at hA hS
  have hN2 : N ≤ 1048576 := by omega
  have j1 : ¬ (1 : Int) + (N : Int) + (N : Int) < 0 := by omega
  go_enter Try.func7, Try.ntmps7
  have hB0 := Below.refl w.heap.size w
  go_wp2_with fail
  refine (hS _).mono ?_
  rintro e w1 ⟨a1, b1, rfl, hC1, hb2⟩
  have hs3 := hb2.size
  have hB4 := stepA hB0 hb2
  clear hB0 hb2
  try simp only [size_al] at hs3
  try simp only [size_al] at hC1
  have z5 := bx_new (w := w1) [.int .i64 V, .slice a1 N N, .slice b1 N N] 31 rfl
  have hx6 : Below w1.heap.size w1 (w1.alloc (.cells #[.int .i64 V, .slice a1 N N, .slice b1 N N] 31)) := (Below.refl _ _).alloc (Nat.le_refl _) _
  have z7 := hC1.on hx6
  clear hC1
  have hB8 := stepA hB4 hx6
  clear hB4 hx6
  have x9 := z5.c0
  have x10 := z5.c1
  have x11 := z5.c2
  go_wp2_with fail
  refine (hA _).mono ?_
  rintro e w12 ⟨a2, b2, rfl, hC2, hb13⟩
  have hs14 := hb13.size
  have z15 := z7.on hb13
  have z16 := z5.on hb13
  clear z7 z5
  have hB17 := stepA hB8 hb13
  clear hB8 hb13
  try simp only [size_al] at hs14
  try simp only [size_al] at hC2
  have z18 := bx_new (w := w12) [.int .i64 V, .slice a2 N N, .slice b2 N N] 31 rfl
  have hx19 : Below w12.heap.size w12 (w12.alloc (.cells #[.int .i64 V, .slice a2 N N, .slice b2 N N] 31)) := (Below.refl _ _).alloc (Nat.le_refl _) _
  have z20 := z15.on hx19
  have z21 := z16.on hx19
  have z22 := hC2.on hx19
  clear z15 z16 hC2
  have hB23 := stepA hB17 hx19
  clear hB17 hx19
  clear x9 x10 x11
  have x24 := z21.c0
  have x25 := z21.c1
  have x26 := z21.c2
  have x27 := z18.c0
  have x28 := z18.c1
  have x29 := z18.c2
  go_wp2_with fail
  refine (eqCounts_any V a2 b2 a1 b1 N N N N N N (fun _ => 0) (fun _ => 0) _ hN2 hN2 z22.il1 z22.il2 z20.il1 z20.il2).mono ?_
  rintro e w30 ⟨rfl, hb31⟩
  have hs32 := hb31.size
  have z33 := z20.on hb31
  have z34 := z21.on hb31
  have z35 := z22.on hb31
  have z36 := z18.on hb31
  clear z20 z21 z22 z18
  have hB37 := stepA hB23 hb31
  clear hB23 hb31
  try simp only [size_al] at hs32
  clear x24 x25 x26 x27 x28 x29
  have x38 := z34.c0
  have x39 := z34.c1
  have x40 := z34.c2
  have x41 := z36.c0
  have x42 := z36.c1
  have x43 := z36.c2
  go_wp2_with fail
  refine (markCounts_any V a2 b2 N N N N 1 (w1.heap.size + 1) (w12.heap.size) _ _ _ hN2 hN2 (by omega) z35 (by first | omega | (simp only [size_al]; omega))).mono ?_
  rintro e w44 ⟨rfl, z46, ht45⟩
  have hs47 := ht45.size
  try simp only [size_al] at hs47
  have z48 := z33.turns ht45 (by first | omega | (simp only [size_al]; omega))
  have z49 := z34.turns ht45 (by first | omega | (simp only [size_al]; omega))
  have z50 := z36.turns ht45 (by first | omega | (simp only [size_al]; omega))
  clear z33 z34 z36
  have hB51 := hB37.trans (ht45.below (by omega) (by first | omega | (simp only [size_al]; omega)))
  clear hB37 ht45 z35
  clear x38 x39 x40 x41 x42 x43
  have x52 := z49.c0
  have x53 := z49.c1
  have x54 := z49.c2
  have x55 := z50.c0
  have x56 := z50.c1
  have x57 := z50.c2
  go_wp2_with fail
  refine (heldCounts_any V a2 b2 N N N N 1 (w1.heap.size + 1) (w12.heap.size) _ hN2 hN2 (by omega) z46).mono ?_
  rintro e w58 ⟨rfl, hb59⟩
  have hs60 := hb59.size
  have z61 := z48.on hb59
  have z62 := z49.on hb59
  have z63 := z50.on hb59
  have z64 := z46.on hb59
  clear z48 z49 z50 z46
  have hB65 := stepA hB51 hb59
  clear hB51 hb59
  try simp only [size_al] at hs60
  clear x52 x53 x54 x55 x56 x57
  have x66 := z62.c0
  have x67 := z62.c1
  have x68 := z62.c2
  have x69 := z63.c0
  have x70 := z63.c1
  have x71 := z63.c2
  go_wp2_with fail
  refine (hA _).mono ?_
  rintro e w72 ⟨a3, b3, rfl, hC3, hb73⟩
  have hs74 := hb73.size
  have z75 := z61.on hb73
  have z76 := z62.on hb73
  have z77 := z63.on hb73
  have z78 := z64.on hb73
  clear z61 z62 z63 z64
  have hB79 := stepA hB65 hb73
  clear hB65 hb73
  try simp only [size_al] at hs74
  try simp only [size_al] at hC3
  have z80 := bx_new (w := w72) [.int .i64 V, .slice a3 N N, .slice b3 N N] 31 rfl
  have hx81 : Below w72.heap.size w72 (w72.alloc (.cells #[.int .i64 V, .slice a3 N N, .slice b3 N N] 31)) := (Below.refl _ _).alloc (Nat.le_refl _) _
  have z82 := z75.on hx81
  have z83 := z76.on hx81
  have z84 := z77.on hx81
  have z85 := z78.on hx81
  have z86 := hC3.on hx81
  clear z75 z76 z77 z78 hC3
  have hB87 := stepA hB79 hx81
  clear hB79 hx81
  clear x66 x67 x68 x69 x70 x71
  have x88 := z83.c0
  have x89 := z83.c1
  have x90 := z83.c2
  have x91 := z84.c0
  have x92 := z84.c1
  have x93 := z84.c2
  have x94 := z80.c0
  have x95 := z80.c1
  have x96 := z80.c2
  go_wp2_with fail
  refine (eqCounts_any V a3 b3 a1 b1 N N N N N N (fun _ => 0) (fun _ => 0) _ hN2 hN2 z86.il1 z86.il2 z82.il1 z82.il2).mono ?_
  rintro e w97 ⟨rfl, hb98⟩
  have hs99 := hb98.size
  have z100 := z82.on hb98
  have z101 := z83.on hb98
  have z102 := z84.on hb98
  have z103 := z85.on hb98
  have z104 := z86.on hb98
  have z105 := z80.on hb98
  clear z82 z83 z84 z85 z86 z80
  have hB106 := stepA hB87 hb98
  clear hB87 hb98
  try simp only [size_al] at hs99
  clear x88 x89 x90 x91 x92 x93 x94 x95 x96
  have x107 := z101.c0
  have x108 := z101.c1
  have x109 := z101.c2
  have x110 := z102.c0
  have x111 := z102.c1
  have x112 := z102.c2
  have x113 := z105.c0
  have x114 := z105.c1
  have x115 := z105.c2
  go_wp2_with fail
  refine (heldCounts_any V a2 b2 N N N N 1 (w1.heap.size + 1) (w12.heap.size) _ hN2 hN2 (by omega) z103).mono ?_
  rintro e w116 ⟨rfl, hb117⟩
  have hs118 := hb117.size
  have z119 := z100.on hb117
  have z120 := z101.on hb117
  have z121 := z102.on hb117
  have z122 := z103.on hb117
  have z123 := z104.on hb117
  have z124 := z105.on hb117
  clear z100 z101 z102 z103 z104 z105
  have hB125 := stepA hB106 hb117
  clear hB106 hb117
  try simp only [size_al] at hs118
  clear x107 x108 x109 x110 x111 x112 x113 x114 x115
  clear z119
  clear z120
  clear z121
  clear z122
  clear z123
  clear z124
  go_wp2
  go_ret
  exact ⟨rfl, hB125⟩
end Go.Proofs.Ytipopglbpfdcmaa
