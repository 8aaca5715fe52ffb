/- Lists of a struct of two ints, marked. -/
import Derived.Test.YtbndhhjgjalecaaDoorQCwTrip
import Derived.Test.YtbndhhjgjalecaaDoorQLqSz
import Derived.Test.YtbndhhjgjalecaaDoorQSzBase
import Derived.Test.YtbndhhjgjalecaaDoorQLqList
import Derived.Test.YtbndhhjgjalecaaDoorQClNxB
namespace Go.Proofs.YtbndhhjgjalecaaDoor
open Go.RowKit
set_option maxHeartbeats 1000000 in
theorem markTrip_ip (b n cap m : Nat) (F : Nat → Int) (w : World) (hn : n ≤ 1048576) (hm : m ≤ 1048576 * 4) (h : IP w b (n * 2) F) :
    Calls Tryd.prog 23 #[.slice (some ⟨b, 0, none⟩) n cap, .int .i64 (m : Int)] w fun e w' => e = .returned (.int .i64 ((m : Int) + ((n * 2 : Nat) : Int))) ∧ IP w' b (n * 2) (fun i => (m : Int) + (i : Int)) ∧ Only b w w' := by
  go_enter Tryd.func23, Tryd.ntmps23
  go_wp2
  go_loopw [1, 5] (fun q i wr => ∃ (k : Nat) (F' : Nat → Int), k ≤ n ∧ i = .int .i64 k ∧ q = .int .i64 ((m : Int) + ((k * 2 : Nat) : Int)) ∧ IP wr b (n * 2) F' ∧ (∀ j, j < k * 2 → F' j = (m : Int) + (j : Int)) ∧ Only b w wr) (fun _ i _ => n - (intOf i).toNat)
  case atStart => exact ⟨0, F, Nat.zero_le _, rfl, by simp, h, fun j hj => absurd hj (by omega), Only.refl _ _⟩
  case round =>
    obtain ⟨k, F', hk, rfl, rfl, hP, hF, hO⟩ := hrel
    clear h
    by_cases hlt : k < n
    · obtain ⟨x0, x1⟩ := ip_two hP hlt
      have f0 := hP.fz (k * 2)
      have f1 := hP.fz (k * 2 + 1)
      have i0 : (0 : Int) ≤ (k : Int) := by omega
      have i1 : (k : Int) < (n : Int) := by omega
      obtain ⟨K, hK⟩ : ∃ K : Int, K = (m : Int) + ((k * 2 : Nat) : Int) := ⟨_, rfl⟩
      have hK0 : 0 ≤ K := by omega
      have hK1 : K ≤ 10000000 := by omega
      have HK : Hid (K = (m : Int) + ((k * 2 : Nat) : Int)) := hK
      rw [← hK]
      clear hK
      go_wp2
      have hK := HK.out
      refine ⟨⟨k + 1, _, by omega, by go_num, by congr 1 <;> omega, (hP.set (k := k * 2) (by omega) _).set (k := k * 2 + 1) (by omega) _, fun j hj => ?_, (hO.set _ _).set _ _⟩, by simp [intOf]; omega⟩
      unfold put
      by_cases e1 : j = k * 2 + 1
      · rw [if_pos e1]; omega
      rw [if_neg e1]
      by_cases e0 : j = k * 2
      · rw [if_pos e0]; omega
      rw [if_neg e0]
      exact hF j (by omega)
    · have hke : k = n := by omega
      subst hke
      go_wp2
      go_ret
      exact ⟨rfl, hP.congr hF, hO⟩
set_option maxHeartbeats 400000 in
theorem markTrip_zero (a : Option Addr) (cap m : Nat) (w : World) :
    Calls Tryd.prog 23 #[.slice a 0 cap, .int .i64 (m : Int)] w fun e w' => e = .returned (.int .i64 (m : Int)) ∧ w' = w := by
  go_enter Tryd.func23, Tryd.ntmps23
  go_wp2
  go_loopw [1, 5] (fun q i wr => i = .int .i64 0 ∧ q = .int .i64 (m : Int) ∧ wr = w) (fun _ _ _ => 0)
  case atStart => exact ⟨rfl, rfl, rfl⟩
  case round =>
    obtain ⟨rfl, rfl, rfl⟩ := hrel
    go_wp2
    go_ret
    exact ⟨rfl, rfl⟩
theorem markTripT (a : Option Addr) (n cap m lo hi : Nat) (F : Nat → Int) (w : World) (hn : n ≤ 1048576) (hm : m ≤ 1048576 * 4) (h : LQ w lo hi a (n * 2) F) :
    Calls Tryd.prog 23 #[.slice a n cap, .int .i64 (m : Int)] w fun e w' => e = .returned (.int .i64 ((m : Int) + ((n * 2 : Nat) : Int))) ∧ LQ w' lo hi a (n * 2) (fun i => (m : Int) + (i : Int)) ∧ Turns lo hi w w' := by
  by_cases h0 : 0 < n
  · obtain ⟨b, rfl, h1, h2, hP⟩ := h (by omega)
    exact (markTrip_ip b n cap m F w hn hm hP).mono fun e w' ⟨h3, h4, h5⟩ => ⟨h3, lq_of h4 h1 h2, (OnlyIn.of h5 h1 h2).turns⟩
  · have : n = 0 := by omega
    subst this
    refine (markTrip_zero a cap m w).mono fun e w' ⟨h3, h4⟩ => ?_
    subst h4
    exact ⟨by rw [h3]; simp, lq_none _ _ _ _ _, (OnlyIn.refl _ _ _).turns⟩
end Go.Proofs.YtbndhhjgjalecaaDoor

/- Cells: the law's own copies of them, compared, marked, and held. -/
namespace Go.Proofs.YtbndhhjgjalecaaDoor
open Go.RowKit

set_option maxHeartbeats 1000000 in
theorem toCells_any (W : Int) (a : Option Addr) (n c : Nat) (f : Nat → Int) (w : World) (hn : n ≤ 1048576) (hf : IL w a n f) :
    Calls Tryd.prog 17 #[cel W a n c] w fun e w' => ∃ a', e = .returned (cel W a' n n) ∧ LQ w' w.heap.size w'.heap.size a' n f ∧ Below w.heap.size w w' := by
  go_enter Tryd.func17, Tryd.ntmps17
  go_wp2_with fail
  refine (copyQ a n c f _ hn (((hf.alloc _).alloc _).alloc _)).mono ?_
  rintro e w1 ⟨rfl, hL1, hs1, hb1⟩
  have bO := (((bx_new (w := w.alloc (celO W a n c 39)) (b := w.heap.size + 1) (celL 0 none 0 0) 25 (by simp)).alloc _).on hb1)
  have bT := ((bx_new (w := (w.alloc (celO W a n c 39)).alloc (celO 0 none 0 0 25)) (b := w.heap.size + 1 + 1) (celL W none 0 0) 25 (by simp)).on hb1)
  have hB1 := below_al (below_al (below_al hb1))
  simp only [size_al] at hL1 hs1
  clear hb1
  have y0 := bT.c0
  have y1 := bT.c1
  have yf := bT.fz 1
  have z0 := bO.c0
  have z1 := bO.c1
  have zf0 := bO.fz 0
  have zf1 := bO.fz 1
  have bR := ((bO.far (b' := w.heap.size + 1 + 1) (k := 1) (.slice (some ⟨w.heap.size + 1 + 1 + 1, 0, none⟩) n n) (by omega)).set 0 (by simp) (.int .i64 W)).set 1 (by simp) (.slice (some ⟨w.heap.size + 1 + 1 + 1, 0, none⟩) n n)
  have hL4 := lq_set (lq_set (lq_set hL1 (b := w.heap.size + 1 + 1) (k := 1) (.slice (some ⟨w.heap.size + 1 + 1 + 1, 0, none⟩) n n) (by omega)) (b := w.heap.size + 1) (k := 0) (.int .i64 W) (by omega)) (b := w.heap.size + 1) (k := 1) (.slice (some ⟨w.heap.size + 1 + 1 + 1, 0, none⟩) n n) (by omega)
  have hB4 := ((hB1.setCell (p := ⟨w.heap.size + 1 + 1, 1, none⟩) (by simp <;> omega) (.slice (some ⟨w.heap.size + 1 + 1 + 1, 0, none⟩) n n)).setCell (p := ⟨w.heap.size + 1, 0, none⟩) (by simp <;> omega) (.int .i64 W)).setCell (p := ⟨w.heap.size + 1, 1, none⟩) (by simp <;> omega) (.slice (some ⟨w.heap.size + 1 + 1 + 1, 0, none⟩) n n)
  go_wp2_with fail
  refine ret_cel Tryd.results17 rfl bR.c0 bR.c1 rfl ?_
  exact ⟨_, rfl, hL4.wide (by omega) (by simp only [size_set]; omega), hB4⟩

set_option maxHeartbeats 1000000 in
theorem eqCells_any (W : Int) (a a2 : Option Addr) (n c c2 : Nat) (f : Nat → Int) (w : World) (hn : n ≤ 1048576) (hf : IL w a n f) (hf2 : IL w a2 n f) :
    Calls Tryd.prog 20 #[cel W a n c, cel W a2 n c2] w fun e w' => e = .returned (.bool true) ∧ Below w.heap.size w w' := by
  go_enter Tryd.func20, Tryd.ntmps20
  go_wp2_with fail
  refine (eqI_any a a2 n c c2 f _ hn ((hf.alloc _).alloc _) ((hf2.alloc _).alloc _)).mono ?_
  rintro e w1 ⟨rfl, hb1⟩
  have hB1 := below_al (below_al hb1)
  clear hb1
  go_wp2
  go_ret
  exact ⟨rfl, hB1⟩

set_option maxHeartbeats 1000000 in
theorem szCells_in (W : Int) (a : Option Addr) (n c : Nat) (w : World) (h : n ≤ 1048576) :
    Calls Tryd.prog 15 #[cel W a n c, .int .i64 1048576] w fun e w' => e = .returned (.int .i64 (1048576 - (n : Int))) ∧ Below w.heap.size w w' := by
  have j1 : ¬ (1048576 : Int) - (n : Int) < 0 := by omega
  have hb0 : Below w.heap.size w (w.alloc (celO W a n c 39)) := (Below.refl _ _).alloc (Nat.le_refl _) _
  go_enter Tryd.func15, Tryd.ntmps15
  go_wp2_with fail
  refine (szI_in a n c 1048576 _ (by omega) (by omega)).mono ?_
  rintro e w1 ⟨rfl, hw1⟩
  have hs1 := hw1.symm
  clear hw1
  subst hs1
  go_wp2
  go_ret
  exact ⟨rfl, hb0⟩
set_option maxHeartbeats 1000000 in
theorem szCells_out (W : Int) (a : Option Addr) (n c : Nat) (w : World) (h : 1048576 < n) (hn : n ≤ 9223372036854775807) :
    Calls Tryd.prog 15 #[cel W a n c, .int .i64 1048576] w fun e w' => e = .returned (.int .i64 (-1)) ∧ Below w.heap.size w w' := by
  have hb0 : Below w.heap.size w (w.alloc (celO W a n c 39)) := (Below.refl _ _).alloc (Nat.le_refl _) _
  go_enter Tryd.func15, Tryd.ntmps15
  go_wp2_with fail
  refine (szI_out a n c 1048576 _ (by omega) (by omega) hn).mono ?_
  rintro e w1 ⟨rfl, hw1⟩
  have hs1 := hw1.symm
  clear hw1
  subst hs1
  go_wp2
  go_ret
  exact ⟨rfl, hb0⟩
end Go.Proofs.YtbndhhjgjalecaaDoor

/- Cells, marked. -/
namespace Go.Proofs.YtbndhhjgjalecaaDoor
open Go.RowKit
set_option maxHeartbeats 1000000 in
theorem markCells_any (W : Int) (a : Option Addr) (n c k lo hi : Nat) (f : Nat → Int) (w : World) (hn : n ≤ 1048576) (hk : k ≤ 1048576) (h : LQ w lo hi a n f) :
    Calls Tryd.prog 22 #[cel W a n c, .int .i64 (k : Int)] w fun e w' => e = .returned (.int .i64 ((k : Int) + (n : Int))) ∧ LQ w' lo hi a n (fun i => (k : Int) + (i : Int)) ∧ Turns lo hi w w' := by
  go_enter Tryd.func22, Tryd.ntmps22
  have hb0 : Below w.heap.size w (w.alloc (celO W a n c 25)) := (Below.refl _ _).alloc (Nat.le_refl _) _
  have hT0 : Turns lo hi w (w.alloc (celO W a n c 25)) := turns_of hb0
  go_wp2_with fail
  refine (markQ a n c k lo hi f _ hn (by omega) (h.on hb0)).mono ?_
  rintro e w1 ⟨rfl, hf1, hO1⟩
  have hT1 := hT0.trans hO1.turns
  clear hb0 hT0 h hO1
  go_wp2
  go_ret
  exact ⟨rfl, hf1, hT1⟩
end Go.Proofs.YtbndhhjgjalecaaDoor

/- Which places are free, as the program says it. -/
namespace Go.Proofs.YtbndhhjgjalecaaDoor
open Go.RowKit

set_option maxHeartbeats 1000000 in
theorem free_any (W H : Int) (a : Option Addr) (n c : Nat) (f : Nat → Int) (p : Int) (w : World) (hf : IL w a n f) (hn : n ≤ 1048576) :
    Calls Tryd.prog 61 #[gr W H a n c, .int .i64 p] w fun e w' => e = .returned (.bool (frB n f p)) ∧ Below w.heap.size w w' := by
  have hb0 : Below w.heap.size w (w.alloc (.cells #[.int .i64 W, .int .i64 H, .slice a n c] 68)) := (Below.refl _ _).alloc (Nat.le_refl _) _
  by_cases h0 : 0 ≤ p
  · by_cases h1 : p < (n : Int)
    · obtain ⟨k, rfl⟩ := Int.eq_ofNat_of_zero_le h0
      have hk : k < n := by omega
      obtain ⟨b, off, rfl, hb, hc⟩ := hf (by omega)
      have x0 := (hb0.cell (p := ⟨b, off + k, none⟩) hb).trans (hc k hk)
      by_cases h2 : f k = 0
      · have he : frB n f (k : Int) = true := frB_mk ⟨h0, h1, by simpa using h2⟩
        rw [he]
        rw [h2] at x0
        clear hc hf h2 he
        go_enter Tryd.func61, Tryd.ntmps61
        go_wp2
        go_ret
        exact ⟨rfl, hb0⟩
      · have he : frB n f (k : Int) = false := frB_f (by simp [h2])
        rw [he]
        generalize f k = x at x0 h2
        have k2 : (x == 0) = false := by simpa using h2
        clear hc hf h2 he
        go_enter Tryd.func61, Tryd.ntmps61
        go_wp2
        go_ret
        first | exact ⟨rfl, hb0⟩ | exact ⟨ret_bool k2, hb0⟩
    · rw [frB_f (by omega)]
      go_enter Tryd.func61, Tryd.ntmps61
      go_wp2
      go_ret
      exact ⟨rfl, hb0⟩
  · rw [frB_f (by omega)]
    go_enter Tryd.func61, Tryd.ntmps61
    go_wp2
    go_ret
    exact ⟨rfl, hb0⟩
end Go.Proofs.YtbndhhjgjalecaaDoor

/- Which places lie within the sides, and their numbers, as the program says it. -/
namespace Go.Proofs.YtbndhhjgjalecaaDoor
open Go.RowKit

set_option maxHeartbeats 1000000 in
theorem have_any (W H x y : Int) (w : World) :
    Calls Tryd.prog 100 #[sd W H, .int .i64 x, .int .i64 y] w fun e w' => e = .returned (.bool (hvB W H x y)) ∧ Below w.heap.size w w' := by
  have hb0 : Below w.heap.size w (w.alloc (.cells #[.int .i64 W, .int .i64 H] 66)) := (Below.refl _ _).alloc (Nat.le_refl _) _
  by_cases h1 : 0 ≤ x
  · by_cases h2 : x < W
    · by_cases h3 : 0 ≤ y
      · by_cases h4 : y < H
        · rw [hvB_mk ⟨h1, h2, h3, h4⟩]
          go_enter Tryd.func100, Tryd.ntmps100
          go_wp2
          go_ret
          exact ⟨rfl, hb0⟩
        · rw [hvB_f (by omega)]
          go_enter Tryd.func100, Tryd.ntmps100
          go_wp2
          go_ret
          exact ⟨rfl, hb0⟩
      · rw [hvB_f (by omega)]
        go_enter Tryd.func100, Tryd.ntmps100
        go_wp2
        go_ret
        exact ⟨rfl, hb0⟩
    · rw [hvB_f (by omega)]
      go_enter Tryd.func100, Tryd.ntmps100
      go_wp2
      go_ret
      exact ⟨rfl, hb0⟩
  · rw [hvB_f (by omega)]
    go_enter Tryd.func100, Tryd.ntmps100
    go_wp2
    go_ret
    exact ⟨rfl, hb0⟩
set_option maxHeartbeats 1000000 in
theorem number_any (W H x y : Int) (w : World) (h0 : 0 ≤ y * W) (h1 : y * W ≤ 1000) (h2 : 0 ≤ x) (h3 : x ≤ 1000) :
    Calls Tryd.prog 94 #[sd W H, .int .i64 x, .int .i64 y] w fun e w' => e = .returned (.int .i64 (y * W + x)) ∧ Below w.heap.size w w' := by
  have hb0 : Below w.heap.size w (w.alloc (.cells #[.int .i64 W, .int .i64 H] 66)) := (Below.refl _ _).alloc (Nat.le_refl _) _
  go_enter Tryd.func94, Tryd.ntmps94
  go_wp2
  go_ret
  exact ⟨rfl, hb0⟩
end Go.Proofs.YtbndhhjgjalecaaDoor
