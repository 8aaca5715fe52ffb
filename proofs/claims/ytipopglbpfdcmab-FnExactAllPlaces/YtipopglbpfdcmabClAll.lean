/- All free places, as both tell them. -/
import Derived.Test.YtipopglbpfdcmabClFree
namespace Go.Proofs.Ytipopglbpfdcmab
open Go.RowKit

set_option maxHeartbeats 2000000 in
theorem specAll (W : Int) (a : Option Addr) (n c : Nat) (f : Nat → Int) (w : World) (hn : n ≤ 1048576) (hf : IL w a n f) :
    Calls Try.prog 23 #[cel W a n c] w fun e w' => AnsL w w' e (apl W n f) ∧ Below w.heap.size w w' := by
  obtain ⟨i0, hi, hzz⟩ := Option.map_eq_some_iff.1 infoI
  simp only [Prod.mk.injEq] at hzz
  obtain ⟨hz0, hz1, hz2⟩ := hzz
  have hb0 : Below w.heap.size w (w.alloc (celO W a n c 34)) := (Below.refl _ _).alloc (Nat.le_refl _) _
  have hg := specGoodL W a n c f (w.alloc (celO W a n c 34)) hn (hf.alloc _)
  have b0 := bx_new (w := w) (celL W a n c) 34 rfl
  unfold apl
  cases hs : celB W n f with
  | false =>
    rw [hs] at hg
    go_enter Try.func23, Try.ntmps23
    go_wp2_with fail
    refine hg.mono ?_
    rintro e w1 ⟨rfl, hb1⟩
    have hB1 := stepA hb0 hb1
    clear hg
    go_wp2
    go_ret
    exact ⟨ansL_nil _ _, hB1⟩
  | true =>
    rw [hs] at hg
    have hN := sized_le (celB_parts hs).1
    simp only [if_true]
    go_enter Try.func23, Try.ntmps23
    go_wp2_with fail
    refine hg.mono ?_
    rintro e w1 ⟨rfl, hb1⟩
    have hB1 := stepA hb0 hb1
    have hf1 := hf.below hB1
    have b1 := b0.on hb1
    clear hg hb0 hb1 b0 hf
    have x1 := b1.c1
    go_wp2
    go_loopw [3, 11] (fun v i wr => ∃ k : Nat, k ≤ n ∧ i = .int .i64 k ∧ Own wr w1.heap.size v (pl f k).length (gl (pl f k)) ∧ Below w1.heap.size w1 wr) (fun _ i _ => n - (intOf i).toNat)
    case atStart => exact ⟨0, Nat.zero_le _, rfl, World.ownsRow_nil _ _ _ _, Below.refl _ _⟩
    case round =>
      obtain ⟨k, hk, rfl, hown, hB⟩ := hrel
      have hlen := pl_len f k
      have hBw := hB1.trans (hB.mono hB1.size)
      have hbase : w1.heap.size ≤ wr.heap.size := hB.size
      by_cases hlt : k < n
      · obtain ⟨p, off, rfl, hb, hc⟩ := (hf1.below hB) (by omega)
        have x0 := hc k hlt
        have y1 := (b1.on hB).c1
        have j1 : (k : Int) < (n : Int) := by omega
        by_cases hz : f k = 0
        · have hp : pl f (k + 1) = pl f k ++ [(k : Int)] := by simp [pl, hz]
          rw [hz] at x0
          clear hf1 hc x1 b1 hz
          generalize hl : pl f k = l at hown hp hlen
          obtain ⟨sa, sc, rfl⟩ := hown.shape
          go_wp2_with (at_builtin; refine wpList_append_own _ rfl _ _ 22 rfl w1.heap.size 3 i0 (.int .i64 0) 1 8 Try.underlying22 hi hz0 hz1 hz2 rfl (by decide) _ _ _ rfl (World.ownsRow.alloc hown _) ⟨wr.heap.size, 0, none⟩ 1 1 [.int .i64 (k : Int)] rfl rfl (cell_one_new _ _ _) (fun x hx => by simp at hx; subst hx; rfl) (by unfold maxLen; omega) (by omega) (by simp; omega) ?_; intro v' w3 hown' hgrow3 _)
          have hB3 := (hB.alloc hB.size (.cells #[.int .i64 (k : Int)] 3)).grown hgrow3 (by simp; omega) (fun q hq => (World.ownsRow.lt hown q hq).1)
          exact ⟨⟨k + 1, by omega, by go_num, by rw [hp]; exact own_snoc hown', hB3⟩, by simp [intOf]; omega⟩
        · have hp : pl f (k + 1) = pl f k := by simp [pl, hz]
          generalize f k = x at x0 hz
          have k2 : (x == 0) = false := by simpa using hz
          clear hf1 hc x1 b1 hz
          go_wp2
          exact ⟨⟨k + 1, by omega, by go_num, by rw [hp]; exact hown, hB⟩, by simp [intOf]; omega⟩
      · have hke : k = n := by omega
        subst hke
        obtain ⟨sa, sc, rfl⟩ := hown.shape
        clear hf1 b1 x1
        go_wp2
        go_ret
        exact ⟨ansL_own hown hB1.size, hBw⟩
set_option maxHeartbeats 2000000 in
theorem implAll (W : Int) (a : Option Addr) (n c : Nat) (f : Nat → Int) (w : World) (hn : n ≤ 1048576) (hf : IL w a n f) :
    Calls Try.prog 24 #[cel W a n c] w fun e w' => AnsL w w' e (apl W n f) ∧ Below w.heap.size w w' := by
  obtain ⟨i0, hi, hzz⟩ := Option.map_eq_some_iff.1 infoI
  simp only [Prod.mk.injEq] at hzz
  obtain ⟨hz0, hz1, hz2⟩ := hzz
  have hb0 : Below w.heap.size w (w.alloc (celO W a n c 34)) := (Below.refl _ _).alloc (Nat.le_refl _) _
  have hg := groundOf_any W a n c f (w.alloc (celO W a n c 34)) hn (hf.alloc _)
  unfold apl
  cases hs : celB W n f with
  | false =>
    rw [hs] at hg
    have hg' : Calls Try.prog 41 #[cel W a n c] (w.alloc (celO W a n c 34)) fun e w' => e = .returned (.tuple #[gr 0 0 none 0 0, .bool false]) ∧ Below (w.alloc (celO W a n c 34)).heap.size (w.alloc (celO W a n c 34)) w' := hg
    clear hg
    go_enter Try.func24, Try.ntmps24
    go_wp2_with fail
    refine hg'.mono ?_
    rintro e w1 ⟨rfl, hb1⟩
    have hB1 := stepA hb0 hb1
    clear hg' hb0 hb1
    go_wp2
    go_ret
    exact ⟨ansL_nil _ _, hB1.alloc hB1.size _⟩
  | true =>
    rw [hs] at hg
    have hg' : Calls Try.prog 41 #[cel W a n c] (w.alloc (celO W a n c 34)) fun e w' => e = .returned (.tuple #[gr W (hgt W n) a n c, .bool true]) ∧ Below (w.alloc (celO W a n c 34)).heap.size (w.alloc (celO W a n c 34)) w' := hg
    clear hg
    have hN := sized_le (celB_parts hs).1
    simp only [if_true]
    generalize hgt W n = H at hg'
    go_enter Try.func24, Try.ntmps24
    go_wp2_with fail
    refine hg'.mono ?_
    rintro e w1 ⟨rfl, hb1⟩
    have hB1 := stepA hb0 hb1
    have hf1 := hf.below hB1
    clear hg' hb0 hb1
    go_wp2
    have hO0 := own_lit0 (w1.alloc (.cells #[.int .i64 W, .int .i64 H, .slice a n c] 59)) (w1.heap.size + 1) (gl (pl f 0)) (by simp)
    have bG := (bx_new (w := w1) [.int .i64 W, .int .i64 H, .slice a n c] 59 rfl).alloc (.cells #[] 3)
    have hBG : Below w1.heap.size w1 ((w1.alloc (.cells #[.int .i64 W, .int .i64 H, .slice a n c] 59)).alloc (.cells #[] 3)) := ((Below.refl _ _).alloc (Nat.le_refl _) _).alloc (by simp) _
    rw [size_al] at hO0
    have hfG := hf1.below hBG
    have hB2 := hB1.trans (hBG.mono hB1.size)
    have hs1 := hB1.size
    have HO : Hid (Own ((w1.alloc (.cells #[.int .i64 W, .int .i64 H, .slice a n c] 59)).alloc (.cells #[] 3)) (w1.heap.size + 1) (.slice (some ⟨w1.heap.size + 1, 0, none⟩) 0 0) 0 (gl (pl f 0))) := hO0
    have hsG : ((w1.alloc (.cells #[.int .i64 W, .int .i64 H, .slice a n c] 59)).alloc (.cells #[] 3)).heap.size = w1.heap.size + 2 := by simp
    clear hBG hO0 hf1 hB1
    generalize (w1.alloc (.cells #[.int .i64 W, .int .i64 H, .slice a n c] 59)).alloc (.cells #[] 3) = W2 at HO bG hfG hB2 hsG ⊢
    go_loopw [5, 18] (fun v i wr => ∃ k : Nat, k ≤ n ∧ i = .int .i64 k ∧ Own wr (w1.heap.size + 1) v (pl f k).length (gl (pl f k)) ∧ Below (w1.heap.size + 1) W2 wr) (fun _ i _ => n - (intOf i).toNat)
    case atStart => exact ⟨0, Nat.zero_le _, rfl, HO.out, Below.refl _ _⟩
    case round =>
      obtain ⟨k, hk, rfl, hown, hB⟩ := hrel
      have hlen := pl_len f k
      have hBw := hB2.trans (hB.mono (by omega))
      have hbase : w1.heap.size + 1 ≤ wr.heap.size := by have := hB.size; omega
      clear HO
      by_cases hlt : k < n
      · have hfr := hfG
        have hfw : IL wr a n f := fun h0 => by
          obtain ⟨p, off, e1, e2, e3⟩ := hf (by omega)
          exact ⟨p, off, e1, Nat.lt_of_lt_of_le e2 hBw.size, fun i hi => (hBw.cell (p := ⟨p, off + i, none⟩) e2).trans (e3 i hi)⟩
        have bw := bG.below hB (by omega)
        have x0 := bw.c0
        have x1 := bw.c1
        have x2 := bw.c2
        have j1 : (k : Int) < (n : Int) := by omega
        go_wp2_with fail
        refine (free_any W H a n c f (k : Int) wr hfw hn).mono ?_
        rintro e w4 ⟨rfl, hb4⟩
        have hown4 := hown.below hb4
        have hB4 := hB.trans (hb4.mono hbase)
        have hbase4 : w1.heap.size + 1 ≤ w4.heap.size := Nat.le_trans hbase hb4.size
        clear x0 x1 x2 bw hfw hfr hfG bG hb4 hown
        by_cases hz : f k = 0
        · have hp : pl f (k + 1) = pl f k ++ [(k : Int)] := by simp [pl, hz]
          rw [frB_mk ⟨by omega, j1, by simpa using hz⟩]
          generalize hl : pl f k = l at hown4 hp hlen
          obtain ⟨sa, sc, rfl⟩ := hown4.shape
          go_wp2_with (at_builtin; refine wpList_append_own _ rfl _ _ 22 rfl (w1.heap.size + 1) 3 i0 (.int .i64 0) 1 8 Try.underlying22 hi hz0 hz1 hz2 rfl (by decide) _ _ _ rfl (World.ownsRow.alloc hown4 _) ⟨w4.heap.size, 0, none⟩ 1 1 [.int .i64 (k : Int)] rfl rfl (cell_one_new _ _ _) (fun x hx => by simp at hx; subst hx; rfl) (by unfold maxLen; omega) (by omega) (by simp; omega) ?_; intro v' w3 hown' hgrow3 _)
          have hB3 := (hB4.alloc hbase4 (.cells #[.int .i64 (k : Int)] 3)).grown hgrow3 (by simp; omega) (fun q hq => (World.ownsRow.lt hown4 q hq).1)
          exact ⟨⟨k + 1, by omega, by go_num, by rw [hp]; exact own_snoc hown', hB3⟩, by simp [intOf]; omega⟩
        · have hp : pl f (k + 1) = pl f k := by simp [pl, hz]
          rw [frB_f (by simp [hz])]
          go_wp2
          exact ⟨⟨k + 1, by omega, by go_num, by rw [hp]; exact hown4, hB4⟩, by simp [intOf]; omega⟩
      · have hke : k = n := by omega
        subst hke
        obtain ⟨sa, sc, rfl⟩ := hown.shape
        clear hfG bG
        go_wp2
        go_ret
        exact ⟨ansL_own hown (by omega), hBw⟩
end Go.Proofs.Ytipopglbpfdcmab
