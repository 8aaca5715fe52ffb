/- Which lists are places, as both say it. -/
import Derived.Test.YtipopglbpfdcmaaDoorClSpec
namespace Go.Proofs.YtipopglbpfdcmaaDoor
open Go.RowKit

/-- are the first k numbers of g free cells that rise -/
def plsB (n : Nat) (f g : Nat → Int) : Nat → Bool
  | 0 => true
  | k + 1 => plsB n f g k && frB n f (g k) && (decide (k = 0) || decide (g (k - 1) < g k))
theorem plsB_le {n : Nat} {f g : Nat → Int} {k m : Nat} (h : plsB n f g m = true) (hk : k ≤ m) : plsB n f g k = true := by
  induction m with
  | zero => have : k = 0 := by omega
            subst this; exact h
  | succ m ih =>
    simp only [plsB, Bool.and_eq_true] at h
    by_cases e : k = m + 1
    · subst e; simp only [plsB, Bool.and_eq_true]; exact h
    · exact ih h.1.1 (by omega)
theorem plsB_at {n : Nat} {f g : Nat → Int} {k m : Nat} (h : plsB n f g m = true) (hk : k < m) : frB n f (g k) = true ∧ (0 < k → g (k - 1) < g k) := by
  have := plsB_le h (show k + 1 ≤ m by omega)
  simp only [plsB, Bool.and_eq_true, Bool.or_eq_true, decide_eq_true_eq] at this
  exact ⟨this.1.2, fun h0 => by rcases this.2 with e | e; { omega }; { exact e }⟩
theorem plsB_not {n : Nat} {f g : Nat → Int} {k m : Nat} (hk : k < m) (h : frB n f (g k) = false ∨ (0 < k ∧ ¬ g (k - 1) < g k)) : plsB n f g m = false := by
  cases e : plsB n f g m with
  | false => rfl
  | true =>
    have h2 := plsB_at e hk
    rcases h with h | h
    · rw [h2.1] at h; cases h
    · exact absurd (h2.2 h.1) h.2
/-- are cells good, and a list places of theirs -/
def undB (W : Int) (n : Nat) (f : Nat → Int) (m : Nat) (g : Nat → Int) : Bool := celB W n f && plsB n f g m

set_option maxHeartbeats 4000000 in
theorem specPlaces (W : Int) (a b : Option Addr) (n c m d : Nat) (f g : Nat → Int) (w : World) (hn : n ≤ 1048576) (hm : m ≤ 1048576) (hf : IL w a n f) (hg : IL w b m g) :
    Calls Tryd.prog 15 #[cel W a n c, .slice b m d] w fun e w' => e = .returned (.bool (undB W n f m g)) ∧ Below w.heap.size w w' := by
  have hb0 : Below w.heap.size w (w.alloc (celO W a n c 25)) := (Below.refl _ _).alloc (Nat.le_refl _) _
  have b0 := bx_new (w := w) (celL W a n c) 25 rfl
  unfold undB
  cases hs : celB W n f with
  | false =>
    go_enter Tryd.func15, Tryd.ntmps15
    go_wp2_with fail
    refine (specGoodL W a n c f _ hn (hf.below hb0)).mono ?_
    rw [hs]
    rintro e w1 ⟨rfl, hb1⟩
    have hB1 := stepA hb0 hb1
    go_wp2
    go_ret
    exact ⟨rfl, hB1⟩
  | true =>
    rw [Bool.true_and]
    go_enter Tryd.func15, Tryd.ntmps15
    go_wp2_with fail
    refine (specGoodL W a n c f _ hn (hf.below hb0)).mono ?_
    rw [hs]
    rintro e w1 ⟨rfl, hb1⟩
    have hB1 := stepA hb0 hb1
    have b1 := b0.on hb1
    clear hb0 hb1 b0
    go_wp2
    go_loopw [12] (fun i wr => ∃ k : Nat, k ≤ m ∧ i = .int .i64 k ∧ plsB n f g k = true ∧ Below w1.heap.size w1 wr) (fun i _ => m - (intOf i).toNat)
    case atStart => exact ⟨0, Nat.zero_le _, rfl, rfl, Below.refl _ _⟩
    case round =>
      obtain ⟨k, hk, rfl, hall, hB⟩ := hrel
      have hBw := hB1.trans (hB.mono hB1.size)
      by_cases hlt : k < m
      · obtain ⟨p, off, rfl, hb, hc⟩ := (hg.below hBw) (by omega)
        have y0 := hc k hlt
        have j1 : (k : Int) < (m : Int) := by omega
        have bw := b1.on hB
        have x0 := bw.c0
        have x1 := bw.c1
        have hfw := hf.below hBw
        cases hr : frB n f (g k) with
        | false =>
          have h0 := plsB_not (m := m) hlt (.inl hr)
          clear hc
          go_wp2_with fail
          refine (sfree_any W a n c f (g k) _ hfw hn).mono ?_
          rw [hr]
          rintro e w6 ⟨rfl, hb6⟩
          have hB6 := stepA hBw hb6
          clear x0 x1 hfw
          go_wp2
          go_ret
          first | exact ⟨ret_bool h0.symm, hB6⟩ | exact ⟨rfl, hB6⟩
        | true =>
          by_cases k0 : k = 0
          · subst k0
            have h1 : plsB n f g 1 = true := by simp [plsB, hr]
            have y0' : wr.cell? ⟨p, off, none⟩ = some (.int .i64 (g 0)) := y0
            clear hc
            go_wp2_with fail
            refine (sfree_any W a n c f (g 0) _ hfw hn).mono ?_
            rw [hr]
            rintro e w6 ⟨rfl, hb6⟩
            have hB6 := hB.trans (hb6.mono hB.size)
            clear x0 x1 hfw
            go_wp2
            exact ⟨⟨1, by omega, rfl, h1, hB6⟩, by simp [intOf]; omega⟩
          · have y1 := hc (k - 1) (by omega)
            have i0 : (0 : Int) < (k : Int) := by omega
            have i1 : (0 : Int) ≤ (k : Int) - 1 := by omega
            have i2 : (k : Int) - 1 < (m : Int) := by omega
            clear hc
            by_cases hlt2 : g (k - 1) < g k
            · have h1 : plsB n f g (k + 1) = true := by simp [plsB, hr, hall, hlt2]
              have hle : ¬ g k ≤ g (k - 1) := by omega
              generalize g k = x at y0 hr hle hlt2
              generalize g (k - 1) = y at y1 hle hlt2
              go_wp2_with fail
              refine (sfree_any W a n c f x _ hfw hn).mono ?_
              rw [hr]
              rintro e w6 ⟨rfl, hb6⟩
              have hB6 := hB.trans (hb6.mono hB.size)
              have z1 := (hb6.cell (p := ⟨p, off + (k - 1), none⟩) hb).trans y1
              clear x0 x1 hfw y0 y1
              go_wp2
              exact ⟨⟨k + 1, by omega, by go_num, h1, hB6⟩, by simp [intOf]; omega⟩
            · have h0 := plsB_not (n := n) (f := f) (g := g) (m := m) hlt (.inr ⟨by omega, hlt2⟩)
              have hle : g k ≤ g (k - 1) := by omega
              generalize g k = x at y0 hr hle hlt2
              generalize g (k - 1) = y at y1 hle hlt2
              go_wp2_with fail
              refine (sfree_any W a n c f x _ hfw hn).mono ?_
              rw [hr]
              rintro e w6 ⟨rfl, hb6⟩
              have hB6 := stepA hBw hb6
              have z1 := (hb6.cell (p := ⟨p, off + (k - 1), none⟩) hb).trans y1
              clear x0 x1 hfw
              go_wp2
              go_ret
              first | exact ⟨ret_bool h0.symm, hB6⟩ | exact ⟨rfl, hB6⟩
      · have hke : k = m := by omega
        subst hke
        clear hf hg b1
        go_wp2
        go_ret
        exact ⟨ret_bool hall.symm, hBw⟩
set_option maxHeartbeats 4000000 in
theorem under_f (W : Int) (a b : Option Addr) (n c m d : Nat) (f : Nat → Int) (w : World) (hn : n ≤ 1048576) (hf : IL w a n f) (hs : celB W n f = false) :
    Calls Tryd.prog 12 #[cel W a n c, .slice b m d] w fun e w' => e = .returned (.tuple #[gr 0 0 none 0 0, .bool false]) ∧ Below w.heap.size w w' := by
  have hgd := groundOf_any W a n c f ((w.alloc (celO W a n c 25)).alloc (.cells #[.int .i64 0, .int .i64 0, .slice none 0 0] 42)) hn ((hf.alloc _).alloc _)
  rw [hs] at hgd
  have hg' : Calls Tryd.prog 27 #[cel W a n c] ((w.alloc (celO W a n c 25)).alloc (.cells #[.int .i64 0, .int .i64 0, .slice none 0 0] 42)) fun e w' => e = .returned (.tuple #[gr 0 0 none 0 0, .bool false]) ∧ Below ((w.alloc (celO W a n c 25)).alloc (.cells #[.int .i64 0, .int .i64 0, .slice none 0 0] 42)).heap.size ((w.alloc (celO W a n c 25)).alloc (.cells #[.int .i64 0, .int .i64 0, .slice none 0 0] 42)) w' := hgd
  have bR0 := bx_new (w := w.alloc (celO W a n c 25)) (b := w.heap.size + 1) [.int .i64 0, .int .i64 0, .slice none 0 0] 42 (by simp)
  clear hgd
  go_enter Tryd.func12, Tryd.ntmps12
  go_wp2_with fail
  refine hg'.mono ?_
  rintro e w1 ⟨rfl, hb1⟩
  have bR := bR0.on hb1
  have hB1 := below_al (below_al hb1)
  have lR := bR.lt
  have r0 := bR.c0
  have r1 := bR.c1
  have r2 := bR.c2
  have f0 := bR.fz 0
  have f1 := bR.fz 1
  have f2 := bR.fz 2
  have bE := (((bR.set 0 (by simp) (.int .i64 0)).set 1 (by simp) (.int .i64 0)).set 2 (by simp) (.slice none 0 0)).alloc (.cells #[.int .i64 0, .int .i64 0, .slice none 0 0] 42)
  have hBE := (((hB1.setCell (p := ⟨w.heap.size + 1, 0, none⟩) (by simp) (.int .i64 0)).setCell (p := ⟨w.heap.size + 1, 1, none⟩) (by simp) (.int .i64 0)).setCell (p := ⟨w.heap.size + 1, 2, none⟩) (by simp) (.slice none 0 0)).alloc (by simp only [size_set]; exact hB1.size) (.cells #[.int .i64 0, .int .i64 0, .slice none 0 0] 42)
  clear bR0 hb1 hB1 bR hg'
  go_wp2
  refine ret_gr_tmp Tryd.results12 rfl bE.c0 bE.c1 bE.c2 rfl ?_
  exact ⟨rfl, hBE⟩
set_option maxHeartbeats 4000000 in
theorem under_t (W : Int) (a b : Option Addr) (n c m d : Nat) (f g : Nat → Int) (w : World) (hn : n ≤ 1048576) (hm : m ≤ 1048576) (hf : IL w a n f) (hg : IL w b m g) (hs : celB W n f = true) :
    Calls Tryd.prog 12 #[cel W a n c, .slice b m d] w fun e w' => (plsB n f g m = false ∧ e = .returned (.tuple #[gr 0 0 none 0 0, .bool false]) ∨ plsB n f g m = true ∧ e = .returned (.tuple #[gr W (hgt W n) a n c, .bool true])) ∧ Below w.heap.size w w' := by
  have hgd := groundOf_any W a n c f ((w.alloc (celO W a n c 25)).alloc (.cells #[.int .i64 0, .int .i64 0, .slice none 0 0] 42)) hn ((hf.alloc _).alloc _)
  rw [hs] at hgd
  have hg' : Calls Tryd.prog 27 #[cel W a n c] ((w.alloc (celO W a n c 25)).alloc (.cells #[.int .i64 0, .int .i64 0, .slice none 0 0] 42)) fun e w' => e = .returned (.tuple #[gr W (hgt W n) a n c, .bool true]) ∧ Below ((w.alloc (celO W a n c 25)).alloc (.cells #[.int .i64 0, .int .i64 0, .slice none 0 0] 42)).heap.size ((w.alloc (celO W a n c 25)).alloc (.cells #[.int .i64 0, .int .i64 0, .slice none 0 0] 42)) w' := hgd
  have bR0 := bx_new (w := w.alloc (celO W a n c 25)) (b := w.heap.size + 1) [.int .i64 0, .int .i64 0, .slice none 0 0] 42 (by simp)
  clear hgd
  generalize hgt W n = H at *
  go_enter Tryd.func12, Tryd.ntmps12
  go_wp2_with fail
  refine hg'.mono ?_
  rintro e w1 ⟨rfl, hb1⟩
  have bR1 := bR0.on hb1
  have hB1 := below_al (below_al hb1)
  have lR := bR1.lt
  clear bR0 hb1 hg'
  go_wp2
  have hB2 := hB1.alloc hB1.size (.cells #[.int .i64 W, .int .i64 H, .slice a n c] 42)
  have bG := bx_new (w := w1) (b := w1.heap.size) [.int .i64 W, .int .i64 H, .slice a n c] 42 rfl
  have bR := bR1.alloc (.cells #[.int .i64 W, .int .i64 H, .slice a n c] 42)
  have HB : Hid (Below w.heap.size w (w1.alloc (.cells #[.int .i64 W, .int .i64 H, .slice a n c] 42))) := hB2
  clear bR1 hB1 hB2
  generalize w1.alloc (.cells #[.int .i64 W, .int .i64 H, .slice a n c] 42) = W2 at bG bR HB ⊢
  go_loopw [20] (fun i wr => ∃ k : Nat, k ≤ m ∧ i = .int .i64 k ∧ plsB n f g k = true ∧ Below W2.heap.size W2 wr) (fun i _ => m - (intOf i).toNat)
  case atStart => exact ⟨0, Nat.zero_le _, rfl, rfl, Below.refl _ _⟩
  case round =>
    obtain ⟨k, hk, rfl, hall, hB⟩ := hrel
    have hBw := HB.out.trans (hB.mono HB.out.size)
    by_cases hlt : k < m
    · obtain ⟨p, off, rfl, hb, hc⟩ := (hg.below hBw) (by omega)
      have y0 := hc k hlt
      have j1 : (k : Int) < (m : Int) := by omega
      have bw := bG.on hB
      have x0 := bw.c0
      have x1 := bw.c1
      have x2 := bw.c2
      have hfw := hf.below hBw
      cases hr : frB n f (g k) with
      | false =>
        have h0 := plsB_not (m := m) hlt (.inl hr)
        clear hc
        go_wp2_with fail
        refine (free_any W H a n c f (g k) _ hfw hn).mono ?_
        rw [hr]
        rintro e w6 ⟨rfl, hb6⟩
        have hB6 := stepA hBw hb6
        clear x0 x1 x2 hfw
        have bR6 := (bR.on hB).on hb6
        have r0 := bR6.c0
        have r1 := bR6.c1
        have r2 := bR6.c2
        have f0 := bR6.fz 0
        have f1 := bR6.fz 1
        have f2 := bR6.fz 2
        have bE := (((bR6.set 0 (by simp) (.int .i64 (0))).set 1 (by simp) (.int .i64 (0))).set 2 (by simp) (.slice none 0 0))
        have hBE := (((hB6.setCell (p := ⟨w.heap.size + 1, 0, none⟩) (by simp) (.int .i64 (0))).setCell (p := ⟨w.heap.size + 1, 1, none⟩) (by simp) (.int .i64 (0))).setCell (p := ⟨w.heap.size + 1, 2, none⟩) (by simp) (.slice none 0 0))
        go_wp2
        refine ret_gr_tmp Tryd.results12 rfl bE.c0 bE.c1 bE.c2 rfl ?_
        first | exact ⟨.inl ⟨h0, rfl⟩, hBE⟩ | exact ⟨.inl ⟨rfl, rfl⟩, hBE⟩
      | true =>
        by_cases k0 : k = 0
        · subst k0
          have h1 : plsB n f g 1 = true := by simp [plsB, hr]
          have y0' : wr.cell? ⟨p, off, none⟩ = some (.int .i64 (g 0)) := y0
          clear hc
          go_wp2_with fail
          refine (free_any W H a n c f (g 0) _ hfw hn).mono ?_
          rw [hr]
          rintro e w6 ⟨rfl, hb6⟩
          have hB6 := hB.trans (hb6.mono hB.size)
          clear x0 x1 x2 hfw
          go_wp2
          exact ⟨⟨1, by omega, rfl, h1, hB6⟩, by simp [intOf]; omega⟩
        · have y1 := hc (k - 1) (by omega)
          have i0 : (0 : Int) < (k : Int) := by omega
          have i1 : (0 : Int) ≤ (k : Int) - 1 := by omega
          have i2 : (k : Int) - 1 < (m : Int) := by omega
          clear hc
          by_cases hlt2 : g (k - 1) < g k
          · have h1 : plsB n f g (k + 1) = true := by simp [plsB, hr, hall, hlt2]
            have hle : ¬ g k ≤ g (k - 1) := by omega
            generalize g k = x at y0 hr hle hlt2
            generalize g (k - 1) = y at y1 hle hlt2
            go_wp2_with fail
            refine (free_any W H a n c f x _ hfw hn).mono ?_
            rw [hr]
            rintro e w6 ⟨rfl, hb6⟩
            have hB6 := hB.trans (hb6.mono hB.size)
            have z1 := (hb6.cell (p := ⟨p, off + (k - 1), none⟩) hb).trans y1
            clear x0 x1 x2 hfw y0 y1
            go_wp2
            exact ⟨⟨k + 1, by omega, by go_num, h1, hB6⟩, by simp [intOf]; omega⟩
          · have h0 := plsB_not (n := n) (f := f) (g := g) (m := m) hlt (.inr ⟨by omega, hlt2⟩)
            have hle : g k ≤ g (k - 1) := by omega
            generalize g k = x at y0 hr hle hlt2
            generalize g (k - 1) = y at y1 hle hlt2
            go_wp2_with fail
            refine (free_any W H a n c f x _ hfw hn).mono ?_
            rw [hr]
            rintro e w6 ⟨rfl, hb6⟩
            have hB6 := stepA hBw hb6
            have z1 := (hb6.cell (p := ⟨p, off + (k - 1), none⟩) hb).trans y1
            clear x0 x1 x2 hfw
            have bR6 := (bR.on hB).on hb6
            have r0 := bR6.c0
            have r1 := bR6.c1
            have r2 := bR6.c2
            have f0 := bR6.fz 0
            have f1 := bR6.fz 1
            have f2 := bR6.fz 2
            have bE := (((bR6.set 0 (by simp) (.int .i64 (0))).set 1 (by simp) (.int .i64 (0))).set 2 (by simp) (.slice none 0 0))
            have hBE := (((hB6.setCell (p := ⟨w.heap.size + 1, 0, none⟩) (by simp) (.int .i64 (0))).setCell (p := ⟨w.heap.size + 1, 1, none⟩) (by simp) (.int .i64 (0))).setCell (p := ⟨w.heap.size + 1, 2, none⟩) (by simp) (.slice none 0 0))
            go_wp2
            refine ret_gr_tmp Tryd.results12 rfl bE.c0 bE.c1 bE.c2 rfl ?_
            first | exact ⟨.inl ⟨h0, rfl⟩, hBE⟩ | exact ⟨.inl ⟨rfl, rfl⟩, hBE⟩
    · have hke : k = m := by omega
      subst hke
      have bw := bG.on hB
      have x0 := bw.c0
      have x1 := bw.c1
      have x2 := bw.c2
      clear hf hg
      have bR6 := bR.on hB
      have r0 := bR6.c0
      have r1 := bR6.c1
      have r2 := bR6.c2
      have f0 := bR6.fz 0
      have f1 := bR6.fz 1
      have f2 := bR6.fz 2
      have bE := (((bR6.set 0 (by simp) (.int .i64 (W))).set 1 (by simp) (.int .i64 (H))).set 2 (by simp) (.slice a n c))
      have hBE := (((hBw.setCell (p := ⟨w.heap.size + 1, 0, none⟩) (by simp) (.int .i64 (W))).setCell (p := ⟨w.heap.size + 1, 1, none⟩) (by simp) (.int .i64 (H))).setCell (p := ⟨w.heap.size + 1, 2, none⟩) (by simp) (.slice a n c))
      go_wp2
      refine ret_gr_tmp Tryd.results12 rfl bE.c0 bE.c1 bE.c2 rfl ?_
      first | exact ⟨.inr ⟨hall, rfl⟩, hBE⟩ | exact ⟨.inr ⟨rfl, rfl⟩, hBE⟩
theorem under_any (W : Int) (a b : Option Addr) (n c m d : Nat) (f g : Nat → Int) (w : World) (hn : n ≤ 1048576) (hm : m ≤ 1048576) (hf : IL w a n f) (hg : IL w b m g) :
    Calls Tryd.prog 12 #[cel W a n c, .slice b m d] w fun e w' => e = .returned (.tuple #[gof W a n c (undB W n f m g), .bool (undB W n f m g)]) ∧ Below w.heap.size w w' := by
  unfold undB
  cases hs : celB W n f with
  | false => exact under_f W a b n c m d f w hn hf hs
  | true =>
    refine (under_t W a b n c m d f g w hn hm hf hg hs).mono fun e w' ⟨h, hB⟩ => ⟨?_, hB⟩
    rw [Bool.true_and]
    rcases h with ⟨h0, h1⟩ | ⟨h0, h1⟩
    · rw [h0, h1]; rfl
    · rw [h0, h1]; rfl
end Go.Proofs.YtipopglbpfdcmaaDoor
