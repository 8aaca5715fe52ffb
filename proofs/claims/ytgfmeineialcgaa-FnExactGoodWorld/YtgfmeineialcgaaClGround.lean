/- Which cells are good, as the model says it, and the ground that the program makes of them. -/
import Derived.Test.YtgfmeineialcgaaClVal
import Derived.Test.YtgfmeineialcgaaSzBase
namespace Go.Proofs.Ytgfmeineialcgaa
open Go.RowKit
def kB (x : Int) : Bool := decide (0 ≤ x) && decide (x ≤ 2)
/-- are the first k numbers kinds -/
def allK (f : Nat → Int) : Nat → Bool
  | 0 => true
  | k + 1 => allK f k && kB (f k)
theorem allK_at {f : Nat → Int} {n i : Nat} (h : allK f n = true) (hi : i < n) : 0 ≤ f i ∧ f i ≤ 2 := by
  induction n with
  | zero => omega
  | succ n ih =>
    simp only [allK, Bool.and_eq_true] at h
    by_cases e : i = n
    · subst e
      simpa [kB] using h.2
    · exact ih h.1 (by omega)
theorem allK_not {f : Nat → Int} {n i : Nat} (hi : i < n) (h : kB (f i) = false) : allK f n = false := by
  cases e : allK f n with
  | false => rfl
  | true =>
    have := allK_at e hi
    have : kB (f i) = true := by simp [kB, this]
    rw [h] at this; cases this
/-- are cells good -/
def celB (W : Int) (n : Nat) (f : Nat → Int) : Bool := sizedB W n && allK f n
theorem celB_parts {W : Int} {n : Nat} {f : Nat → Int} (h : celB W n f = true) : sizedB W n = true ∧ allK f n = true := by
  simpa [celB] using h

set_option maxHeartbeats 2000000 in
theorem specGoodL (W : Int) (a : Option Addr) (n c : Nat) (f : Nat → Int) (w : World) (hn : n ≤ 1048576) (hf : IL w a n f) :
    Calls Try.prog 10 #[cel W a n c] w fun e w' => e = .returned (.bool (celB W n f)) ∧ Below w.heap.size w w' := by
  have hsz := l12Sized_any W n (w.alloc (celO W a n c 29)) hn
  have hb0 : Below w.heap.size w (w.alloc (celO W a n c 29)) := (Below.refl _ _).alloc (Nat.le_refl _) _
  cases hs : sizedB W n with
  | false =>
    have he : celB W n f = false := by simp [celB, hs]
    rw [he]
    rw [hs] at hsz
    go_enter Try.func10, Try.ntmps10
    go_wp2_with fail
    refine hsz.mono ?_
    rintro e w1 ⟨rfl, hw1⟩
    have hs1 := hw1.symm
    clear hw1 hsz
    subst hs1
    go_wp2
    go_ret
    exact ⟨rfl, hb0⟩
  | true =>
    rw [hs] at hsz
    have he : celB W n f = allK f n := by simp [celB, hs]
    rw [he]
    go_enter Try.func10, Try.ntmps10
    go_wp2_with fail
    refine hsz.mono ?_
    rintro e w1 ⟨rfl, hw1⟩
    have hs1 := hw1.symm
    clear hw1 hsz
    subst hs1
    go_wp2
    have hf0 := hf.below hb0
    have HB : Hid (Below w.heap.size w (w.alloc (celO W a n c 29))) := hb0
    clear hb0 hf
    generalize w.alloc (celO W a n c 29) = W1 at hf0 HB ⊢
    go_loopw [15] (fun i wr => ∃ k : Nat, k ≤ n ∧ i = .int .i64 k ∧ allK f k = true ∧ wr = W1) (fun i _ => n - (intOf i).toNat)
    case atStart => exact ⟨0, Nat.zero_le _, rfl, rfl, rfl⟩
    case round =>
      obtain ⟨k, hk, rfl, hall, hw⟩ := hrel
      subst hw
      by_cases hlt : k < n
      · obtain ⟨p, off, rfl, hb, hc⟩ := hf0 (by omega)
        have x0 := hc k hlt
        have j1 : (k : Int) < (n : Int) := by omega
        have hno : kB (f k) = false → allK f n = false := allK_not hlt
        have hyes : kB (f k) = true → allK f (k + 1) = true := fun q => by simp [allK, hall, q]
        clear hf0 hc he
        generalize f k = x at x0 hno hyes
        by_cases c0 : x < 0
        · have h0 := hno (by simp [kB]; omega)
          go_wp2
          go_ret
          first | exact ⟨ret_bool h0.symm, HB.out⟩ | exact ⟨rfl, HB.out⟩
        by_cases c1 : 2 < x
        · have h0 := hno (by simp [kB]; omega)
          go_wp2
          go_ret
          first | exact ⟨ret_bool h0.symm, HB.out⟩ | exact ⟨rfl, HB.out⟩
        have h0 := hyes (by simp [kB]; omega)
        go_wp2
        exact ⟨⟨k + 1, by omega, by go_num, h0, trivial⟩, by simp [intOf]; omega⟩
      · have hke : k = n := by omega
        subst hke
        clear hf0 he
        go_wp2
        go_ret
        exact ⟨ret_bool hall.symm, HB.out⟩
/-- a ground as a value -/
abbrev gr (W H : Int) (a : Option Addr) (n c : Nat) : Value := .agg #[.int .i64 W, .int .i64 H, .slice a n c]
theorem ret_gr_tmp {fn : Func} {t t2 : Tmp} {R : Ending → World → Prop} {a : Act} {w : World} {b : Nat} {u v x : Value} (h : fn.results = #[.cell t 43, .tmp t2]) (hp : a.tmps.getD t undef = .pointer (some ⟨b, 0, none⟩)) (c0 : w.cell? ⟨b, 0, none⟩ = some u) (c1 : w.cell? ⟨b, 1, none⟩ = some v) (c2 : w.cell? ⟨b, 2, none⟩ = some x) (hd : a.defers = [])
    (hR : R (.returned (.tuple #[.agg #[u, v, x], a.tmps.getD t2 undef])) w) : bodyPost Try.prog fn R .ret a w := by
  refine bodyPost_ret ?_ hd hR
  rw [results_cell_tmp h, hp]
  simp [asAddr, loadVar, go_sem, c0, c1, c2]

set_option maxHeartbeats 2000000 in
theorem groundOf_f (W : Int) (a : Option Addr) (n c : Nat) (w : World) (hn : n ≤ 1048576) (hs : sizedB W n = false) :
    Calls Try.prog 14 #[cel W a n c] w fun e w' => e = .returned (.tuple #[gr 0 0 none 0 0, .bool false]) ∧ Below w.heap.size w w' := by
  have hov := over_any W n
  generalize ovr W n = o at hov
  obtain ⟨o1, o2⟩ := o
  have bR0 := bx_new (w := w.alloc (celO W a n c 29)) (b := w.heap.size + 1) [.int .i64 0, .int .i64 0, .slice none 0 0] 43 (by simp)
  go_enter Try.func14, Try.ntmps14
  go_wp2_with fail
  refine (hov _ hn).mono ?_
  rw [hs]
  rintro e w1 ⟨rfl, hb1⟩
  have bR := bR0.on hb1
  have hB1 := below_al (below_al hb1)
  have lR := bR.lt
  have r0 := bR.c0
  have r1 := bR.c1
  have r2 := bR.c2
  have f0 := bR.fz 0
  have f1 := bR.fz 1
  have f2 := bR.fz 2
  have bE := (((bR.set 0 (by simp) (.int .i64 0)).set 1 (by simp) (.int .i64 0)).set 2 (by simp) (.slice none 0 0)).alloc (.cells #[.int .i64 o1, .int .i64 o2] 41)
  have hBE := (((hB1.setCell (p := ⟨w.heap.size + 1, 0, none⟩) (by simp) (.int .i64 0)).setCell (p := ⟨w.heap.size + 1, 1, none⟩) (by simp) (.int .i64 0)).setCell (p := ⟨w.heap.size + 1, 2, none⟩) (by simp) (.slice none 0 0)).alloc (by simp only [size_set]; exact hB1.size) (.cells #[.int .i64 o1, .int .i64 o2] 41)
  clear bR0 hb1 hB1 bR hov
  go_wp2
  refine ret_gr_tmp Try.results14 rfl bE.c0 bE.c1 bE.c2 rfl ?_
  exact ⟨rfl, hBE⟩

set_option maxHeartbeats 2000000 in
theorem groundOf_t (W : Int) (a : Option Addr) (n c : Nat) (f : Nat → Int) (w : World) (hn : n ≤ 1048576) (hf : IL w a n f) (hs : sizedB W n = true) :
    Calls Try.prog 14 #[cel W a n c] w fun e w' => (allK f n = false ∧ e = .returned (.tuple #[gr 0 0 none 0 0, .bool false]) ∨ allK f n = true ∧ e = .returned (.tuple #[gr W (hgt W n) a n c, .bool true])) ∧ Below w.heap.size w w' := by
  have hov := over_any W n
  have ho := ovr_t hs
  generalize hgt W n = H at *
  rw [ho] at hov
  clear ho
  have bA0 := (bx_new (w := w) (celL W a n c) 29 rfl).alloc (.cells #[.int .i64 0, .int .i64 0, .slice none 0 0] 43)
  have bR0 := bx_new (w := w.alloc (celO W a n c 29)) (b := w.heap.size + 1) [.int .i64 0, .int .i64 0, .slice none 0 0] 43 (by simp)
  go_enter Try.func14, Try.ntmps14
  go_wp2_with fail
  refine (hov _ hn).mono ?_
  rw [hs]
  rintro e w1 ⟨rfl, hb1⟩
  have bR := bR0.on hb1
  have bA := bA0.on hb1
  have hB1 := below_al (below_al hb1)
  have lR := bR.lt
  have lA := bA.lt
  have y0 := bA.c0
  have y1 := bA.c1
  clear bR0 bA0 hb1 hov
  go_wp2
  have hB2 := hB1.alloc hB1.size (.cells #[.int .i64 W, .int .i64 H] 41)
  have bS := bx_new (w := w1) (b := w1.heap.size) [.int .i64 W, .int .i64 H] 41 rfl
  have bR2 := bR.alloc (.cells #[.int .i64 W, .int .i64 H] 41)
  have bA2 := bA.alloc (.cells #[.int .i64 W, .int .i64 H] 41)
  have hf2 := hf.below hB2
  have HB : Hid (Below w.heap.size w (w1.alloc (.cells #[.int .i64 W, .int .i64 H] 41))) := hB2
  clear bR bA y0 y1 hB1 hB2 hf
  generalize w1.alloc (.cells #[.int .i64 W, .int .i64 H] 41) = W2 at bS bR2 bA2 hf2 HB ⊢
  go_loopw [23] (fun i wr => ∃ k : Nat, k ≤ n ∧ i = .int .i64 k ∧ allK f k = true ∧ wr = W2) (fun i _ => n - (intOf i).toNat)
  case atStart => exact ⟨0, Nat.zero_le _, rfl, rfl, rfl⟩
  case round =>
    obtain ⟨k, hk, rfl, hall, hw⟩ := hrel
    subst hw
    by_cases hlt : k < n
    · obtain ⟨p, off, rfl, hb, hc⟩ := hf2 (by omega)
      have x0 := hc k hlt
      have j1 : (k : Int) < (n : Int) := by omega
      have hno : kB (f k) = false → allK f n = false := allK_not hlt
      have hyes : kB (f k) = true → allK f (k + 1) = true := fun q => by simp [allK, hall, q]
      clear hf2 hc
      generalize f k = x at x0 hno hyes
      by_cases c0 : x = 0
      · subst c0
        have h0 := hyes (by decide)
        clear bS bA2 bR2
        go_wp2
        exact ⟨⟨k + 1, by omega, by go_num, h0, trivial⟩, by simp [intOf]; omega⟩
      by_cases c1 : x = 1
      · subst c1
        have h0 := hyes (by decide)
        clear bS bA2 bR2
        go_wp2
        exact ⟨⟨k + 1, by omega, by go_num, h0, trivial⟩, by simp [intOf]; omega⟩
      by_cases c2 : x = 2
      · subst c2
        have h0 := hyes (by decide)
        clear bS bA2 bR2
        go_wp2
        exact ⟨⟨k + 1, by omega, by go_num, h0, trivial⟩, by simp [intOf]; omega⟩
      have h0 := hno (by simp [kB]; omega)
      have k0 : (x != 0) = true := by simpa using c0
      have k1 : (x != 1) = true := by simpa using c1
      have k2 : (x != 2) = true := by simpa using c2
      clear c0 c1 c2 hno hyes hall
      have r0 := bR2.c0
      have r1 := bR2.c1
      have r2 := bR2.c2
      have f0 := bR2.fz 0
      have f1 := bR2.fz 1
      have f2 := bR2.fz 2
      have bE := (((bR2.set 0 (by simp) (.int .i64 0)).set 1 (by simp) (.int .i64 0)).set 2 (by simp) (.slice none 0 0))
      have hBE := (((HB.out.setCell (p := ⟨w.heap.size + 1, 0, none⟩) (by simp) (.int .i64 0)).setCell (p := ⟨w.heap.size + 1, 1, none⟩) (by simp) (.int .i64 0)).setCell (p := ⟨w.heap.size + 1, 2, none⟩) (by simp) (.slice none 0 0))
      clear bS bA2 bR2
      go_wp2
      refine ret_gr_tmp Try.results14 rfl bE.c0 bE.c1 bE.c2 rfl ?_
      first | exact ⟨.inl ⟨h0, rfl⟩, hBE⟩ | (simp only [h0] at *; exact ⟨.inl ⟨rfl, rfl⟩, hBE⟩)
    · have hke : k = n := by omega
      subst hke
      have r0 := bR2.c0
      have r1 := bR2.c1
      have r2 := bR2.c2
      have f0 := bR2.fz 0
      have f1 := bR2.fz 1
      have f2 := bR2.fz 2
      have s0 := bS.c0
      have s1 := bS.c1
      have y1 := bA2.c1
      have bE := (((bR2.set 0 (by simp) (.int .i64 W)).set 1 (by simp) (.int .i64 H)).set 2 (by simp) (.slice a k c))
      have hBE := (((HB.out.setCell (p := ⟨w.heap.size + 1, 0, none⟩) (by simp) (.int .i64 W)).setCell (p := ⟨w.heap.size + 1, 1, none⟩) (by simp) (.int .i64 H)).setCell (p := ⟨w.heap.size + 1, 2, none⟩) (by simp) (.slice a k c))
      clear bS bA2 bR2 hf2
      go_wp2_with fail
      refine ret_gr_tmp Try.results14 rfl bE.c0 bE.c1 bE.c2 rfl ?_
      first | exact ⟨.inr ⟨hall, rfl⟩, hBE⟩ | exact ⟨.inr ⟨rfl, rfl⟩, hBE⟩

/-- what groundOf tells of -/
def gof (W : Int) (a : Option Addr) (n c : Nat) (q : Bool) : Value := if q then gr W (hgt W n) a n c else gr 0 0 none 0 0
theorem gof_gr (W : Int) (a : Option Addr) (n c : Nat) (q : Bool) : ∃ u v x y z, gof W a n c q = gr u v x y z := by
  cases q
  · exact ⟨_, _, _, _, _, rfl⟩
  · exact ⟨_, _, _, _, _, rfl⟩
theorem groundOf_any (W : Int) (a : Option Addr) (n c : Nat) (f : Nat → Int) (w : World) (hn : n ≤ 1048576) (hf : IL w a n f) :
    Calls Try.prog 14 #[cel W a n c] w fun e w' => e = .returned (.tuple #[gof W a n c (celB W n f), .bool (celB W n f)]) ∧ Below w.heap.size w w' := by
  cases hs : sizedB W n with
  | false =>
    have he : celB W n f = false := by simp [celB, hs]
    rw [he]
    exact groundOf_f W a n c w hn hs
  | true =>
    refine (groundOf_t W a n c f w hn hf hs).mono fun e w' ⟨h, hB⟩ => ⟨?_, hB⟩
    rcases h with ⟨h0, h1⟩ | ⟨h0, h1⟩
    · have he : celB W n f = false := by simp [celB, hs, h0]
      rw [he, h1]; rfl
    · have he : celB W n f = true := by simp [celB, hs, h0]
      rw [he, h1]; rfl

end Go.Proofs.Ytgfmeineialcgaa
