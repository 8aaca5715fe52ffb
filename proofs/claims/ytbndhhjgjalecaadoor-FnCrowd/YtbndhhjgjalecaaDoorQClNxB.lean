/- Which cells are good, as the model says it, and the ground that the program makes of them. -/
import Derived.Test.YtbndhhjgjalecaaDoorQClVal
import Derived.Test.YtbndhhjgjalecaaDoorQSzBase
namespace Go.Proofs.YtbndhhjgjalecaaDoor
open Go.RowKit
def kB (x : Int) : Bool := decide (0 ≤ x) && decide (x ≤ 2)
/-- are the first k numbers kinds -/
def allK (f : Nat → Int) : Nat → Bool
  | 0 => true
  | k + 1 => allK f k && kB (f k)
theorem allK_at {f : Nat → Int} {n i : Nat} (h : allK f n = true) (hi : i < n) : 0 ≤ f i ∧ f i ≤ 2 := by
  induction n with
  | zero => omega
  | succ n ih =>
    simp only [allK, Bool.and_eq_true] at h
    by_cases e : i = n
    · subst e
      simpa [kB] using h.2
    · exact ih h.1 (by omega)
theorem allK_not {f : Nat → Int} {n i : Nat} (hi : i < n) (h : kB (f i) = false) : allK f n = false := by
  cases e : allK f n with
  | false => rfl
  | true =>
    have := allK_at e hi
    have : kB (f i) = true := by simp [kB, this]
    rw [h] at this; cases this
/-- are cells good -/
def celB (W : Int) (n : Nat) (f : Nat → Int) : Bool := sizedB W n && allK f n
theorem celB_parts {W : Int} {n : Nat} {f : Nat → Int} (h : celB W n f = true) : sizedB W n = true ∧ allK f n = true := by
  simpa [celB] using h

set_option maxHeartbeats 2000000 in
theorem specGoodL (W : Int) (a : Option Addr) (n c : Nat) (f : Nat → Int) (w : World) (hn : n ≤ 1048576) (hf : IL w a n f) :
    Calls Tryd.prog 67 #[cel W a n c] w fun e w' => e = .returned (.bool (celB W n f)) ∧ Below w.heap.size w w' := by
  have hsz := l12Sized_any W n (w.alloc (celO W a n c 25)) hn
  have hb0 : Below w.heap.size w (w.alloc (celO W a n c 25)) := (Below.refl _ _).alloc (Nat.le_refl _) _
  cases hs : sizedB W n with
  | false =>
    have he : celB W n f = false := by simp [celB, hs]
    rw [he]
    rw [hs] at hsz
    go_enter Tryd.func67, Tryd.ntmps67
    go_wp2_with fail
    refine hsz.mono ?_
    rintro e w1 ⟨rfl, hw1⟩
    have hs1 := hw1.symm
    clear hw1 hsz
    subst hs1
    go_wp2
    go_ret
    exact ⟨rfl, hb0⟩
  | true =>
    rw [hs] at hsz
    have he : celB W n f = allK f n := by simp [celB, hs]
    rw [he]
    go_enter Tryd.func67, Tryd.ntmps67
    go_wp2_with fail
    refine hsz.mono ?_
    rintro e w1 ⟨rfl, hw1⟩
    have hs1 := hw1.symm
    clear hw1 hsz
    subst hs1
    go_wp2
    have hf0 := hf.below hb0
    have HB : Hid (Below w.heap.size w (w.alloc (celO W a n c 25))) := hb0
    clear hb0 hf
    generalize w.alloc (celO W a n c 25) = W1 at hf0 HB ⊢
    go_loopw [15] (fun i wr => ∃ k : Nat, k ≤ n ∧ i = .int .i64 k ∧ allK f k = true ∧ wr = W1) (fun i _ => n - (intOf i).toNat)
    case atStart => exact ⟨0, Nat.zero_le _, rfl, rfl, rfl⟩
    case round =>
      obtain ⟨k, hk, rfl, hall, hw⟩ := hrel
      subst hw
      by_cases hlt : k < n
      · obtain ⟨p, off, rfl, hb, hc⟩ := hf0 (by omega)
        have x0 := hc k hlt
        have j1 : (k : Int) < (n : Int) := by omega
        have hno : kB (f k) = false → allK f n = false := allK_not hlt
        have hyes : kB (f k) = true → allK f (k + 1) = true := fun q => by simp [allK, hall, q]
        clear hf0 hc he
        generalize f k = x at x0 hno hyes
        by_cases c0 : x < 0
        · have h0 := hno (by simp [kB]; omega)
          go_wp2
          go_ret
          first | exact ⟨ret_bool h0.symm, HB.out⟩ | exact ⟨rfl, HB.out⟩
        by_cases c1 : 2 < x
        · have h0 := hno (by simp [kB]; omega)
          go_wp2
          go_ret
          first | exact ⟨ret_bool h0.symm, HB.out⟩ | exact ⟨rfl, HB.out⟩
        have h0 := hyes (by simp [kB]; omega)
        go_wp2
        exact ⟨⟨k + 1, by omega, by go_num, h0, trivial⟩, by simp [intOf]; omega⟩
      · have hke : k = n := by omega
        subst hke
        clear hf0 he
        go_wp2
        go_ret
        exact ⟨ret_bool hall.symm, HB.out⟩
/-- a ground as a value -/
abbrev gr (W H : Int) (a : Option Addr) (n c : Nat) : Value := .agg #[.int .i64 W, .int .i64 H, .slice a n c]
theorem ret_gr_tmp {fn : Func} {t t2 : Tmp} {R : Ending → World → Prop} {a : Act} {w : World} {b : Nat} {u v x : Value} (h : fn.results = #[.cell t 68, .tmp t2]) (hp : a.tmps.getD t undef = .pointer (some ⟨b, 0, none⟩)) (c0 : w.cell? ⟨b, 0, none⟩ = some u) (c1 : w.cell? ⟨b, 1, none⟩ = some v) (c2 : w.cell? ⟨b, 2, none⟩ = some x) (hd : a.defers = [])
    (hR : R (.returned (.tuple #[.agg #[u, v, x], a.tmps.getD t2 undef])) w) : bodyPost Tryd.prog fn R .ret a w := by
  refine bodyPost_ret ?_ hd hR
  rw [results_cell_tmp h, hp]
  simp [asAddr, loadVar, go_sem, c0, c1, c2]

set_option maxHeartbeats 2000000 in
theorem groundOf_f (W : Int) (a : Option Addr) (n c : Nat) (w : World) (hn : n ≤ 1048576) (hs : sizedB W n = false) :
    Calls Tryd.prog 59 #[cel W a n c] w fun e w' => e = .returned (.tuple #[gr 0 0 none 0 0, .bool false]) ∧ Below w.heap.size w w' := by
  have hov := over_any W n
  generalize ovr W n = o at hov
  obtain ⟨o1, o2⟩ := o
  have bR0 := bx_new (w := w.alloc (celO W a n c 25)) (b := w.heap.size + 1) [.int .i64 0, .int .i64 0, .slice none 0 0] 68 (by simp)
  go_enter Tryd.func59, Tryd.ntmps59
  go_wp2_with fail
  refine (hov _ hn).mono ?_
  rw [hs]
  rintro e w1 ⟨rfl, hb1⟩
  have bR := bR0.on hb1
  have hB1 := below_al (below_al hb1)
  have lR := bR.lt
  have r0 := bR.c0
  have r1 := bR.c1
  have r2 := bR.c2
  have f0 := bR.fz 0
  have f1 := bR.fz 1
  have f2 := bR.fz 2
  have bE := (((bR.set 0 (by simp) (.int .i64 0)).set 1 (by simp) (.int .i64 0)).set 2 (by simp) (.slice none 0 0)).alloc (.cells #[.int .i64 o1, .int .i64 o2] 66)
  have hBE := (((hB1.setCell (p := ⟨w.heap.size + 1, 0, none⟩) (by simp) (.int .i64 0)).setCell (p := ⟨w.heap.size + 1, 1, none⟩) (by simp) (.int .i64 0)).setCell (p := ⟨w.heap.size + 1, 2, none⟩) (by simp) (.slice none 0 0)).alloc (by simp only [size_set]; exact hB1.size) (.cells #[.int .i64 o1, .int .i64 o2] 66)
  clear bR0 hb1 hB1 bR hov
  go_wp2
  refine ret_gr_tmp Tryd.results59 rfl bE.c0 bE.c1 bE.c2 rfl ?_
  exact ⟨rfl, hBE⟩

set_option maxHeartbeats 2000000 in
theorem groundOf_t (W : Int) (a : Option Addr) (n c : Nat) (f : Nat → Int) (w : World) (hn : n ≤ 1048576) (hf : IL w a n f) (hs : sizedB W n = true) :
    Calls Tryd.prog 59 #[cel W a n c] w fun e w' => (allK f n = false ∧ e = .returned (.tuple #[gr 0 0 none 0 0, .bool false]) ∨ allK f n = true ∧ e = .returned (.tuple #[gr W (hgt W n) a n c, .bool true])) ∧ Below w.heap.size w w' := by
  have hov := over_any W n
  have ho := ovr_t hs
  generalize hgt W n = H at *
  rw [ho] at hov
  clear ho
  have bA0 := (bx_new (w := w) (celL W a n c) 25 rfl).alloc (.cells #[.int .i64 0, .int .i64 0, .slice none 0 0] 68)
  have bR0 := bx_new (w := w.alloc (celO W a n c 25)) (b := w.heap.size + 1) [.int .i64 0, .int .i64 0, .slice none 0 0] 68 (by simp)
  go_enter Tryd.func59, Tryd.ntmps59
  go_wp2_with fail
  refine (hov _ hn).mono ?_
  rw [hs]
  rintro e w1 ⟨rfl, hb1⟩
  have bR := bR0.on hb1
  have bA := bA0.on hb1
  have hB1 := below_al (below_al hb1)
  have lR := bR.lt
  have lA := bA.lt
  have y0 := bA.c0
  have y1 := bA.c1
  clear bR0 bA0 hb1 hov
  go_wp2
  have hB2 := hB1.alloc hB1.size (.cells #[.int .i64 W, .int .i64 H] 66)
  have bS := bx_new (w := w1) (b := w1.heap.size) [.int .i64 W, .int .i64 H] 66 rfl
  have bR2 := bR.alloc (.cells #[.int .i64 W, .int .i64 H] 66)
  have bA2 := bA.alloc (.cells #[.int .i64 W, .int .i64 H] 66)
  have hf2 := hf.below hB2
  have HB : Hid (Below w.heap.size w (w1.alloc (.cells #[.int .i64 W, .int .i64 H] 66))) := hB2
  clear bR bA y0 y1 hB1 hB2 hf
  generalize w1.alloc (.cells #[.int .i64 W, .int .i64 H] 66) = W2 at bS bR2 bA2 hf2 HB ⊢
  go_loopw [23] (fun i wr => ∃ k : Nat, k ≤ n ∧ i = .int .i64 k ∧ allK f k = true ∧ wr = W2) (fun i _ => n - (intOf i).toNat)
  case atStart => exact ⟨0, Nat.zero_le _, rfl, rfl, rfl⟩
  case round =>
    obtain ⟨k, hk, rfl, hall, hw⟩ := hrel
    subst hw
    by_cases hlt : k < n
    · obtain ⟨p, off, rfl, hb, hc⟩ := hf2 (by omega)
      have x0 := hc k hlt
      have j1 : (k : Int) < (n : Int) := by omega
      have hno : kB (f k) = false → allK f n = false := allK_not hlt
      have hyes : kB (f k) = true → allK f (k + 1) = true := fun q => by simp [allK, hall, q]
      clear hf2 hc
      generalize f k = x at x0 hno hyes
      by_cases c0 : x = 0
      · subst c0
        have h0 := hyes (by decide)
        clear bS bA2 bR2
        go_wp2
        exact ⟨⟨k + 1, by omega, by go_num, h0, trivial⟩, by simp [intOf]; omega⟩
      by_cases c1 : x = 1
      · subst c1
        have h0 := hyes (by decide)
        clear bS bA2 bR2
        go_wp2
        exact ⟨⟨k + 1, by omega, by go_num, h0, trivial⟩, by simp [intOf]; omega⟩
      by_cases c2 : x = 2
      · subst c2
        have h0 := hyes (by decide)
        clear bS bA2 bR2
        go_wp2
        exact ⟨⟨k + 1, by omega, by go_num, h0, trivial⟩, by simp [intOf]; omega⟩
      have h0 := hno (by simp [kB]; omega)
      have k0 : (x != 0) = true := by simpa using c0
      have k1 : (x != 1) = true := by simpa using c1
      have k2 : (x != 2) = true := by simpa using c2
      clear c0 c1 c2 hno hyes hall
      have r0 := bR2.c0
      have r1 := bR2.c1
      have r2 := bR2.c2
      have f0 := bR2.fz 0
      have f1 := bR2.fz 1
      have f2 := bR2.fz 2
      have bE := (((bR2.set 0 (by simp) (.int .i64 0)).set 1 (by simp) (.int .i64 0)).set 2 (by simp) (.slice none 0 0))
      have hBE := (((HB.out.setCell (p := ⟨w.heap.size + 1, 0, none⟩) (by simp) (.int .i64 0)).setCell (p := ⟨w.heap.size + 1, 1, none⟩) (by simp) (.int .i64 0)).setCell (p := ⟨w.heap.size + 1, 2, none⟩) (by simp) (.slice none 0 0))
      clear bS bA2 bR2
      go_wp2
      refine ret_gr_tmp Tryd.results59 rfl bE.c0 bE.c1 bE.c2 rfl ?_
      first | exact ⟨.inl ⟨h0, rfl⟩, hBE⟩ | (simp only [h0] at *; exact ⟨.inl ⟨rfl, rfl⟩, hBE⟩)
    · have hke : k = n := by omega
      subst hke
      have r0 := bR2.c0
      have r1 := bR2.c1
      have r2 := bR2.c2
      have f0 := bR2.fz 0
      have f1 := bR2.fz 1
      have f2 := bR2.fz 2
      have s0 := bS.c0
      have s1 := bS.c1
      have y1 := bA2.c1
      have bE := (((bR2.set 0 (by simp) (.int .i64 W)).set 1 (by simp) (.int .i64 H)).set 2 (by simp) (.slice a k c))
      have hBE := (((HB.out.setCell (p := ⟨w.heap.size + 1, 0, none⟩) (by simp) (.int .i64 W)).setCell (p := ⟨w.heap.size + 1, 1, none⟩) (by simp) (.int .i64 H)).setCell (p := ⟨w.heap.size + 1, 2, none⟩) (by simp) (.slice a k c))
      clear bS bA2 bR2 hf2
      go_wp2_with fail
      refine ret_gr_tmp Tryd.results59 rfl bE.c0 bE.c1 bE.c2 rfl ?_
      first | exact ⟨.inr ⟨hall, rfl⟩, hBE⟩ | exact ⟨.inr ⟨rfl, rfl⟩, hBE⟩

/-- what groundOf tells of -/
def gof (W : Int) (a : Option Addr) (n c : Nat) (q : Bool) : Value := if q then gr W (hgt W n) a n c else gr 0 0 none 0 0
theorem gof_gr (W : Int) (a : Option Addr) (n c : Nat) (q : Bool) : ∃ u v x y z, gof W a n c q = gr u v x y z := by
  cases q
  · exact ⟨_, _, _, _, _, rfl⟩
  · exact ⟨_, _, _, _, _, rfl⟩
theorem groundOf_any (W : Int) (a : Option Addr) (n c : Nat) (f : Nat → Int) (w : World) (hn : n ≤ 1048576) (hf : IL w a n f) :
    Calls Tryd.prog 59 #[cel W a n c] w fun e w' => e = .returned (.tuple #[gof W a n c (celB W n f), .bool (celB W n f)]) ∧ Below w.heap.size w w' := by
  cases hs : sizedB W n with
  | false =>
    have he : celB W n f = false := by simp [celB, hs]
    rw [he]
    exact groundOf_f W a n c w hn hs
  | true =>
    refine (groundOf_t W a n c f w hn hf hs).mono fun e w' ⟨h, hB⟩ => ⟨?_, hB⟩
    rcases h with ⟨h0, h1⟩ | ⟨h0, h1⟩
    · have he : celB W n f = false := by simp [celB, hs, h0]
      rw [he, h1]; rfl
    · have he : celB W n f = true := by simp [celB, hs, h0]
      rw [he, h1]; rfl

end Go.Proofs.YtbndhhjgjalecaaDoor

/- Lists of numbers that are appended to. -/
namespace Go.Proofs.YtbndhhjgjalecaaDoor
open Go.RowKit

/-- a list by its index -/
abbrev gl (l : List Int) (i : Nat) : Int := l.getD i 0
theorem vL_congr {F G : Nat → Int} {k : Nat} (h : ∀ i, i < k → F i = G i) : vL F k = vL G k := by
  unfold vL
  exact List.map_congr_left fun i hi => by rw [h i (List.mem_range.1 hi)]
theorem Own.congr {w : World} {base : Nat} {v : Value} {k : Nat} {F G : Nat → Int} (h : Own w base v k F) (e : ∀ i, i < k → F i = G i) : Own w base v k G := by
  unfold Own at *; rw [← vL_congr e]; exact h
theorem own_snoc {w : World} {base : Nat} {v : Value} {l : List Int} {x : Int} (h : w.ownsRow base 3 1 v (l.length + 1) (vL (gl l) l.length ++ [.int .i64 x])) : Own w base v (l ++ [x]).length (gl (l ++ [x])) := by
  have h1 := own_put h
  rw [List.length_append]
  refine h1.congr fun i hi => ?_
  unfold put
  by_cases e : i = l.length
  · subst e; simp [gl]
  · rw [if_neg e]
    have hi2 : i < l.length + 1 := hi
    simp [gl, List.getD, List.getElem?_append_left (show i < l.length by omega)]
theorem own_lit0 (w : World) (base : Nat) (F : Nat → Int) (h : base ≤ w.heap.size) : Own (w.alloc (.cells #[] 3)) base (.slice (some ⟨w.heap.size, 0, none⟩) 0 0) 0 F :=
  World.ownsRow_made w #[] 0 h (by unfold maxLen; omega) rfl
theorem Own.lq2 {w : World} {base : Nat} {a : Option Addr} {k c : Nat} {F : Nat → Int} (h : Own w base (.slice a k c) k F) (hs : base ≤ w.heap.size) : LQ w base w.heap.size a k F ∧ base ≤ w.heap.size := ⟨h.lq, hs⟩

/-- the answer of a function that tells a list -/
def AnsL (w w' : World) (e : Ending) (l : List Int) : Prop := ∃ a' c', e = .returned (.slice a' l.length c') ∧ LQ w' w.heap.size w'.heap.size a' l.length (gl l)
theorem ansL_nil (w w' : World) : AnsL w w' (.returned (.slice none 0 0)) [] := ⟨none, 0, rfl, lq_none _ _ _ _ _⟩
theorem ansL_own {w w' : World} {base : Nat} {a : Option Addr} {c : Nat} {l : List Int} (h : Own w' base (.slice a l.length c) l.length (gl l)) (hb : w.heap.size ≤ base) : AnsL w w' (.returned (.slice a l.length c)) l := ⟨a, c, rfl, h.lq.wide hb (Nat.le_refl _)⟩
end Go.Proofs.YtbndhhjgjalecaaDoor

/- Which places are free. -/
namespace Go.Proofs.YtbndhhjgjalecaaDoor
open Go.RowKit

/-- is at the number of a free cell -/
def frB (n : Nat) (f : Nat → Int) (at_ : Int) : Bool := decide (0 ≤ at_) && decide (at_ < (n : Int)) && decide (f at_.toNat = 0)
theorem frB_t {n : Nat} {f : Nat → Int} {p : Int} (h : frB n f p = true) : 0 ≤ p ∧ p < (n : Int) ∧ f p.toNat = 0 := by simpa [frB, and_assoc] using h
theorem frB_mk {n : Nat} {f : Nat → Int} {p : Int} (h : 0 ≤ p ∧ p < (n : Int) ∧ f p.toNat = 0) : frB n f p = true := by simpa [frB, and_assoc] using h
theorem frB_f {n : Nat} {f : Nat → Int} {p : Int} (h : ¬ (0 ≤ p ∧ p < (n : Int) ∧ f p.toNat = 0)) : frB n f p = false := by
  cases e : frB n f p with
  | false => rfl
  | true => exact absurd (frB_t e) h

/-- the numbers of the free cells among the first k -/
def pl (f : Nat → Int) : Nat → List Int
  | 0 => []
  | k + 1 => if f k = 0 then pl f k ++ [(k : Int)] else pl f k
theorem pl_len (f : Nat → Int) (k : Nat) : (pl f k).length ≤ k := by
  induction k with
  | zero => simp [pl]
  | succ k ih =>
    unfold pl
    split
    · simp; omega
    · omega
/-- what AllPlaces tells -/
def apl (W : Int) (n : Nat) (f : Nat → Int) : List Int := if celB W n f then pl f n else []
theorem apl_len (W : Int) (n : Nat) (f : Nat → Int) : (apl W n f).length ≤ 256 := by
  unfold apl
  split
  · next h =>
    have := sized_le (celB_parts h).1
    have := pl_len f n
    omega
  · simp
end Go.Proofs.YtbndhhjgjalecaaDoor

/- Which trips are good. Numbers alone. -/
namespace Go.Proofs.YtbndhhjgjalecaaDoor

/-- is trip number i apart from the first j -/
def apB (g : Nat → Int) (i : Nat) : Nat → Bool
  | 0 => true
  | j + 1 => apB g i j && !(g (j * 2) == g (i * 2) || g (j * 2 + 1) == g (i * 2 + 1))
/-- are the first k trips good ones -/
def trB (n : Nat) (f g : Nat → Int) : Nat → Bool
  | 0 => true
  | k + 1 => trB n f g k && (frB n f (g (k * 2)) && frB n f (g (k * 2 + 1)) && apB g k k)
def gtB (W : Int) (n : Nat) (f : Nat → Int) (m : Nat) (g : Nat → Int) : Bool := celB W n f && decide (m ≤ 5) && trB n f g m
theorem apB_at {g : Nat → Int} {i k : Nat} (h : apB g i k = true) : ∀ j, j < k → g (j * 2) ≠ g (i * 2) ∧ g (j * 2 + 1) ≠ g (i * 2 + 1) := by
  induction k with
  | zero => intro j hj; omega
  | succ k ih =>
    simp only [apB, Bool.and_eq_true, Bool.not_eq_true', Bool.or_eq_false_iff, beq_eq_false_iff_ne] at h
    intro j hj
    by_cases e : j = k
    · subst e; exact h.2
    · exact ih h.1 j (by omega)
theorem apB_mk {g : Nat → Int} {i k : Nat} (h : ∀ j, j < k → g (j * 2) ≠ g (i * 2) ∧ g (j * 2 + 1) ≠ g (i * 2 + 1)) : apB g i k = true := by
  induction k with
  | zero => rfl
  | succ k ih =>
    simp only [apB, Bool.and_eq_true, Bool.not_eq_true', Bool.or_eq_false_iff, beq_eq_false_iff_ne]
    exact ⟨ih fun j hj => h j (by omega), h k (by omega)⟩
theorem trB_at {n : Nat} {f g : Nat → Int} {k : Nat} (h : trB n f g k = true) : ∀ i, i < k → frB n f (g (i * 2)) = true ∧ frB n f (g (i * 2 + 1)) = true ∧ apB g i i = true := by
  induction k with
  | zero => intro i hi; omega
  | succ k ih =>
    simp only [trB, Bool.and_eq_true] at h
    intro i hi
    by_cases e : i = k
    · subst e; exact ⟨h.2.1.1, h.2.1.2, h.2.2⟩
    · exact ih h.1 i (by omega)
theorem trB_mk {n : Nat} {f g : Nat → Int} {k : Nat} (h : ∀ i, i < k → frB n f (g (i * 2)) = true ∧ frB n f (g (i * 2 + 1)) = true ∧ apB g i i = true) : trB n f g k = true := by
  induction k with
  | zero => rfl
  | succ k ih =>
    simp only [trB, Bool.and_eq_true]
    exact ⟨ih fun i hi => h i (by omega), ⟨(h k (by omega)).1, (h k (by omega)).2.1⟩, (h k (by omega)).2.2⟩
theorem gtB_t {W : Int} {n : Nat} {f : Nat → Int} {m : Nat} {g : Nat → Int} (h : gtB W n f m g = true) : celB W n f = true ∧ m ≤ 5 ∧ trB n f g m = true := by
  simpa [gtB, and_assoc] using h
theorem gtB_false {W : Int} {n : Nat} {f : Nat → Int} {m : Nat} {g : Nat → Int} {k : Nat} (hk : k < m) (h : ¬ (frB n f (g (k * 2)) = true ∧ frB n f (g (k * 2 + 1)) = true ∧ apB g k k = true)) : gtB W n f m g = false := by
  cases e : gtB W n f m g with
  | false => rfl
  | true => exact absurd (trB_at (gtB_t e).2.2 k hk) h
theorem apB_false {g : Nat → Int} {i j k : Nat} (hj : j < k) (h : g (j * 2) = g (i * 2) ∨ g (j * 2 + 1) = g (i * 2 + 1)) : ¬ apB g i k = true := fun e => by
  have := apB_at e j hj
  rcases h with h | h
  · exact this.1 h
  · exact this.2 h
end Go.Proofs.YtbndhhjgjalecaaDoor

/- Which places lie within the sides. -/
namespace Go.Proofs.YtbndhhjgjalecaaDoor
open Go.RowKit

def hvB (W H x y : Int) : Bool := decide (0 ≤ x) && decide (x < W) && decide (0 ≤ y) && decide (y < H)
theorem hvB_t {W H x y : Int} (h : hvB W H x y = true) : 0 ≤ x ∧ x < W ∧ 0 ≤ y ∧ y < H := by simpa [hvB, and_assoc] using h
theorem hvB_mk {W H x y : Int} (h : 0 ≤ x ∧ x < W ∧ 0 ≤ y ∧ y < H) : hvB W H x y = true := by simpa [hvB, and_assoc] using h
theorem hvB_f {W H x y : Int} (h : ¬ (0 ≤ x ∧ x < W ∧ 0 ≤ y ∧ y < H)) : hvB W H x y = false := by
  cases e : hvB W H x y with
  | false => rfl
  | true => exact absurd (hvB_t e) h
theorem idx_bd {W H x y : Int} {n : Nat} (hH : H * W = (n : Int)) (h : 0 ≤ x ∧ x < W ∧ 0 ≤ y ∧ y < H) : 0 ≤ y * W ∧ y * W + x < (n : Int) := by
  obtain ⟨h1, h2, h3, h4⟩ := h
  have a1 := Int.mul_nonneg h3 (show 0 ≤ W by omega)
  have a2 := Int.mul_le_mul_of_nonneg_right (show y + 1 ≤ H by omega) (show 0 ≤ W by omega)
  rw [Int.add_mul] at a2
  omega
end Go.Proofs.YtbndhhjgjalecaaDoor

/- The four ways, and the cell behind one along a way. -/
namespace Go.Proofs.YtbndhhjgjalecaaDoor
open Go.RowKit
def fre (W H : Int) (f : Nat → Int) (x y : Int) : Bool := hvB W H x y && decide (f (y * W + x).toNat = 0)
def dX (v : Nat) : Int := [1, 0, -1, 0].getD v 0
def dY (v : Nat) : Int := [0, 1, 0, -1].getD v 0
theorem d_bd (v : Nat) (h : v < 4) : (dX v = 1 ∧ dY v = 0) ∨ (dX v = 0 ∧ dY v = 1) ∨ (dX v = -1 ∧ dY v = 0) ∨ (dX v = 0 ∧ dY v = -1) := by
  match v, h with
  | 0, _ => decide
  | 1, _ => decide
  | 2, _ => decide
  | 3, _ => decide

/-- the cell behind one along a way, -1 where it is not free, or beyond the edge -/
def nx (W H : Int) (f : Nat → Int) (v : Nat) (x y : Int) : Int := if fre W H f (x + dX v) (y + dY v) then (y + dY v) * W + (x + dX v) else -1
theorem fre_hv {W H : Int} {f : Nat → Int} {x y : Int} (h : fre W H f x y = true) : hvB W H x y = true ∧ f (y * W + x).toNat = 0 := by simpa [fre] using h
theorem fre_no {W H : Int} {f : Nat → Int} {x y : Int} (h : fre W H f x y = false) (k : hvB W H x y = true) : ¬ f (y * W + x).toNat = 0 := by
  intro e
  simp [fre, k, e] at h

end Go.Proofs.YtbndhhjgjalecaaDoor
