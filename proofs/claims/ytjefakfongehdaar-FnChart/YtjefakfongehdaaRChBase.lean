/- Charts: the law's own copies of them, compared, and their sizes. -/
import Derived.Test.YtjefakfongehdaaRChSta
import Derived.Test.YtjefakfongehdaaRChArw
namespace Go.Proofs.YtjefakfongehdaaR
open Go.RowKit

/-- a chart as a value -/
abbrev chv (a : Option Addr) (n c : Nat) (b : Option Addr) (m d : Nat) : Value := .agg #[.slice a n c, .slice b m d]
abbrev chL (a : Option Addr) (n c : Nat) (b : Option Addr) (m d : Nat) : List Value := [.slice a n c, .slice b m d]
abbrev chO (a : Option Addr) (n c : Nat) (b : Option Addr) (m d : Nat) (t : TypeId) : Obj := .cells #[.slice a n c, .slice b m d] t

/-- two lists of a call's own (flat), in blocks from lo on, below hi, not in the same one -/
def CP (w : World) (lo hi : Nat) (a : Option Addr) (n : Nat) (F : Nat → Int) (b : Option Addr) (m : Nat) (G : Nat → Int) : Prop :=
  ∃ l1 h1 l2 h2, lo ≤ l1 ∧ h1 ≤ hi ∧ lo ≤ l2 ∧ h2 ≤ hi ∧ (h1 ≤ l2 ∨ h2 ≤ l1) ∧ LQ w l1 h1 a (n * 2) F ∧ LQ w l2 h2 b (m * 3) G
theorem CP.il1 {w : World} {lo hi : Nat} {a b : Option Addr} {n m : Nat} {F G : Nat → Int} (h : CP w lo hi a n F b m G) : IL w a (n * 2) F := by
  obtain ⟨_, _, _, _, _, _, _, _, _, h, _⟩ := h; exact h.il
theorem CP.il2 {w : World} {lo hi : Nat} {a b : Option Addr} {n m : Nat} {F G : Nat → Int} (h : CP w lo hi a n F b m G) : IL w b (m * 3) G := by
  obtain ⟨_, _, _, _, _, _, _, _, _, _, h⟩ := h; exact h.il
theorem CP.on {w w' : World} {lo hi : Nat} {a b : Option Addr} {n m : Nat} {F G : Nat → Int} (h : CP w lo hi a n F b m G) (k : Below w.heap.size w w') : CP w' lo hi a n F b m G := by
  obtain ⟨l1, h1, l2, h2, i1, i2, i3, i4, i5, j1, j2⟩ := h
  exact ⟨l1, h1, l2, h2, i1, i2, i3, i4, i5, j1.on k, j2.on k⟩
theorem CP.turns {w w' : World} {lo hi lo' hi' : Nat} {a b : Option Addr} {n m : Nat} {F G : Nat → Int} (h : CP w lo hi a n F b m G) (k : Turns lo' hi' w w') (hd : hi ≤ lo' ∨ hi' ≤ lo) : CP w' lo hi a n F b m G := by
  obtain ⟨l1, h1, l2, h2, i1, i2, i3, i4, i5, j1, j2⟩ := h
  exact ⟨l1, h1, l2, h2, i1, i2, i3, i4, i5, j1.turns k (by omega), j2.turns k (by omega)⟩
theorem CP.wide {w : World} {lo hi lo' hi' : Nat} {a b : Option Addr} {n m : Nat} {F G : Nat → Int} (h : CP w lo hi a n F b m G) (h0 : lo' ≤ lo) (h1 : hi ≤ hi') : CP w lo' hi' a n F b m G := by
  obtain ⟨l1, h1, l2, h2, i1, i2, i3, i4, i5, j1, j2⟩ := h
  exact ⟨l1, h1, l2, h2, by omega, by omega, by omega, by omega, i5, j1, j2⟩
theorem cp_none (w : World) (lo hi : Nat) (a b : Option Addr) (F G : Nat → Int) (h : lo ≤ hi) : CP w lo hi a 0 F b 0 G :=
  ⟨lo, lo, lo, lo, Nat.le_refl _, h, Nat.le_refl _, h, .inl (Nat.le_refl _), lq_none _ _ _ _ _, lq_none _ _ _ _ _⟩
/-- a return of a box out of its cells -/
theorem ret_cht {fn : Func} {t : Tmp} {R : Ending → World → Prop} {a : Act} {w : World} {b : Nat} {u v : Value} (h : fn.results = #[.cell t 26]) (hp : a.tmps.getD t undef = .pointer (some ⟨b, 0, none⟩)) (c0 : w.cell? ⟨b, 0, none⟩ = some u) (c1 : w.cell? ⟨b, 1, none⟩ = some v) (hd : a.defers = [])
    (hR : R (.returned (.agg #[u, v])) w) : bodyPost Try.prog fn R .ret a w := by
  refine bodyPost_ret ?_ hd hR
  have hp' : a.tmps[t]?.getD undef = .pointer (some ⟨b, 0, none⟩) := by simpa using hp
  simp [results, h, hp', asAddr, loadVar, go_sem, c0, c1]
theorem ret_cht_tmp {fn : Func} {t t2 : Tmp} {R : Ending → World → Prop} {a : Act} {w : World} {b : Nat} {u v : Value} (h : fn.results = #[.cell t 26, .tmp t2]) (hp : a.tmps.getD t undef = .pointer (some ⟨b, 0, none⟩)) (c0 : w.cell? ⟨b, 0, none⟩ = some u) (c1 : w.cell? ⟨b, 1, none⟩ = some v) (hd : a.defers = [])
    (hR : R (.returned (.tuple #[.agg #[u, v], a.tmps.getD t2 undef])) w) : bodyPost Try.prog fn R .ret a w := by
  refine bodyPost_ret ?_ hd hR
  rw [results_cell_tmp h, hp]
  simp [asAddr, loadVar, go_sem, c0, c1]

set_option maxHeartbeats 1000000 in
theorem toChart_any (a b : Option Addr) (n c m d : Nat) (f g : Nat → Int) (w : World) (hn : n ≤ 1048576) (hm : m ≤ 1048576) (hf : IL w a (n * 2) f) (hg : IL w b (m * 3) g) :
    Calls Try.prog 17 #[chv a n c b m d] w fun e w' => ∃ a' b', e = .returned (chv a' n n b' m m) ∧ CP w' w.heap.size w'.heap.size a' n f b' m g ∧ Below w.heap.size w w' := by
  go_enter Try.func17, Try.ntmps17
  go_wp2_with fail
  refine (toStateS_any a n c f _ hn (((hf.alloc _).alloc _).alloc _)).mono ?_
  rintro e w1 ⟨rfl, hL1, hs1, hb1⟩
  have bA := ((((bx_new (w := w) (chL a n c b m d) 43 rfl).alloc _).alloc _).on hb1)
  have bO := (((bx_new (w := w.alloc (chO a n c b m d 43)) (b := w.heap.size + 1) (chL none 0 0 none 0 0) 26 (by simp)).alloc _).on hb1)
  have bT := ((bx_new (w := (w.alloc (chO a n c b m d 43)).alloc (chO none 0 0 none 0 0 26)) (b := w.heap.size + 1 + 1) (chL none 0 0 none 0 0) 26 (by simp)).on hb1)
  have hB1 := below_al (below_al (below_al hb1))
  simp only [size_al] at hL1 hs1
  clear hb1
  have x1 := bA.c1
  have y0 := bT.c0
  have yf := bT.fz 0
  have bT2 := bT.set 0 (by simp) (.slice (some ⟨w.heap.size + 1 + 1 + 1, 0, none⟩) n n)
  have bO2 := bO.far (b' := w.heap.size + 1 + 1) (k := 0) (.slice (some ⟨w.heap.size + 1 + 1 + 1, 0, none⟩) n n) (by omega)
  have hL2 := lq_set hL1 (b := w.heap.size + 1 + 1) (k := 0) (.slice (some ⟨w.heap.size + 1 + 1 + 1, 0, none⟩) n n) (by omega)
  have hB2 := hB1.setCell (p := ⟨w.heap.size + 1 + 1, 0, none⟩) (by simp <;> omega) (.slice (some ⟨w.heap.size + 1 + 1 + 1, 0, none⟩) n n)
  have hG2 := hg.below hB2
  clear bA bT hL1 hB1
  go_wp2_with fail
  refine (toArrowS_any b m d g _ hm hG2).mono ?_
  rintro e w3 ⟨rfl, hM3, hs3, hb3⟩
  have bT3 := bT2.on hb3
  have bO3 := bO2.on hb3
  have hL3 := hL2.on hb3
  have hB3 := stepA hB2 hb3
  simp only [size_set] at hM3 hs3
  clear bT2 bO2 hL2 hB2 hG2 hb3 x1 y0 yf
  have y0 := bT3.c0
  have y1 := bT3.c1
  have yf := bT3.fz 1
  have z0 := bO3.c0
  have z1 := bO3.c1
  have zf0 := bO3.fz 0
  have zf1 := bO3.fz 1
  have bR := ((bO3.far (b' := w.heap.size + 1 + 1) (k := 1) (.slice (some ⟨w1.heap.size, 0, none⟩) m m) (by omega)).set 0 (by simp) (.slice (some ⟨w.heap.size + 1 + 1 + 1, 0, none⟩) n n)).set 1 (by simp) (.slice (some ⟨w1.heap.size, 0, none⟩) m m)
  have hL4 := lq_set (lq_set (lq_set hL3 (b := w.heap.size + 1 + 1) (k := 1) (.slice (some ⟨w1.heap.size, 0, none⟩) m m) (by omega)) (b := w.heap.size + 1) (k := 0) (.slice (some ⟨w.heap.size + 1 + 1 + 1, 0, none⟩) n n) (by omega)) (b := w.heap.size + 1) (k := 1) (.slice (some ⟨w1.heap.size, 0, none⟩) m m) (by omega)
  have hM4 := lq_set (lq_set (lq_set hM3 (b := w.heap.size + 1 + 1) (k := 1) (.slice (some ⟨w1.heap.size, 0, none⟩) m m) (by omega)) (b := w.heap.size + 1) (k := 0) (.slice (some ⟨w.heap.size + 1 + 1 + 1, 0, none⟩) n n) (by omega)) (b := w.heap.size + 1) (k := 1) (.slice (some ⟨w1.heap.size, 0, none⟩) m m) (by omega)
  have hB4 := ((hB3.setCell (p := ⟨w.heap.size + 1 + 1, 1, none⟩) (by simp <;> omega) (.slice (some ⟨w1.heap.size, 0, none⟩) m m)).setCell (p := ⟨w.heap.size + 1, 0, none⟩) (by simp <;> omega) (.slice (some ⟨w.heap.size + 1 + 1 + 1, 0, none⟩) n n)).setCell (p := ⟨w.heap.size + 1, 1, none⟩) (by simp <;> omega) (.slice (some ⟨w1.heap.size, 0, none⟩) m m)
  go_wp2_with fail
  refine ret_cht Try.results17 rfl bR.c0 bR.c1 rfl ?_
  exact ⟨_, _, rfl, ⟨_, _, _, _, by omega, by simp only [size_set]; omega, by omega, by simp only [size_set]; omega, .inl (by omega), hL4, hM4⟩, hB4⟩

set_option maxHeartbeats 1000000 in
theorem eqChart_any (a b a2 b2 : Option Addr) (n c m d c2 d2 : Nat) (f g : Nat → Int) (w : World) (hn : n ≤ 1048576) (hm : m ≤ 1048576) (hf : IL w a (n * 2) f) (hg : IL w b (m * 3) g) (hf2 : IL w a2 (n * 2) f) (hg2 : IL w b2 (m * 3) g) :
    Calls Try.prog 19 #[chv a n c b m d, chv a2 n c2 b2 m d2] w fun e w' => e = .returned (.bool true) ∧ Below w.heap.size w w' := by
  go_enter Try.func19, Try.ntmps19
  go_wp2_with fail
  refine (eqStateS_any a a2 n c c2 f _ hn ((hf.alloc _).alloc _) ((hf2.alloc _).alloc _)).mono ?_
  rintro e w1 ⟨rfl, hb1⟩
  have bA := (((bx_new (w := w) (chL a n c b m d) 26 rfl).alloc _).on hb1)
  have bB := (((bx_new (w := w.alloc (chO a n c b m d 26)) (b := w.heap.size + 1) (chL a2 n c2 b2 m d2) 26 (by simp))).on hb1)
  have hB1 := below_al (below_al hb1)
  have x1 := bA.c1
  have y1 := bB.c1
  clear hb1
  go_wp2_with fail
  refine (eqArrowS_any b b2 m d d2 g _ hm (hg.below hB1) (hg2.below hB1)).mono ?_
  rintro e w2 ⟨rfl, hb2⟩
  have hB2 := stepA hB1 hb2
  clear hb2 hB1 x1 y1 bA bB
  go_wp2
  go_ret
  exact ⟨rfl, hB2⟩

set_option maxHeartbeats 1000000 in
theorem szChart_in (a b : Option Addr) (n c m d : Nat) (l : Int) (w : World) (h : (n : Int) + (m : Int) ≤ l) (hl : l ≤ 1048576) :
    Calls Try.prog 16 #[chv a n c b m d, .int .i64 l] w fun e w' => e = .returned (.int .i64 (l - (n : Int) - (m : Int))) ∧ Below w.heap.size w w' := by
  have j1 : ¬ l - (n : Int) < 0 := by omega
  have j2 : ¬ l - (n : Int) - (m : Int) < 0 := by omega
  have hb0 : Below w.heap.size w (w.alloc (chO a n c b m d 43)) := (Below.refl _ _).alloc (Nat.le_refl _) _
  go_enter Try.func16, Try.ntmps16
  go_wp2_with fail
  refine (szState_in a n c l _ (by omega) (by omega)).mono ?_
  rintro e w1 ⟨rfl, hw1⟩
  have hs1 := hw1.symm
  clear hw1
  subst hs1
  go_wp2_with fail
  refine (szArrow_in b m d _ _ (by omega) (by omega)).mono ?_
  rintro e w1 ⟨rfl, hw1⟩
  have hs1 := hw1.symm
  clear hw1
  subst hs1
  go_wp2
  go_ret
  exact ⟨rfl, hb0⟩
set_option maxHeartbeats 1000000 in
theorem szChart_out (a b : Option Addr) (n c m d : Nat) (l : Int) (w : World) (h : l < (n : Int) + (m : Int)) (h0 : 0 ≤ l) (hl : l ≤ 1048576) (hn : n ≤ 9223372036854775807) (hm : m ≤ 9223372036854775807) :
    Calls Try.prog 16 #[chv a n c b m d, .int .i64 l] w fun e w' => e = .returned (.int .i64 (-1)) ∧ Below w.heap.size w w' := by
  have hb0 : Below w.heap.size w (w.alloc (chO a n c b m d 43)) := (Below.refl _ _).alloc (Nat.le_refl _) _
  by_cases h1 : l < (n : Int)
  · go_enter Try.func16, Try.ntmps16
    go_wp2_with fail
    refine (szState_out a n c l _ (by omega) (by omega) (by omega) hn).mono ?_
    rintro e w1 ⟨rfl, hw1⟩
    have hs1 := hw1.symm
    clear hw1
    subst hs1
    go_wp2
    go_ret
    exact ⟨rfl, hb0⟩
  · have j1 : ¬ l - (n : Int) < 0 := by omega
    go_enter Try.func16, Try.ntmps16
    go_wp2_with fail
    refine (szState_in a n c l _ (by omega) (by omega)).mono ?_
    rintro e w1 ⟨rfl, hw1⟩
    have hs1 := hw1.symm
    clear hw1
    subst hs1
    go_wp2_with fail
    refine (szArrow_out b m d _ _ (by omega) (by omega) (by omega) hm).mono ?_
    rintro e w1 ⟨rfl, hw1⟩
    have hs1 := hw1.symm
    clear hw1
    subst hs1
    go_wp2
    go_ret
    exact ⟨rfl, hb0⟩
end Go.Proofs.YtjefakfongehdaaR
