/- Counts: the law's own copies of them, compared, marked, and held. -/
import Derived.Test.YtnoaonflphameaaLqList
namespace Go.Proofs.Ytnoaonflphameaa
open Go.RowKit

/-- counts as a value -/
abbrev cnt (W : Int) (a : Option Addr) (n c : Nat) (b : Option Addr) (m d : Nat) : Value := .agg #[.int .i64 W, .slice a n c, .slice b m d]
abbrev cntL (W : Int) (a : Option Addr) (n c : Nat) (b : Option Addr) (m d : Nat) : List Value := [.int .i64 W, .slice a n c, .slice b m d]
abbrev cntO (W : Int) (a : Option Addr) (n c : Nat) (b : Option Addr) (m d : Nat) (t : TypeId) : Obj := .cells #[.int .i64 W, .slice a n c, .slice b m d] t

/-- two lists of a call's own, in blocks from lo on, below hi, not in the same one -/
def CP (w : World) (lo hi : Nat) (a : Option Addr) (n : Nat) (F : Nat → Int) (b : Option Addr) (m : Nat) (G : Nat → Int) : Prop :=
  ∃ l1 h1 l2 h2, lo ≤ l1 ∧ h1 ≤ hi ∧ lo ≤ l2 ∧ h2 ≤ hi ∧ (h1 ≤ l2 ∨ h2 ≤ l1) ∧ LQ w l1 h1 a n F ∧ LQ w l2 h2 b m G
theorem CP.il1 {w : World} {lo hi : Nat} {a b : Option Addr} {n m : Nat} {F G : Nat → Int} (h : CP w lo hi a n F b m G) : IL w a n F := by
  obtain ⟨_, _, _, _, _, _, _, _, _, h, _⟩ := h; exact h.il
theorem CP.il2 {w : World} {lo hi : Nat} {a b : Option Addr} {n m : Nat} {F G : Nat → Int} (h : CP w lo hi a n F b m G) : IL w b m G := by
  obtain ⟨_, _, _, _, _, _, _, _, _, _, h⟩ := h; exact h.il
theorem CP.on {w w' : World} {lo hi : Nat} {a b : Option Addr} {n m : Nat} {F G : Nat → Int} (h : CP w lo hi a n F b m G) (k : Below w.heap.size w w') : CP w' lo hi a n F b m G := by
  obtain ⟨l1, h1, l2, h2, i1, i2, i3, i4, i5, j1, j2⟩ := h
  exact ⟨l1, h1, l2, h2, i1, i2, i3, i4, i5, j1.on k, j2.on k⟩
theorem CP.turns {w w' : World} {lo hi lo' hi' : Nat} {a b : Option Addr} {n m : Nat} {F G : Nat → Int} (h : CP w lo hi a n F b m G) (k : Turns lo' hi' w w') (hd : hi ≤ lo' ∨ hi' ≤ lo) : CP w' lo hi a n F b m G := by
  obtain ⟨l1, h1, l2, h2, i1, i2, i3, i4, i5, j1, j2⟩ := h
  exact ⟨l1, h1, l2, h2, i1, i2, i3, i4, i5, j1.turns k (by omega), j2.turns k (by omega)⟩
theorem CP.wide {w : World} {lo hi lo' hi' : Nat} {a b : Option Addr} {n m : Nat} {F G : Nat → Int} (h : CP w lo hi a n F b m G) (h0 : lo' ≤ lo) (h1 : hi ≤ hi') : CP w lo' hi' a n F b m G := by
  obtain ⟨l1, h1, l2, h2, i1, i2, i3, i4, i5, j1, j2⟩ := h
  exact ⟨l1, h1, l2, h2, by omega, by omega, by omega, by omega, i5, j1, j2⟩
theorem cp_none (w : World) (lo hi : Nat) (a b : Option Addr) (F G : Nat → Int) (h : lo ≤ hi) : CP w lo hi a 0 F b 0 G :=
  ⟨lo, lo, lo, lo, Nat.le_refl _, h, Nat.le_refl _, h, .inl (Nat.le_refl _), lq_none _ _ _ _ _, lq_none _ _ _ _ _⟩
theorem keep6 {w w' : World} {b1 b2 : Nat} {u v x u' v' x' : Value} (h1 : Bx w b1 [u, v, x]) (h2 : Bx w b2 [u', v', x']) (k : Below w.heap.size w w') :
    w'.cell? ⟨b1, 0, none⟩ = some u ∧ w'.cell? ⟨b1, 1, none⟩ = some v ∧ w'.cell? ⟨b1, 2, none⟩ = some x ∧ w'.cell? ⟨b2, 0, none⟩ = some u' ∧ w'.cell? ⟨b2, 1, none⟩ = some v' ∧ w'.cell? ⟨b2, 2, none⟩ = some x' :=
  ⟨(h1.on k).c0, (h1.on k).c1, (h1.on k).c2, (h2.on k).c0, (h2.on k).c1, (h2.on k).c2⟩
/-- a return of counts out of their box -/
theorem ret_cnt {fn : Func} {t : Tmp} {R : Ending → World → Prop} {a : Act} {w : World} {b : Nat} {u v x : Value} (h : fn.results = #[.cell t 25]) (hp : a.tmps.getD t undef = .pointer (some ⟨b, 0, none⟩)) (c0 : w.cell? ⟨b, 0, none⟩ = some u) (c1 : w.cell? ⟨b, 1, none⟩ = some v) (c2 : w.cell? ⟨b, 2, none⟩ = some x) (hd : a.defers = [])
    (hR : R (.returned (.agg #[u, v, x])) w) : bodyPost Try.prog fn R .ret a w := by
  refine bodyPost_ret ?_ hd hR
  have hp' : a.tmps[t]?.getD undef = .pointer (some ⟨b, 0, none⟩) := by simpa using hp
  simp [results, h, hp', asAddr, loadVar, go_sem, c0, c1, c2]
theorem ret_cnt_tmp {fn : Func} {t t2 : Tmp} {R : Ending → World → Prop} {a : Act} {w : World} {b : Nat} {u v x : Value} (h : fn.results = #[.cell t 25, .tmp t2]) (hp : a.tmps.getD t undef = .pointer (some ⟨b, 0, none⟩)) (c0 : w.cell? ⟨b, 0, none⟩ = some u) (c1 : w.cell? ⟨b, 1, none⟩ = some v) (c2 : w.cell? ⟨b, 2, none⟩ = some x) (hd : a.defers = [])
    (hR : R (.returned (.tuple #[.agg #[u, v, x], a.tmps.getD t2 undef])) w) : bodyPost Try.prog fn R .ret a w := by
  refine bodyPost_ret ?_ hd hR
  rw [results_cell_tmp h, hp]
  simp [asAddr, loadVar, go_sem, c0, c1, c2]

set_option maxHeartbeats 1000000 in
theorem toCounts_any (W : Int) (a b : Option Addr) (n c m d : Nat) (f g : Nat → Int) (w : World) (hn : n ≤ 1048576) (hm : m ≤ 1048576) (hf : IL w a n f) (hg : IL w b m g) :
    Calls Try.prog 19 #[cnt W a n c b m d] w fun e w' => ∃ a' b', e = .returned (cnt W a' n n b' m m) ∧ CP w' w.heap.size w'.heap.size a' n f b' m g ∧ Below w.heap.size w w' := by
  go_enter Try.func19, Try.ntmps19
  go_wp2_with fail
  refine (copyQ a n c f _ hn (((hf.alloc _).alloc _).alloc _)).mono ?_
  rintro e w1 ⟨rfl, hL1, hs1, hb1⟩
  have bA := ((((bx_new (w := w) (cntL W a n c b m d) 46 rfl).alloc _).alloc _).on hb1)
  have bO := (((bx_new (w := w.alloc (cntO W a n c b m d 46)) (b := w.heap.size + 1) (cntL 0 none 0 0 none 0 0) 25 (by simp)).alloc _).on hb1)
  have bT := ((bx_new (w := (w.alloc (cntO W a n c b m d 46)).alloc (cntO 0 none 0 0 none 0 0 25)) (b := w.heap.size + 1 + 1) (cntL W none 0 0 none 0 0) 25 (by simp)).on hb1)
  have hB1 := below_al (below_al (below_al hb1))
  have hG1 := hg.below hB1
  simp only [size_al] at hL1 hs1
  clear hb1
  have x2 := bA.c2
  have y1 := bT.c1
  have yf := bT.fz 1
  have bT2 := bT.set 1 (by simp) (.slice (some ⟨w.heap.size + 1 + 1 + 1, 0, none⟩) n n)
  have bO2 := bO.far (b' := w.heap.size + 1 + 1) (k := 1) (.slice (some ⟨w.heap.size + 1 + 1 + 1, 0, none⟩) n n) (by omega)
  have hL2 := lq_set hL1 (b := w.heap.size + 1 + 1) (k := 1) (.slice (some ⟨w.heap.size + 1 + 1 + 1, 0, none⟩) n n) (by omega)
  have hB2 := hB1.setCell (p := ⟨w.heap.size + 1 + 1, 1, none⟩) (by simp <;> omega) (.slice (some ⟨w.heap.size + 1 + 1 + 1, 0, none⟩) n n)
  have hG2 := hg.below hB2
  clear bA bT hL1 hB1 hG1
  go_wp2_with fail
  refine (copyQ b m d g _ hm hG2).mono ?_
  rintro e w3 ⟨rfl, hM3, hs3, hb3⟩
  have bT3 := bT2.on hb3
  have bO3 := bO2.on hb3
  have hL3 := hL2.on hb3
  have hB3 := stepA hB2 hb3
  simp only [size_set] at hM3 hs3
  clear bT2 bO2 hL2 hB2 hG2 hb3 x2 y1 yf
  have y0 := bT3.c0
  have y1 := bT3.c1
  have y2 := bT3.c2
  have yf := bT3.fz 2
  have z0 := bO3.c0
  have z1 := bO3.c1
  have z2 := bO3.c2
  have zf0 := bO3.fz 0
  have zf1 := bO3.fz 1
  have zf2 := bO3.fz 2
  have bR := (((bO3.far (b' := w.heap.size + 1 + 1) (k := 2) (.slice (some ⟨w1.heap.size, 0, none⟩) m m) (by omega)).set 0 (by simp) (.int .i64 W)).set 1 (by simp) (.slice (some ⟨w.heap.size + 1 + 1 + 1, 0, none⟩) n n)).set 2 (by simp) (.slice (some ⟨w1.heap.size, 0, none⟩) m m)
  have hL4 := lq_set (lq_set (lq_set (lq_set hL3 (b := w.heap.size + 1 + 1) (k := 2) (.slice (some ⟨w1.heap.size, 0, none⟩) m m) (by omega)) (b := w.heap.size + 1) (k := 0) (.int .i64 W) (by omega)) (b := w.heap.size + 1) (k := 1) (.slice (some ⟨w.heap.size + 1 + 1 + 1, 0, none⟩) n n) (by omega)) (b := w.heap.size + 1) (k := 2) (.slice (some ⟨w1.heap.size, 0, none⟩) m m) (by omega)
  have hM4 := lq_set (lq_set (lq_set (lq_set hM3 (b := w.heap.size + 1 + 1) (k := 2) (.slice (some ⟨w1.heap.size, 0, none⟩) m m) (by omega)) (b := w.heap.size + 1) (k := 0) (.int .i64 W) (by omega)) (b := w.heap.size + 1) (k := 1) (.slice (some ⟨w.heap.size + 1 + 1 + 1, 0, none⟩) n n) (by omega)) (b := w.heap.size + 1) (k := 2) (.slice (some ⟨w1.heap.size, 0, none⟩) m m) (by omega)
  have hB4 := (((hB3.setCell (p := ⟨w.heap.size + 1 + 1, 2, none⟩) (by simp <;> omega) (.slice (some ⟨w1.heap.size, 0, none⟩) m m)).setCell (p := ⟨w.heap.size + 1, 0, none⟩) (by simp <;> omega) (.int .i64 W)).setCell (p := ⟨w.heap.size + 1, 1, none⟩) (by simp <;> omega) (.slice (some ⟨w.heap.size + 1 + 1 + 1, 0, none⟩) n n)).setCell (p := ⟨w.heap.size + 1, 2, none⟩) (by simp <;> omega) (.slice (some ⟨w1.heap.size, 0, none⟩) m m)
  go_wp2_with fail
  refine ret_cnt Try.results19 rfl bR.c0 bR.c1 bR.c2 rfl ?_
  exact ⟨_, _, rfl, ⟨_, _, _, _, by omega, by simp only [size_set]; omega, by omega, by simp only [size_set]; omega, .inl (by omega), hL4, hM4⟩, hB4⟩

set_option maxHeartbeats 1000000 in
theorem eqCounts_any (W : Int) (a b a2 b2 : Option Addr) (n c m d c2 d2 : Nat) (f g : Nat → Int) (w : World) (hn : n ≤ 1048576) (hm : m ≤ 1048576) (hf : IL w a n f) (hg : IL w b m g) (hf2 : IL w a2 n f) (hg2 : IL w b2 m g) :
    Calls Try.prog 20 #[cnt W a n c b m d, cnt W a2 n c2 b2 m d2] w fun e w' => e = .returned (.bool true) ∧ Below w.heap.size w w' := by
  go_enter Try.func20, Try.ntmps20
  go_wp2_with fail
  refine (eqI_any a a2 n c c2 f _ hn ((hf.alloc _).alloc _) ((hf2.alloc _).alloc _)).mono ?_
  rintro e w1 ⟨rfl, hb1⟩
  have bA := (((bx_new (w := w) (cntL W a n c b m d) 25 rfl).alloc _).on hb1)
  have bB := (((bx_new (w := w.alloc (cntO W a n c b m d 25)) (b := w.heap.size + 1) (cntL W a2 n c2 b2 m d2) 25 (by simp))).on hb1)
  have hB1 := below_al (below_al hb1)
  have x2 := bA.c2
  have y2 := bB.c2
  clear hb1
  go_wp2_with fail
  refine (eqI_any b b2 m d d2 g _ hm (hg.below hB1) (hg2.below hB1)).mono ?_
  rintro e w2 ⟨rfl, hb2⟩
  have hB2 := stepA hB1 hb2
  clear hb2 hB1 x2 y2 bA bB
  go_wp2
  go_ret
  exact ⟨rfl, hB2⟩

set_option maxHeartbeats 1000000 in
theorem markCounts_any (W : Int) (a b : Option Addr) (n c m d k lo hi : Nat) (f g : Nat → Int) (w : World) (hn : n ≤ 1048576) (hm : m ≤ 1048576) (hk : k ≤ 1048576) (h : CP w lo hi a n f b m g) (hs : hi ≤ w.heap.size) :
    Calls Try.prog 21 #[cnt W a n c b m d, .int .i64 (k : Int)] w fun e w' => e = .returned (.int .i64 ((k : Int) + (n : Int) + (m : Int))) ∧ CP w' lo hi a n (fun i => (k : Int) + (i : Int)) b m (fun i => (((k + n : Nat) : Int)) + (i : Int)) ∧ Turns lo hi w w' := by
  obtain ⟨l1, h1, l2, h2, i1, i2, i3, i4, i5, hf, hg⟩ := h
  go_enter Try.func21, Try.ntmps21
  have hb0 : Below w.heap.size w (w.alloc (cntO W a n c b m d 25)) := (Below.refl _ _).alloc (Nat.le_refl _) _
  have b0 := bx_new (w := w) (cntL W a n c b m d) 25 rfl
  have hT0 : Turns lo hi w (w.alloc (cntO W a n c b m d 25)) := turns_of hb0
  have hf0 := hf.on hb0
  have hg0 := hg.on hb0
  go_wp2_with fail
  refine (markQ a n c k l1 h1 f _ hn (by omega) hf0).mono ?_
  rintro e w1 ⟨rfl, hf1, hO1⟩
  have hg1 := hg0.only hO1 (by omega)
  have b1 := b0.only hO1 (.inr (by omega))
  have hT1 := hT0.trans (hO1.wide i1 i2).turns
  have x2 := b1.c2
  rw [show (k : Int) + (n : Int) = ((k + n : Nat) : Int) by omega]
  clear hb0 b0 hT0 hf0 hg0 hf hg hO1
  go_wp2_with fail
  refine (markQ b m d (k + n) l2 h2 g _ hm (by omega) hg1).mono ?_
  rintro e w2 ⟨rfl, hg2, hO2⟩
  have hf2 := hf1.only hO2 (by omega)
  have hT2 := hT1.trans (hO2.wide i3 i4).turns
  clear hT1 hf1 hg1 hO2 b1 x2
  go_wp2
  go_ret
  exact ⟨rfl, ⟨l1, h1, l2, h2, i1, i2, i3, i4, i5, hf2, hg2⟩, hT2⟩

set_option maxHeartbeats 1000000 in
theorem heldCounts_any (W : Int) (a b : Option Addr) (n c m d k lo hi : Nat) (w : World) (hn : n ≤ 1048576) (hm : m ≤ 1048576) (hk : k ≤ 1048576) (h : CP w lo hi a n (fun i => (k : Int) + (i : Int)) b m (fun i => (((k + n : Nat) : Int)) + (i : Int))) :
    Calls Try.prog 22 #[cnt W a n c b m d, .int .i64 (k : Int)] w fun e w' => e = .returned (.int .i64 ((k : Int) + (n : Int) + (m : Int))) ∧ Below w.heap.size w w' := by
  obtain ⟨l1, h1, l2, h2, i1, i2, i3, i4, i5, hf, hg⟩ := h
  go_enter Try.func22, Try.ntmps22
  have hb0 : Below w.heap.size w (w.alloc (cntO W a n c b m d 25)) := (Below.refl _ _).alloc (Nat.le_refl _) _
  have b0 := bx_new (w := w) (cntL W a n c b m d) 25 rfl
  have hf0 := hf.on hb0
  have hg0 := hg.on hb0
  go_wp2_with fail
  refine (heldQ a n c k l1 h1 _ hn (by omega) hf0).mono ?_
  rintro e w1 ⟨rfl, hw1⟩
  have hs1 := hw1.symm
  clear hw1
  subst hs1
  have x2 := b0.c2
  have j1 : ¬ (k : Int) + (n : Int) < 0 := by omega
  rw [show (k : Int) + (n : Int) = ((k + n : Nat) : Int) by omega] at j1 ⊢
  have j2 : ¬ ((k + n : Nat) : Int) + (m : Int) < 0 := by omega
  clear hf hg hf0
  go_wp2_with fail
  refine (heldQ b m d (k + n) l2 h2 _ hm (by omega) hg0).mono ?_
  rintro e w1 ⟨rfl, hw1⟩
  have hs1 := hw1.symm
  clear hw1
  subst hs1
  clear b0 x2 hg0
  go_wp2
  go_ret
  exact ⟨rfl, hb0⟩

set_option maxHeartbeats 1000000 in
theorem szCounts_in (W : Int) (a b : Option Addr) (n c m d : Nat) (w : World) (h : n + m ≤ 1048576) :
    Calls Try.prog 18 #[cnt W a n c b m d, .int .i64 1048576] w fun e w' => e = .returned (.int .i64 (1048576 - (n : Int) - (m : Int))) ∧ Below w.heap.size w w' := by
  have j1 : ¬ (1048576 : Int) - (n : Int) < 0 := by omega
  have j2 : ¬ (1048576 : Int) - (n : Int) - (m : Int) < 0 := by omega
  have hb0 : Below w.heap.size w (w.alloc (cntO W a n c b m d 46)) := (Below.refl _ _).alloc (Nat.le_refl _) _
  go_enter Try.func18, Try.ntmps18
  go_wp2_with fail
  refine (szI_in a n c 1048576 _ (by omega) (by omega)).mono ?_
  rintro e w1 ⟨rfl, hw1⟩
  have hs1 := hw1.symm
  clear hw1
  subst hs1
  go_wp2_with fail
  refine (szI_in b m d _ _ (by omega) (by omega)).mono ?_
  rintro e w1 ⟨rfl, hw1⟩
  have hs1 := hw1.symm
  clear hw1
  subst hs1
  go_wp2
  go_ret
  exact ⟨rfl, hb0⟩
set_option maxHeartbeats 1000000 in
theorem szCounts_out (W : Int) (a b : Option Addr) (n c m d : Nat) (w : World) (h : 1048576 < n + m) (hn : n ≤ 9223372036854775807) (hm : m ≤ 9223372036854775807) :
    Calls Try.prog 18 #[cnt W a n c b m d, .int .i64 1048576] w fun e w' => e = .returned (.int .i64 (-1)) ∧ Below w.heap.size w w' := by
  have hb0 : Below w.heap.size w (w.alloc (cntO W a n c b m d 46)) := (Below.refl _ _).alloc (Nat.le_refl _) _
  by_cases h1 : 1048576 < n
  · go_enter Try.func18, Try.ntmps18
    go_wp2_with fail
    refine (szI_out a n c 1048576 _ (by omega) (by omega) hn).mono ?_
    rintro e w1 ⟨rfl, hw1⟩
    have hs1 := hw1.symm
    clear hw1
    subst hs1
    go_wp2
    go_ret
    exact ⟨rfl, hb0⟩
  · have j1 : ¬ (1048576 : Int) - (n : Int) < 0 := by omega
    go_enter Try.func18, Try.ntmps18
    go_wp2_with fail
    refine (szI_in a n c 1048576 _ (by omega) (by omega)).mono ?_
    rintro e w1 ⟨rfl, hw1⟩
    have hs1 := hw1.symm
    clear hw1
    subst hs1
    go_wp2_with fail
    refine (szI_out b m d _ _ (by omega) (by omega) hm).mono ?_
    rintro e w1 ⟨rfl, hw1⟩
    have hs1 := hw1.symm
    clear hw1
    subst hs1
    go_wp2
    go_ret
    exact ⟨rfl, hb0⟩
end Go.Proofs.Ytnoaonflphameaa
