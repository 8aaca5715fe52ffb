/- Talkers: the law's own copies of them. -/
import Derived.Test.YtldagjgpapnfpaaQBuW
import Derived.Test.YtldagjgpapnfpaaQBuT
namespace Go.Proofs.Ytldagjgpapnfpaa
open Go.RowKit
set_option maxHeartbeats 1000000 in
theorem toFrame_at (W : Int) (a : Option Addr) (n c : Nat) (f : Nat → Int) (w : World) (hn : n ≤ 1048576) (hf : YL w a n f) :
    Calls Try.prog 69 #[frv W a n c] w fun e w' => ∃ b, e = .returned (frv W (some ⟨b, 0, none⟩) n n) ∧ VQ w' w.heap.size w'.heap.size (some ⟨b, 0, none⟩) n (fun i => .int .u8 (f i)) ∧ Below w.heap.size w w' := by
  go_enter Try.func69, Try.ntmps69
  go_wp2_with fail
  refine (copyBy a n c f _ hn (((hf.alloc _).alloc _).alloc _)).mono ?_
  rintro e w1 ⟨rfl, hL1, hs1, hb1⟩
  have bO := (((bx_new (w := w.alloc (frvO W a n c 109)) (b := w.heap.size + 1) (frvL 0 none 0 0) 54 (by simp)).alloc _).on hb1)
  have bT := ((bx_new (w := (w.alloc (frvO W a n c 109)).alloc (frvO 0 none 0 0 54)) (b := w.heap.size + 1 + 1) (frvL W none 0 0) 54 (by simp)).on hb1)
  have hB1 := below_al (below_al (below_al hb1))
  simp only [size_al] at hL1 hs1
  clear hb1
  have y0 := bT.c0
  have y1 := bT.c1
  have yf := bT.fz 1
  have z0 := bO.c0
  have z1 := bO.c1
  have zf0 := bO.fz 0
  have zf1 := bO.fz 1
  have bR := ((bO.far (b' := w.heap.size + 1 + 1) (k := 1) (.slice (some ⟨w.heap.size + 1 + 1 + 1, 0, none⟩) n n) (by omega)).set 0 (by simp) (.int .i64 W)).set 1 (by simp) (.slice (some ⟨w.heap.size + 1 + 1 + 1, 0, none⟩) n n)
  have hL4 := vq_set (vq_set (vq_set hL1 (b := w.heap.size + 1 + 1) (k := 1) (.slice (some ⟨w.heap.size + 1 + 1 + 1, 0, none⟩) n n) (by omega)) (b := w.heap.size + 1) (k := 0) (.int .i64 W) (by omega)) (b := w.heap.size + 1) (k := 1) (.slice (some ⟨w.heap.size + 1 + 1 + 1, 0, none⟩) n n) (by omega)
  have hB4 := ((hB1.setCell (p := ⟨w.heap.size + 1 + 1, 1, none⟩) (by simp <;> omega) (.slice (some ⟨w.heap.size + 1 + 1 + 1, 0, none⟩) n n)).setCell (p := ⟨w.heap.size + 1, 0, none⟩) (by simp <;> omega) (.int .i64 W)).setCell (p := ⟨w.heap.size + 1, 1, none⟩) (by simp <;> omega) (.slice (some ⟨w.heap.size + 1 + 1 + 1, 0, none⟩) n n)
  go_wp2_with fail
  refine ret_frv Try.results69 rfl bR.c0 bR.c1 rfl ?_
  exact ⟨_, rfl, hL4.wide (by omega) (by simp only [size_set]; omega), hB4⟩
theorem run_make_fr (n : Nat) (hn : n ≤ 1048576) (w : World) :
    (Instr.makeSlice 49 (.int .i64 (n : Int)) (.int .i64 (n : Int))).run Try.prog w = .ok (.slice (some ⟨w.heap.size, 0, none⟩) n n) (w.alloc (.cells (madeCells #[.int .i64 0, .slice none 0 0] (n * 2)) 54)) := by
  obtain ⟨i, hi, hzz⟩ := Option.map_eq_some_iff.1 infoFr
  simp only [Prod.mk.injEq] at hzz
  obtain ⟨hz, hs, hb⟩ := hzz
  have hr := run_make (P := Try.prog) w 49 54 i _ Try.underlying49 hi hz .i64 .i64 (n : Int) (n : Int) (by omega) (by omega) (by rw [hb]; omega) (by omega)
  simp only [Int.toNat_natCast, hs] at hr
  exact hr
theorem run_make_tk (n : Nat) (hn : n ≤ 1048576) (w : World) :
    (Instr.makeSlice 23 (.int .i64 (n : Int)) (.int .i64 (n : Int))).run Try.prog w = .ok (.slice (some ⟨w.heap.size, 0, none⟩) n n) (w.alloc (.cells (madeCells #[.slice none 0 0, .int .i64 0, .int .i64 0, .bool false] (n * 4)) 51)) := by
  obtain ⟨i, hi, hzz⟩ := Option.map_eq_some_iff.1 infoTk
  simp only [Prod.mk.injEq] at hzz
  obtain ⟨hz, hs, hb⟩ := hzz
  have hr := run_make (P := Try.prog) w 23 51 i _ Try.underlying23 hi hz .i64 .i64 (n : Int) (n : Int) (by omega) (by omega) (by rw [hb]; omega) (by omega)
  simp only [Int.toNat_natCast, hs] at hr
  exact hr
/-- a block of m cells that stands and may be written -/
structure Hld (w : World) (g m : Nat) : Prop where
  lt : g < w.heap.size
  c : ∀ p, p < m → ∃ v, w.cell? ⟨g, p, none⟩ = some v
  fz : ∀ p, w.frozen? ⟨g, p, none⟩ = false
theorem Hld.on {w w' : World} {g m : Nat} (h : Hld w g m) (k : Below w.heap.size w w') : Hld w' g m := ⟨Nat.lt_of_lt_of_le h.lt k.size, fun p hp => (h.c p hp).imp fun _ e => (k.cell (p := ⟨g, p, none⟩) h.lt).trans e, fun p => (k.frozen (p := ⟨g, p, none⟩) h.lt).trans (h.fz p)⟩
theorem Hld.set {w : World} {g m : Nat} (h : Hld w g m) {q : Nat} (hq : q < m) (v : Value) : Hld (w.setCell ⟨g, q, none⟩ v) g m := by
  refine ⟨by simpa using h.lt, fun p hp => ?_, fun p => by simpa using h.fz p⟩
  obtain ⟨u, hu⟩ := h.c p hp
  by_cases e : p = q
  · subst e; exact ⟨v, World.cell?_setCell_same _ _ _ hu⟩
  · exact ⟨u, (World.cell?_setCell_other _ _ _ _ (by first | (simp; done) | (simp; omega))).trans hu⟩
theorem hld_made (w : World) (z : Array Value) (m : Nat) (t : TypeId) : Hld (w.alloc (.cells (madeCells z m) t)) w.heap.size m := by
  have hr := World.rowIs_alloc w (madeCells z m) t (fun i => ((madeCells z m)[i]?).getD undef) (by
    intro i hi
    simp [hi])
  rw [size_madeCells] at hr
  exact ⟨hr.lt, fun p hp => ⟨_, hr.cell hp⟩, fun p => hr.frozen p⟩
/-- copies of the first k frames into a block that was made -/
structure FpP (g : Nat) (wr : World) (n k : Nat) (I : Nat → Int) (N : Nat → Nat) (S : Nat → Nat → Int) (A : Nat → Option Addr) (C D : Nat → Nat) : Prop where
  hd : Hld wr g (n * 2)
  d0 : D 0 = g + 1
  mon : ∀ j, j < k → D j ≤ D (j + 1)
  dk : D k ≤ wr.heap.size
  c : ∀ j, j < k → wr.cell? ⟨g, j * 2, none⟩ = some (.int .i64 (I j)) ∧ wr.cell? ⟨g, j * 2 + 1, none⟩ = some (.slice (A j) (N j) (C j))
  y : ∀ j, j < k → VQ wr (D j) (D (j + 1)) (A j) (N j) (fun i => .int .u8 (S j i))
  s : ∀ j, j < k → Shp (A j) (N j) (C j)
section
variable {g : Nat} {w w' : World} {n k : Nat} {I : Nat → Int} {N : Nat → Nat} {S : Nat → Nat → Int} {A : Nat → Option Addr} {C D : Nat → Nat}
theorem FpP.dj (h : FpP g w n k I N S A C D) {j : Nat} (hj : j ≤ k) : g < D j ∧ D j ≤ w.heap.size := by
  have h1 := mono_le h.mon j (Nat.zero_le _) hj
  have h2 := mono_le h.mon k hj (Nat.le_refl _)
  have := h.d0
  have := h.dk
  omega
theorem FpP.end (h : FpP g w n n I N S A C D) : FrP w g w.heap.size g n I N S A C D := ⟨Nat.le_refl _, by have := h.d0; omega, h.dk, h.mon, h.hd.lt, h.c, h.hd.fz, h.y, h.s⟩
theorem FpP.app (h : FpP g w n k I N S A C D) (hk : k < n) (b : Below w.heap.size w w') {a' : Option Addr} {c' : Nat} (hy : VQ w' w.heap.size w'.heap.size a' (N k) (fun i => .int .u8 (S k i))) (hs : Shp a' (N k) c') :
    FpP g ((w'.setCell ⟨g, k * 2, none⟩ (.int .i64 (I k))).setCell ⟨g, k * 2 + 1, none⟩ (.slice a' (N k) c')) n (k + 1) I N S (fun i => if i = k then a' else A i) (fun i => if i = k then c' else C i) (fun i => if i = k + 1 then w'.heap.size else D i) := by
  have hO := ((Only.refl g w').set (k * 2) (.int .i64 (I k))).set (k * 2 + 1) (.slice a' (N k) c')
  have hT := (OnlyIn.of hO (Nat.le_refl g) (Nat.lt_succ_self g)).turns
  have hg := h.hd.lt
  refine ⟨((h.hd.on b).set (by omega) _).set (by omega) _, by simp only [Ne.symm (Nat.succ_ne_zero k), if_false]; exact h.d0, fun j hj => ?_, ?_, fun j hj => ?_, fun j hj => ?_, fun j hj => ?_⟩
  · rw [if_neg (by omega)]
    by_cases e : j = k
    · subst e; rw [if_pos rfl]; exact Nat.le_trans h.dk b.size
    · rw [if_neg (by omega)]; exact h.mon j (by omega)
  · rw [if_pos rfl]; simp
  · by_cases e : j = k
    · subst e
      rw [if_pos rfl, if_pos rfl]
      obtain ⟨u, hu⟩ := (h.hd.on b).c (j * 2) (by omega)
      obtain ⟨v, hv⟩ := ((h.hd.on b).set (q := j * 2) (by omega) (.int .i64 (I j))).c (j * 2 + 1) (by omega)
      exact ⟨(World.cell?_setCell_other _ _ _ _ (by first | (simp; done) | (simp; omega))).trans (World.cell?_setCell_same _ _ _ hu), World.cell?_setCell_same _ _ _ hv⟩
    · rw [if_neg e, if_neg e]
      have hc := h.c j (by omega)
      exact ⟨((World.cell?_setCell_other _ _ _ _ (by first | (simp; done) | (simp; omega))).trans (World.cell?_setCell_other _ _ _ _ (by first | (simp; done) | (simp; omega)))).trans ((b.cell (p := ⟨g, _, none⟩) hg).trans hc.1), ((World.cell?_setCell_other _ _ _ _ (by first | (simp; done) | (simp; omega))).trans (World.cell?_setCell_other _ _ _ _ (by first | (simp; done) | (simp; omega)))).trans ((b.cell (p := ⟨g, _, none⟩) hg).trans hc.2)⟩
  · by_cases e : j = k
    · subst e
      rw [if_neg (by omega), if_pos rfl, if_pos rfl]
      have hd := h.dj (Nat.le_refl _)
      exact (hy.turns hT (.inr (by omega))).wide hd.2 (Nat.le_refl _)
    · rw [if_neg (by omega), if_neg (by omega), if_neg e]
      have hd := h.dj (show j ≤ k by omega)
      exact ((h.y j (by omega)).on b).turns hT (.inr (by omega))
  · by_cases e : j = k
    · subst e; rw [if_pos rfl, if_pos rfl]; exact hs
    · rw [if_neg e, if_neg e]; exact h.s j (by omega)
end
def AnsFq (w w' : World) (e : Ending) (n : Nat) (I : Nat → Int) (N : Nat → Nat) (S : Nat → Nat → Int) : Prop := e = .returned (.slice (some ⟨w.heap.size, 0, none⟩) n n) ∧ FrQ w' w.heap.size w'.heap.size (some ⟨w.heap.size, 0, none⟩) n I N S ∧ w.heap.size < w'.heap.size ∧ Below w.heap.size w w'
set_option maxRecDepth 20000 in
set_option maxHeartbeats 4000000 in
theorem toFrameS_any (a : Option Addr) (n c : Nat) (I : Nat → Int) (A : Nat → Option Addr) (N C : Nat → Nat) (S : Nat → Nat → Int) (w : World) (hn : n ≤ 1048576) (hN : ∀ j, j < n → N j ≤ 1048576) (hF : FrH w a n I A N C) (hY : ∀ j, j < n → YL w (A j) (N j) (S j)) :
    Calls Try.prog 53 #[.slice a n c] w fun e w' => AnsFq w w' e n I N S := by
  have hmk := run_make_fr n hn
  have HF : Hid (FrH w a n I A N C) := hF
  have HYL : Hid (∀ j, j < n → YL w (A j) (N j) (S j)) := hY
  have HN : Hid (∀ j, j < n → N j ≤ 1048576) := hN
  have hb0 : Below w.heap.size w (w.alloc (.cells (madeCells #[.int .i64 0, .slice none 0 0] (n * 2)) 54)) := (Below.refl _ _).alloc (Nat.le_refl _) _
  have HS0 : Hid (FpP w.heap.size (w.alloc (.cells (madeCells #[.int .i64 0, .slice none 0 0] (n * 2)) 54)) n 0 I N S (fun _ => none) (fun _ => 0) (fun _ => w.heap.size + 1)) :=
    ⟨hld_made _ _ _ _, rfl, fun j hj => absurd hj (Nat.not_lt_zero _), by simp, fun j hj => absurd hj (Nat.not_lt_zero _), fun j hj => absurd hj (Nat.not_lt_zero _), fun j hj => absurd hj (Nat.not_lt_zero _)⟩
  clear hF hN hY
  go_enter Try.func53, Try.ntmps53
  go_wp2
  clear hmk
  go_loopw [4] (fun i wr => ∃ (k : Nat), k ≤ n ∧ i = .int .i64 (k : Int) ∧ Hid (∃ A C D, FpP w.heap.size wr n k I N S A C D) ∧ Below w.heap.size w wr) (fun i _ => n - (intOf i).toNat)
  case atStart => exact ⟨0, Nat.zero_le _, rfl, ⟨_, _, _, HS0.out⟩, hb0⟩
  case round =>
    obtain ⟨k, hk, rfl, HS, hB⟩ := hrel
    clear HS0 hb0
    by_cases hlt : k < n
    · obtain ⟨b1, o1, rfl, l1, hc1⟩ := (HF.out.below hB) (by omega)
      obtain ⟨y0, y1⟩ := hc1 k hlt
      have kF := toFrame_at (I k) (A k) (N k) (C k) (S k) wr (HN.out k hlt) ((HYL.out k hlt).below hB)
      have j0 : (0 : Int) ≤ (k : Int) := by omega
      have j1 : (k : Int) < (n : Int) := by omega
      obtain ⟨A1, C1, D1, hCf⟩ := HS.out
      have HC : Hid (FpP w.heap.size wr n k I N S A1 C1 D1) := hCf
      clear hc1 HS hCf
      obtain ⟨X0, e0⟩ : ∃ X, X = I k := ⟨_, rfl⟩
      obtain ⟨X1, e1⟩ : ∃ X, X = A k := ⟨_, rfl⟩
      obtain ⟨X2, e2⟩ : ∃ X, X = N k := ⟨_, rfl⟩
      obtain ⟨X3, e3⟩ : ∃ X, X = C k := ⟨_, rfl⟩
      rw [← e0] at y0
      rw [← e1, ← e2, ← e3] at y1
      rw [← e0, ← e1, ← e2, ← e3] at kF
      have HX0 : Hid (X0 = I k) := e0
      have HX2 : Hid (X2 = N k) := e2
      clear e0 e1 e2 e3
      go_wp2_with fail
      refine kF.mono ?_
      rintro e w5 ⟨b', rfl, hq5, hb5⟩
      have hH5 := HC.out.hd.on hb5
      have hgl := hH5.lt
      obtain ⟨u0, z0⟩ := hH5.c (k * 2) (by omega)
      obtain ⟨u1, z1⟩ := hH5.c (k * 2 + 1) (by omega)
      have f0 := hH5.fz (k * 2)
      have f1 := hH5.fz (k * 2 + 1)
      have hC6 := HC.out.app hlt hb5 (a' := some ⟨b', 0, none⟩) (c' := X2) (by rw [← HX2.out]; exact hq5) (by rw [← HX2.out]; exact shp_at _ _ (Nat.le_refl _))
      rw [← HX0.out, ← HX2.out] at hC6
      have HC6 : Hid (FpP w.heap.size _ n (k + 1) I N S _ _ _) := hC6
      have hB6 := ((stepA hB hb5).setCell (p := ⟨w.heap.size, k * 2, none⟩) (Nat.le_refl _) (.int .i64 X0)).setCell (p := ⟨w.heap.size, k * 2 + 1, none⟩) (Nat.le_refl _) (.slice (some ⟨b', 0, none⟩) X2 X2)
      clear hH5 hC6 hq5 hb5 kF y0 y1 hB
      go_wp2
      exact ⟨⟨k + 1, by omega, by go_num, ⟨_, _, _, HC6.out⟩, hB6⟩, by simp [intOf]; omega⟩
    · have hke : k = n := by omega
      subst hke
      obtain ⟨A1, C1, D1, hCf⟩ := HS.out
      have HC : Hid (FpP w.heap.size wr k k I N S A1 C1 D1) := hCf
      clear HS hCf
      go_wp2
      go_ret
      exact ⟨rfl, fun _ => ⟨_, _, _, _, rfl, HC.out.end⟩, HC.out.hd.lt, hB⟩
end Go.Proofs.Ytldagjgpapnfpaa
