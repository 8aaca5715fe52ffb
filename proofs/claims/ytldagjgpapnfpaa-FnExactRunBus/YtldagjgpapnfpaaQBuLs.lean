/- Lists of talkers: the law's own copies of them. -/
import Derived.Test.YtldagjgpapnfpaaQBuLt
namespace Go.Proofs.Ytldagjgpapnfpaa
open Go.RowKit
/-- copies of the first k talkers into a block that was made -/
structure TqP (g : Nat) (wr : World) (n k : Nat) (t : Tks) (S : Nat → Nat → Nat → Int) (QA : Nat → Option Addr) (QC D : Nat → Nat) : Prop where
  hd : Hld wr g (n * 4)
  d0 : D 0 = g + 1
  mon : ∀ j, j < k → D j ≤ D (j + 1)
  dk : D k ≤ wr.heap.size
  c : ∀ i, i < k → wr.cell? ⟨g, i * 4, none⟩ = some (.slice (QA i) (t.qm i) (QC i)) ∧ wr.cell? ⟨g, i * 4 + 1, none⟩ = some (.int .i64 (t.sh i)) ∧ wr.cell? ⟨g, i * 4 + 2, none⟩ = some (.int .i64 (t.er i)) ∧ wr.cell? ⟨g, i * 4 + 3, none⟩ = some (.bool (t.of i))
  f : ∀ i, i < k → FrQ wr (D i) (D (i + 1)) (QA i) (t.qm i) (t.I i) (t.N i) (S i)
  s : ∀ i, i < k → Shp (QA i) (t.qm i) (QC i)
section
variable {g : Nat} {w w' : World} {n k : Nat} {t : Tks} {S : Nat → Nat → Nat → Int} {QA : Nat → Option Addr} {QC D : Nat → Nat}
theorem TqP.dj (h : TqP g w n k t S QA QC D) {j : Nat} (hj : j ≤ k) : g < D j ∧ D j ≤ w.heap.size := by
  have h1 := mono_le h.mon j (Nat.zero_le _) hj
  have h2 := mono_le h.mon k hj (Nat.le_refl _)
  have := h.d0
  have := h.dk
  omega
theorem TqP.end (h : TqP g w n n t S QA QC D) : TkP w g w.heap.size g n t S QA QC D := ⟨Nat.le_refl _, by have := h.d0; omega, h.dk, h.mon, h.hd.lt, h.c, h.hd.fz, h.f, h.s⟩
theorem set_oth {w : World} {g j k : Nat} {v : Value} (h : k ≠ j) : (w.setCell ⟨g, j, none⟩ v).cell? ⟨g, k, none⟩ = w.cell? ⟨g, k, none⟩ := World.cell?_setCell_other _ _ _ _ (by first | (simp; done) | (simp; omega))
theorem Hld.at (h : Hld w g n) {q : Nat} (hq : q < n) (v : Value) : (w.setCell ⟨g, q, none⟩ v).cell? ⟨g, q, none⟩ = some v := by
  obtain ⟨u, hu⟩ := h.c q hq
  exact World.cell?_setCell_same _ _ _ hu
theorem TqP.app (h : TqP g w n k t S QA QC D) (hk : k < n) (b : Below w.heap.size w w') {a' : Option Addr} {c' : Nat} (hy : FrQ w' w.heap.size w'.heap.size a' (t.qm k) (t.I k) (t.N k) (S k)) (hs : Shp a' (t.qm k) c') :
    TqP g ((((w'.setCell ⟨g, k * 4, none⟩ (.slice a' (t.qm k) c')).setCell ⟨g, k * 4 + 1, none⟩ (.int .i64 (t.sh k))).setCell ⟨g, k * 4 + 2, none⟩ (.int .i64 (t.er k))).setCell ⟨g, k * 4 + 3, none⟩ (.bool (t.of k))) n (k + 1) t S (fun i => if i = k then a' else QA i) (fun i => if i = k then c' else QC i) (fun i => if i = k + 1 then w'.heap.size else D i) := by
  have hO := ((((Only.refl g w').set (k * 4) (.slice a' (t.qm k) c')).set (k * 4 + 1) (.int .i64 (t.sh k))).set (k * 4 + 2) (.int .i64 (t.er k))).set (k * 4 + 3) (.bool (t.of k))
  have hT := (OnlyIn.of hO (Nat.le_refl g) (Nat.lt_succ_self g)).turns
  have hg := h.hd.lt
  have H0 := h.hd.on b
  have H1 := H0.set (q := k * 4) (by omega) (.slice a' (t.qm k) c')
  have H2 := H1.set (q := k * 4 + 1) (by omega) (.int .i64 (t.sh k))
  have H3 := H2.set (q := k * 4 + 2) (by omega) (.int .i64 (t.er k))
  refine ⟨H3.set (by omega) _, by simp only [Ne.symm (Nat.succ_ne_zero k), if_false]; exact h.d0, fun j hj => ?_, ?_, fun j hj => ?_, fun j hj => ?_, fun j hj => ?_⟩
  · rw [if_neg (by omega)]
    by_cases e : j = k
    · subst e; rw [if_pos rfl]; exact Nat.le_trans h.dk b.size
    · rw [if_neg (by omega)]; exact h.mon j (by omega)
  · rw [if_pos rfl]; simp
  · by_cases e : j = k
    · subst e
      rw [if_pos rfl, if_pos rfl]
      refine ⟨?_, ?_, ?_, ?_⟩
      · rw [set_oth (by omega), set_oth (by omega), set_oth (by omega)]; exact H0.at (by omega) _
      · rw [set_oth (by omega), set_oth (by omega)]; exact H1.at (by omega) _
      · rw [set_oth (by omega)]; exact H2.at (by omega) _
      · exact H3.at (by omega) _
    · rw [if_neg e, if_neg e]
      obtain ⟨c0, c1, c2, c3⟩ := h.c j (by omega)
      refine ⟨?_, ?_, ?_, ?_⟩
      · rw [set_oth (by omega), set_oth (by omega), set_oth (by omega), set_oth (by omega)]; exact (b.cell (p := ⟨g, _, none⟩) hg).trans c0
      · rw [set_oth (by omega), set_oth (by omega), set_oth (by omega), set_oth (by omega)]; exact (b.cell (p := ⟨g, _, none⟩) hg).trans c1
      · rw [set_oth (by omega), set_oth (by omega), set_oth (by omega), set_oth (by omega)]; exact (b.cell (p := ⟨g, _, none⟩) hg).trans c2
      · rw [set_oth (by omega), set_oth (by omega), set_oth (by omega), set_oth (by omega)]; exact (b.cell (p := ⟨g, _, none⟩) hg).trans c3
  · by_cases e : j = k
    · subst e
      rw [if_neg (by omega), if_pos rfl, if_pos rfl]
      have hd := h.dj (Nat.le_refl _)
      exact (hy.turns hT (.inr (by omega))).wide hd.2 (Nat.le_refl _)
    · rw [if_neg (by omega), if_neg (by omega), if_neg e]
      have hd := h.dj (show j ≤ k by omega)
      exact ((h.f j (by omega)).on b).turns hT (.inr (by omega))
  · by_cases e : j = k
    · subst e; rw [if_pos rfl, if_pos rfl]; exact hs
    · rw [if_neg e, if_neg e]; exact h.s j (by omega)
end
def AnsTq (w w' : World) (e : Ending) (n : Nat) (t : Tks) (S : Nat → Nat → Nat → Int) : Prop := e = .returned (.slice (some ⟨w.heap.size, 0, none⟩) n n) ∧ TkQ w' w.heap.size w'.heap.size (some ⟨w.heap.size, 0, none⟩) n t S ∧ w.heap.size < w'.heap.size ∧ Below w.heap.size w w'
set_option maxRecDepth 20000 in
set_option maxHeartbeats 4000000 in
theorem toTalkerS_any (a : Option Addr) (n c : Nat) (t : Tks) (S : Nat → Nat → Nat → Int) (w : World) (hn : n ≤ 1048576) (hq : ∀ i, i < n → t.qm i ≤ 1048576) (hN : ∀ i, i < n → ∀ j, j < t.qm i → t.N i j ≤ 1048576) (hT : TkH w a n t) (hY : ∀ i, i < n → ∀ j, j < t.qm i → YL w (t.A i j) (t.N i j) (S i j)) :
    Calls Try.prog 10 #[.slice a n c] w fun e w' => AnsTq w w' e n t S := by
  have hmk := run_make_tk n hn
  have HT : Hid (TkH w a n t) := hT
  have HYL : Hid (∀ i, i < n → ∀ j, j < t.qm i → YL w (t.A i j) (t.N i j) (S i j)) := hY
  have HQ : Hid (∀ i, i < n → t.qm i ≤ 1048576) := hq
  have HN : Hid (∀ i, i < n → ∀ j, j < t.qm i → t.N i j ≤ 1048576) := hN
  have hb0 : Below w.heap.size w (w.alloc (.cells (madeCells #[.slice none 0 0, .int .i64 0, .int .i64 0, .bool false] (n * 4)) 51)) := (Below.refl _ _).alloc (Nat.le_refl _) _
  have HS0 : Hid (TqP w.heap.size (w.alloc (.cells (madeCells #[.slice none 0 0, .int .i64 0, .int .i64 0, .bool false] (n * 4)) 51)) n 0 t S (fun _ => none) (fun _ => 0) (fun _ => w.heap.size + 1)) :=
    ⟨hld_made _ _ _ _, rfl, fun j hj => absurd hj (Nat.not_lt_zero _), by simp, fun j hj => absurd hj (Nat.not_lt_zero _), fun j hj => absurd hj (Nat.not_lt_zero _), fun j hj => absurd hj (Nat.not_lt_zero _)⟩
  clear hT hq hN hY
  go_enter Try.func10, Try.ntmps10
  go_wp2
  clear hmk
  go_loopw [4] (fun i wr => ∃ (k : Nat), k ≤ n ∧ i = .int .i64 (k : Int) ∧ Hid (∃ A C D, TqP w.heap.size wr n k t S A C D) ∧ Below w.heap.size w wr) (fun i _ => n - (intOf i).toNat)
  case atStart => exact ⟨0, Nat.zero_le _, rfl, ⟨_, _, _, HS0.out⟩, hb0⟩
  case round =>
    obtain ⟨k, hk, rfl, HS, hB⟩ := hrel
    clear HS0 hb0
    by_cases hlt : k < n
    · have hT2 := HT.out.below hB
      obtain ⟨b1, o1, rfl, l1, hc1⟩ := hT2.out (by omega)
      obtain ⟨y0, y1, y2, y3⟩ := hc1 k hlt
      have kF := toTalker_at (t.qa k) (t.qm k) (t.qc k) (t.sh k) (t.er k) (t.of k) (t.I k) (t.A k) (t.N k) (t.C k) (S k) wr (HQ.out k hlt) (HN.out k hlt) (hT2.fr k hlt) (fun j hj => (HYL.out k hlt j hj).below hB)
      have j0 : (0 : Int) ≤ (k : Int) := by omega
      have j1 : (k : Int) < (n : Int) := by omega
      obtain ⟨A1, C1, D1, hCf⟩ := HS.out
      have HC : Hid (TqP w.heap.size wr n k t S A1 C1 D1) := hCf
      clear hc1 HS hCf hT2
      obtain ⟨X0, e0⟩ : ∃ X, X = t.qa k := ⟨_, rfl⟩
      obtain ⟨X1, e1⟩ : ∃ X, X = t.qm k := ⟨_, rfl⟩
      obtain ⟨X2, e2⟩ : ∃ X, X = t.qc k := ⟨_, rfl⟩
      obtain ⟨X3, e3⟩ : ∃ X, X = t.sh k := ⟨_, rfl⟩
      obtain ⟨X4, e4⟩ : ∃ X, X = t.er k := ⟨_, rfl⟩
      obtain ⟨X5, e5⟩ : ∃ X, X = t.of k := ⟨_, rfl⟩
      rw [← e0, ← e1, ← e2] at y0
      rw [← e3] at y1
      rw [← e4] at y2
      rw [← e5] at y3
      rw [← e0, ← e1, ← e2, ← e3, ← e4, ← e5] at kF
      have HX1 : Hid (X1 = t.qm k ∧ X3 = t.sh k ∧ X4 = t.er k ∧ X5 = t.of k) := ⟨e1, e3, e4, e5⟩
      clear e0 e1 e2 e3 e4 e5
      go_wp2_with fail
      refine kF.mono ?_
      rintro e w5 ⟨b', rfl, hq5, hb5⟩
      have H0 := HC.out.hd.on hb5
      have hgl := H0.lt
      obtain ⟨u0, z0⟩ := H0.c (k * 4) (by omega)
      obtain ⟨u1, z1⟩ := H0.c (k * 4 + 1) (by omega)
      obtain ⟨u2, z2⟩ := H0.c (k * 4 + 2) (by omega)
      obtain ⟨u3, z3⟩ := H0.c (k * 4 + 3) (by omega)
      have f0 := H0.fz (k * 4)
      have f1 := H0.fz (k * 4 + 1)
      have f2 := H0.fz (k * 4 + 2)
      have f3 := H0.fz (k * 4 + 3)
      obtain ⟨h1, h3, h4, h5⟩ := HX1.out
      have hC6 := HC.out.app hlt hb5 (a' := some ⟨b', 0, none⟩) (c' := X1) (by rw [← h1]; exact hq5) (by rw [← h1]; exact shp_at _ _ (Nat.le_refl _))
      rw [← h1, ← h3, ← h4, ← h5] at hC6
      have HC6 : Hid (TqP w.heap.size _ n (k + 1) t S _ _ _) := hC6
      have hB6 := (((((stepA hB hb5).setCell (p := ⟨w.heap.size, k * 4, none⟩) (Nat.le_refl _) (.slice (some ⟨b', 0, none⟩) X1 X1)).setCell (p := ⟨w.heap.size, k * 4 + 1, none⟩) (Nat.le_refl _) (.int .i64 X3)).setCell (p := ⟨w.heap.size, k * 4 + 2, none⟩) (Nat.le_refl _) (.int .i64 X4)).setCell (p := ⟨w.heap.size, k * 4 + 3, none⟩) (Nat.le_refl _) (.bool X5))
      clear H0 hC6 hq5 hb5 kF y0 y1 y2 y3 hB h1 h3 h4 h5
      go_wp2
      exact ⟨⟨k + 1, by omega, by go_num, ⟨_, _, _, HC6.out⟩, hB6⟩, by simp [intOf]; omega⟩
    · have hke : k = n := by omega
      subst hke
      obtain ⟨A1, C1, D1, hCf⟩ := HS.out
      have HC : Hid (TqP w.heap.size wr k k t S A1 C1 D1) := hCf
      clear HS hCf
      go_wp2
      go_ret
      exact ⟨rfl, fun _ => ⟨_, _, _, _, rfl, HC.out.end⟩, HC.out.hd.lt, hB⟩
end Go.Proofs.Ytldagjgpapnfpaa
