/- RunBus as the model goes: what stands while it goes. -/
import Derived.Test.YtldagjgpapnfpaaQBuD
import Derived.Test.YtldagjgpapnfpaaQBuI
namespace Go.Proofs.Ytldagjgpapnfpaa
open Go.RowKit
section
variable {w w' : World} {lo hi : Nat} {a : Option Addr} {m c : Nat} {I : Nat → Int} {N : Nat → Nat} {S : Nat → Nat → Int}
/-- a slice without its first k -/
def subA (a : Option Addr) (c k : Nat) : Option Addr := if c = k then a else Option.map (fun x => x.add (k * 2)) a
theorem FrR.sub (h : FrR w lo hi a m I N S) (hs : Shp a m c) {k : Nat} (hk : k ≤ m) : FrR w lo hi (subA a c k) (m - k) (fun j => I (k + j)) (fun j => N (k + j)) (fun j => S (k + j)) ∧ Shp (subA a c k) (m - k) (c - k) := by
  obtain ⟨hc, ⟨rfl, rfl, rfl⟩ | ⟨b, o, rfl⟩⟩ := hs
  · have hk0 : k = 0 := by omega
    subst hk0
    refine ⟨⟨fun _ => none, fun _ => 0, fun h0 => absurd h0 (by omega), fun j hj => absurd hj (by omega)⟩, ?_⟩
    exact ⟨Nat.le_refl _, .inl ⟨rfl, rfl, rfl⟩⟩
  · unfold subA
    by_cases e : c = k
    · rw [if_pos e]
      exact ⟨⟨fun _ => none, fun _ => 0, fun h0 => absurd h0 (by omega), fun j hj => absurd hj (by omega)⟩, shp_at _ _ (by omega)⟩
    · rw [if_neg e, Option.map_some, Addr.add_lit]
      refine ⟨?_, shp_at _ _ (by omega)⟩
      by_cases h0 : 0 < m
      · obtain ⟨b', o', e', hF⟩ := h.drop hk h0
        cases e'
        exact hF
      · exact ⟨fun _ => none, fun _ => 0, fun h0 => absurd h0 (by omega), fun j hj => absurd hj (by omega)⟩
theorem FrR.congr {I' : Nat → Int} {N' : Nat → Nat} {S' : Nat → Nat → Int} (h : FrR w lo hi a m I N S) (e1 : I = I') (e2 : N = N') (e3 : S = S') : FrR w lo hi a m I' N' S' := by subst e1 e2 e3; exact h
end
/-- the model's own list of talkers, so far -/
structure NgP (base : Nat) (wr : World) (v : Value) (k : Nat) (t : Tks) (S : Nat → Nat → Nat → Int) (QA : Nat → Option Addr) (QC LO HI : Nat → Nat) : Prop where
  own : wr.ownsRow base 51 4 v k (tkC t QA QC k)
  q : ∀ i, i < k → FrR wr (LO i) (HI i) (QA i) (t.qm i) (t.I i) (t.N i) (S i) ∧ Shp (QA i) (t.qm i) (QC i) ∧ (base ≤ LO i ∧ HI i ≤ wr.heap.size) ∧ ∀ b, v.ownBlock = some b → b < LO i ∨ HI i ≤ b
section
variable {base : Nat} {w w' : World} {v v' : Value} {k : Nat} {t : Tks} {S : Nat → Nat → Nat → Int} {QA : Nat → Option Addr} {QC LO HI : Nat → Nat}
theorem NgP.on (h : NgP base w v k t S QA QC LO HI) (b : Below w.heap.size w w') : NgP base w' v k t S QA QC LO HI :=
  ⟨owns_on h.own b, fun i hi => ⟨(h.q i hi).1.on b, (h.q i hi).2.1, ⟨(h.q i hi).2.2.1.1, Nat.le_trans (h.q i hi).2.2.1.2 b.size⟩, (h.q i hi).2.2.2⟩⟩
theorem NgP.app {w5 w6 : World} {o : Obj} {a' : Option Addr} {c' lo hi : Nat} (h : NgP base w v k t S QA QC LO HI) (b5 : Below w.heap.size w w5) (hlo : w.heap.size ≤ lo) (hbl : base ≤ lo) (hhi : hi ≤ w5.heap.size) (hy : FrR w5 lo hi a' (t.qm k) (t.I k) (t.N k) (S k)) (hs : Shp a' (t.qm k) c')
    (ho : w6.ownsRow base 51 4 v' (k + 1) (tkC t QA QC k ++ [.slice a' (t.qm k) c', .int .i64 (t.sh k), .int .i64 (t.er k), .bool (t.of k)])) (hg : (w5.alloc o).grownBy w6 v.ownBlock) (hat : v'.ownBlock = v.ownBlock ∨ v'.ownBlock = some (w5.alloc o).heap.size) :
    NgP base w6 v' (k + 1) t S (fun i => if i = k then a' else QA i) (fun i => if i = k then c' else QC i) (fun i => if i = k then lo else LO i) (fun i => if i = k then hi else HI i) := by
  have h5 := h.on b5
  have hvl : ∀ q, v.ownBlock = some q → q < w.heap.size := fun q hq => (World.ownsRow.lt h.own q hq).2
  have hz6 := hg.size
  simp only [size_al] at hz6
  have kept : ∀ {lo' hi' : Nat} {a : Option Addr} {m : Nat} {I : Nat → Int} {N : Nat → Nat} {S : Nat → Nat → Int}, (∀ b, v.ownBlock = some b → b < lo' ∨ hi' ≤ b) → FrR w5 lo' hi' a m I N S → FrR w6 lo' hi' a m I N S := fun hne hq =>
    (hq.on ((Below.refl _ _).alloc (Nat.le_refl _) o)).of hg.size fun x hx h1 h2 => hg.block x hx (fun e => by have := hne x e.symm; omega)
  have nb : ∀ lo' hi', hi' ≤ w5.heap.size → (∀ b, v.ownBlock = some b → b < lo' ∨ hi' ≤ b) → ∀ b, v'.ownBlock = some b → b < lo' ∨ hi' ≤ b := fun lo' hi' hh hne b e => by
    rcases hat with h1 | h1
    · exact hne b (h1.symm.trans e)
    · rw [h1] at e
      have := Option.some.inj e
      simp only [size_al] at this
      omega
  have hnew : ∀ b, v.ownBlock = some b → b < lo ∨ hi ≤ b := fun b e => by have := hvl b e; omega
  refine ⟨?_, fun j hj => ?_⟩
  · rw [tkC, if_pos rfl, if_pos rfl, ← tkC_congr (QA := QA) (QC := QC) (fun i hi => by rw [if_neg (by omega)]) (fun i hi => by rw [if_neg (by omega)])]
    exact ho
  · by_cases e : j = k
    · subst e
      simp only [if_true]
      exact ⟨kept hnew hy, hs, ⟨hbl, by omega⟩, nb lo hi hhi hnew⟩
    · simp only [if_neg e]
      obtain ⟨h1, h2, h3, h4⟩ := h5.q j (by omega)
      exact ⟨kept h4 h1, h2, ⟨h3.1, by omega⟩, nb _ _ h3.2 h4⟩
end
/-- the talkers while the model's rounds go: their cells in block g; what their queues tell is as it was in wM -/
structure NwP (wM wr : World) (g n : Nat) (va : Option Addr) (t : Tks) (S : Nat → Nat → Nat → Int) (LF : Nat → Nat) (EC : Nat → Int) (OF : Nat → Bool) (LO HI : Nat → Nat) : Prop where
  va : 0 < n → va = some ⟨g, 0, none⟩
  lt : 0 < n → g < wM.heap.size
  c : ∀ i, i < n → ∃ a c, wr.cell? ⟨g, i * 4, none⟩ = some (.slice a (t.qm i - LF i) c) ∧ wr.cell? ⟨g, i * 4 + 1, none⟩ = some (.int .i64 (t.sh i)) ∧ wr.cell? ⟨g, i * 4 + 2, none⟩ = some (.int .i64 (EC i)) ∧ wr.cell? ⟨g, i * 4 + 3, none⟩ = some (.bool (OF i)) ∧ Shp a (t.qm i - LF i) c ∧
    FrR wM (LO i) (HI i) a (t.qm i - LF i) (fun j => t.I i (LF i + j)) (fun j => t.N i (LF i + j)) (nwS S LF i)
  fz : 0 < n → ∀ j, wr.frozen? ⟨g, j, none⟩ = false
  ap : ∀ i, i < n → (HI i ≤ g ∨ g < LO i) ∧ HI i ≤ wM.heap.size
  tr : Turns g (g + 1) wM wr
section
variable {wM w w' : World} {g n : Nat} {va : Option Addr} {t : Tks} {S : Nat → Nat → Nat → Int} {LF : Nat → Nat} {EC : Nat → Int} {OF : Nat → Bool} {LO HI : Nat → Nat}
theorem NwP.low (h : NwP wM w g n va t S LF EC OF LO HI) (k : Below wM.heap.size w w') : NwP wM w' g n va t S LF EC OF LO HI := by
  refine ⟨h.va, h.lt, fun i hi => ?_, fun h0 j => ?_, h.ap, ?_⟩
  · obtain ⟨a, c, c0, c1, c2, c3, r⟩ := h.c i hi
    have hl := h.lt (by omega)
    exact ⟨a, c, (k.cell (p := ⟨g, _, none⟩) hl).trans c0, (k.cell (p := ⟨g, _, none⟩) hl).trans c1, (k.cell (p := ⟨g, _, none⟩) hl).trans c2, (k.cell (p := ⟨g, _, none⟩) hl).trans c3, r⟩
  · exact (k.frozen (p := ⟨g, j, none⟩) (h.lt h0)).trans (h.fz h0 j)
  · exact ⟨k.os.trans h.tr.os, k.tape.trans h.tr.tape, k.output.trans h.tr.output, Nat.le_trans h.tr.size k.size, fun x h1 h2 => (k.block x h1).trans (h.tr.block x h1 h2)⟩
theorem NwP.on (h : NwP wM w g n va t S LF EC OF LO HI) (k : Below w.heap.size w w') : NwP wM w' g n va t S LF EC OF LO HI := h.low (k.mono h.tr.size)
/-- the first frame of who has one -/
theorem NwP.first (h : NwP wM w g n va t S LF EC OF LO HI) {i : Nat} (hi : i < n) (hl : LF i < t.qm i) : ∃ b o c, w.cell? ⟨g, i * 4, none⟩ = some (.slice (some ⟨b, o, none⟩) (t.qm i - LF i) c) ∧ b < w.heap.size ∧ w.cell? ⟨b, o, none⟩ = some (.int .i64 (t.I i (LF i))) := by
  obtain ⟨a, c, c0, _, _, _, _, hF⟩ := h.c i hi
  obtain ⟨A, C, h1, _⟩ := hF.turns h.tr (by have := (h.ap i hi).1; omega)
  obtain ⟨b, o, rfl, _, _, h5, hc⟩ := h1 (by omega)
  have := (hc 0 (by omega)).1
  simp only [Nat.zero_mul, Nat.add_zero] at this
  exact ⟨b, o, c, c0, h5, this⟩
theorem turns_set (h : Turns g (g + 1) wM w) (j : Nat) (v : Value) : Turns g (g + 1) wM (w.setCell ⟨g, j, none⟩ v) :=
  h.trans (OnlyIn.of ((Only.refl g w).set j v) (Nat.le_refl _) (Nat.lt_succ_self _)).turns
theorem cell_put {w : World} {g j : Nat} {u v : Value} (h : w.cell? ⟨g, j, none⟩ = some u) : (w.setCell ⟨g, j, none⟩ v).cell? ⟨g, j, none⟩ = some v := World.cell?_setCell_same _ _ _ h
theorem cell_oth {w : World} {g j k : Nat} {v : Value} (h : k ≠ j) : (w.setCell ⟨g, j, none⟩ v).cell? ⟨g, k, none⟩ = w.cell? ⟨g, k, none⟩ := World.cell?_setCell_other _ _ _ _ (by first | (simp; done) | (simp; omega))
/-- one's errors anew -/
theorem NwP.s2 (h : NwP wM w g n va t S LF EC OF LO HI) {i : Nat} (hi : i < n) (x : Int) : NwP wM (w.setCell ⟨g, i * 4 + 2, none⟩ (.int .i64 x)) g n va t S LF (fun j => if j = i then x else EC j) OF LO HI := by
  refine ⟨h.va, h.lt, fun j hj => ?_, fun h0 j => by simpa using h.fz h0 j, h.ap, turns_set h.tr _ _⟩
  obtain ⟨a, c, c0, c1, c2, c3, r⟩ := h.c j hj
  refine ⟨a, c, (cell_oth (by omega)).trans c0, (cell_oth (by omega)).trans c1, ?_, (cell_oth (by omega)).trans c3, r⟩
  by_cases e : j = i
  · subst e; rw [if_pos rfl]; exact cell_put c2
  · rw [if_neg e]; exact (cell_oth (by omega)).trans c2
/-- one is off -/
theorem NwP.s3 (h : NwP wM w g n va t S LF EC OF LO HI) {i : Nat} (hi : i < n) (x : Bool) : NwP wM (w.setCell ⟨g, i * 4 + 3, none⟩ (.bool x)) g n va t S LF EC (fun j => if j = i then x else OF j) LO HI := by
  refine ⟨h.va, h.lt, fun j hj => ?_, fun h0 j => by simpa using h.fz h0 j, h.ap, turns_set h.tr _ _⟩
  obtain ⟨a, c, c0, c1, c2, c3, r⟩ := h.c j hj
  refine ⟨a, c, (cell_oth (by omega)).trans c0, (cell_oth (by omega)).trans c1, (cell_oth (by omega)).trans c2, ?_, r⟩
  by_cases e : j = i
  · subst e; rw [if_pos rfl]; exact cell_put c3
  · rw [if_neg e]; exact (cell_oth (by omega)).trans c3
/-- one's first frame leaves -/
theorem NwP.s0 (h : NwP wM w g n va t S LF EC OF LO HI) {i : Nat} (hi : i < n) (hl : LF i < t.qm i) {a : Option Addr} {c : Nat} (hc : w.cell? ⟨g, i * 4, none⟩ = some (.slice a (t.qm i - LF i) c)) : NwP wM (w.setCell ⟨g, i * 4, none⟩ (.slice (subA a c 1) (t.qm i - LF i - 1) (c - 1))) g n va t S (fun j => if j = i then LF j + 1 else LF j) EC OF LO HI := by
  refine ⟨h.va, h.lt, fun j hj => ?_, fun h0 j => by simpa using h.fz h0 j, h.ap, turns_set h.tr _ _⟩
  obtain ⟨a', c', c0, c1, c2, c3, hs, hF⟩ := h.c j hj
  by_cases e : j = i
  · subst e
    rw [c0] at hc
    cases hc
    have hsub := hF.sub hs (k := 1) (by omega)
    refine ⟨subA a c 1, c - 1, ?_, (cell_oth (by omega)).trans c1, (cell_oth (by omega)).trans c2, (cell_oth (by omega)).trans c3, ?_, ?_⟩
    · rw [if_pos rfl, show t.qm j - (LF j + 1) = t.qm j - LF j - 1 by omega]; exact cell_put c0
    · rw [if_pos rfl, show t.qm j - (LF j + 1) = t.qm j - LF j - 1 by omega]; exact hsub.2
    · simp only [if_true]
      rw [show t.qm j - (LF j + 1) = t.qm j - LF j - 1 by omega]
      refine hsub.1.congr ?_ ?_ ?_
      · funext q; rw [show LF j + (1 + q) = LF j + 1 + q by omega]
      · funext q; rw [show LF j + (1 + q) = LF j + 1 + q by omega]
      · funext q; unfold nwS; simp only [if_true]; rw [show LF j + (1 + q) = LF j + 1 + q by omega]
  · refine ⟨a', c', ?_, (cell_oth (by omega)).trans c1, (cell_oth (by omega)).trans c2, (cell_oth (by omega)).trans c3, ?_, ?_⟩
    · rw [if_neg e]; exact (cell_oth (by omega)).trans c0
    · rw [if_neg e]; exact hs
    · simp only [if_neg e]
      refine hF.congr rfl rfl ?_
      funext q; unfold nwS; simp only [if_neg e]
theorem NwP.congr (h : NwP wM w g n va t S LF EC OF LO HI) {LF' : Nat → Nat} {EC' : Nat → Int} {OF' : Nat → Bool} (e1 : ∀ i, LF i = LF' i) (e2 : ∀ i, i < n → EC i = EC' i) (e3 : ∀ i, i < n → OF i = OF' i) : NwP wM w g n va t S LF' EC' OF' LO HI := by
  obtain rfl : LF = LF' := funext e1
  refine ⟨h.va, h.lt, fun i hi => ?_, h.fz, h.ap, h.tr⟩
  rw [← e2 i hi, ← e3 i hi]
  exact h.c i hi
end
/-- a good talker is off just with 255 errors -/
theorem tg_off {t : Tks} {n : Nat} (h : tksB t n = true) (i : Nat) (hi : i < n) : t.of i = (t.er i == 255) := by
  have hg : tgB t i = true := by
    cases e : tgB t i with
    | true => rfl
    | false => rw [tksB_no hi e] at h; cases h
  unfold tgB at hg
  by_cases hc : t.qm i ≤ 8 ∧ 1 ≤ t.sh i ∧ t.sh i ≤ 10 ∧ 0 ≤ t.er i ∧ t.er i ≤ 255
  · rw [tkB_in hc] at hg
    simp only [Bool.and_eq_true, beq_iff_eq] at hg
    exact hg.2
  · rw [tkB_no hc] at hg; cases hg
theorem NgP.nw {base : Nat} {w : World} {va : Option Addr} {n c g : Nat} {t : Tks} {S : Nat → Nat → Nat → Int} {QA : Nat → Option Addr} {QC LO HI : Nat → Nat} (h : NgP base w (.slice va n c) n t S QA QC LO HI) (hg : 0 < n → va = some ⟨g, 0, none⟩) (ho : tksB t n = true) :
    NwP w w g n va t S (fun _ => 0) t.er (fun i => t.er i == 255) LO HI := by
  have hb : 0 < n → g < w.heap.size := fun h0 => (World.ownsRow.lt h.own g (by rw [hg h0]; rfl)).2
  have ho' := h.own
  have hv : 0 < n → ∃ cur, w.heap[g]? = some (.cells cur 51 (0, 0)) := fun h0 => by
    obtain ⟨_, ⟨_, h1⟩ | ⟨g', cap, cur, h1, _, h3, _⟩⟩ := h.own
    · omega
    · rw [hg h0] at h1; cases h1; exact ⟨cur, h3⟩
  refine ⟨hg, hb, fun i hi => ?_, fun h0 j => ?_, fun i hi => ?_, turns_of (Below.refl _ _)⟩
  · have h0 : 0 < n := by omega
    have hva := hg h0
    rw [hva] at ho'
    have hl := tkC_len (t := t) (QA := QA) (QC := QC) n
    have hc := tkC_get (t := t) (QA := QA) (QC := QC) hi
    obtain ⟨q1, q2, q3, q4⟩ := h.q i hi
    refine ⟨QA i, QC i, (World.ownsRow.cellAt ho' _ (by omega)).trans hc.1, (World.ownsRow.cellAt ho' _ (by omega)).trans hc.2.1, (World.ownsRow.cellAt ho' _ (by omega)).trans hc.2.2.1, ?_, q2, ?_⟩
    · rw [← tg_off ho i hi]; exact (World.ownsRow.cellAt ho' _ (by omega)).trans hc.2.2.2
    · exact q1.congr (by funext j; rw [Nat.zero_add]) (by funext j; rw [Nat.zero_add]) (by funext j; unfold nwS; rw [Nat.zero_add])
  · have hva := hg h0
    rw [hva] at ho'
    exact World.ownsRow.frozenAt ho' j
  · obtain ⟨q1, q2, q3, q4⟩ := h.q i hi
    have := q4 g (by rw [hg (by omega)]; rfl)
    exact ⟨by omega, q3.2⟩
theorem snE_good {e : Int} (h : 0 ≤ e ∧ e ≤ 255) : snE true e = if 0 < e then e - 1 else e := by
  unfold snE btI
  rw [if_pos rfl]
  split <;> (try split) <;> (try split) <;> omega
theorem snE_bad {e : Int} (h : 0 ≤ e ∧ e ≤ 255) : snE false e = if 255 ≤ e + 8 then 255 else e + 8 := by
  unfold snE btI
  rw [if_neg (by simp)]
  split <;> (try split) <;> (try split) <;> omega
end Go.Proofs.Ytldagjgpapnfpaa
