/- The first opening is taken out of the heap. -/
import Derived.Test.YtfciecoigfnnhaaQWyPutI
import Derived.Test.YtfciecoigfnnhaaQWyFst
namespace Go.Proofs.Ytfciecoigfnnhaa
open Go.RowKit

/-- an opening is stored at the head of a block -/
abbrev st30 (w : World) (g : Nat) (x : Og) : World := ((w.setCell ⟨g, 0, none⟩ (.int .i64 x.p)).setCell ⟨g, 1, none⟩ (.int .i64 x.a)).setCell ⟨g, 2, none⟩ (.int .i64 x.b)
theorem st3_zero (w : World) (g : Nat) (x : Og) : st3 w g 0 x = st30 w g x := by simp [st3, st30]
abbrev ovL (x : Og) : List Value := [.int .i64 x.p, .int .i64 x.a, .int .i64 x.b]
/-- what is behind the change of the first one -/
def CutK (w wx : World) (base Sb m g cap : Nat) (E : Nat → Og) (s : Value) : Prop :=
  s = .pointer (some ⟨Sb, 5, none⟩) ∧ wx.cell? ⟨Sb, 5, none⟩ = some (.slice (some ⟨g, 0, none⟩) (m + 1) cap) ∧ wx.frozen? ⟨Sb, 5, none⟩ = false ∧ OwO wx base (.slice (some ⟨g, 0, none⟩) (m + 1) cap) (m + 1) (ptO E 0 (E m)) ∧ Bx wx w.heap.size (ovL ⟨0, 0, 0⟩) ∧ Bx wx (w.heap.size + 1) (ovL (E 0)) ∧ Ht base Sb w wx ∧ Hq Sb w wx
theorem Bx.heap {w w' : World} {b : Nat} {vs : List Value} (h : Bx w b vs) (e : w'.heap[b]? = w.heap[b]?) (hs : w.heap.size ≤ w'.heap.size) : Bx w' b vs :=
  ⟨Nat.lt_of_lt_of_le h.lt hs, fun i hi => (cell_same e i).trans (h.c i hi), fun j => (frozen_same e j).trans (h.fz j)⟩
theorem bx_drew {w : World} {b : Nat} {vs : List Value} (h : Bx w b vs) : Bx w.drew b vs := ⟨h.lt, h.c, h.fz⟩
theorem bx_st30 {w : World} {g : Nat} {u v t : Value} (h : Bx w g [u, v, t]) (x : Og) : Bx (st30 w g x) g (ovL x) := ((h.set 0 (by simp) _).set 1 (by simp) _).set 2 (by simp) _
theorem bx_st30_far {w : World} {b g : Nat} {vs : List Value} (h : Bx w b vs) (hn : b ≠ g) (x : Og) : Bx (st30 w g x) b vs := ((h.far _ hn).far _ hn).far _ hn
theorem st30_other (w : World) (g k : Nat) (x : Og) (h : k ≠ g) : (st30 w g x).heap[k]? = w.heap[k]? := by rw [← st3_zero]; exact st3_other w g 0 k x h
theorem st30_size (w : World) (g : Nat) (x : Og) : (st30 w g x).heap.size = w.heap.size := by simp
theorem Hq.drew {Sb : Nat} {w w' : World} (h : Hq Sb w w') : Hq Sb w w'.drew := ⟨h.keep, h.own⟩
theorem hq_st30 {Sb b : Nat} {w w' : World} (h : Hq Sb w w') (hb : w.heap.size ≤ b) (hs : Sb < w.heap.size) (x : Og) : Hq Sb w (st30 w' b x) := by
  have e := st30_other w' b Sb x (by omega)
  refine ⟨fun k h1 h2 h3 => (st30_other w' b k x (by omega)).trans (h.keep k h1 h2 h3), ?_⟩
  rw [hO_same (w := w') (w' := st30 w' b x) (cell_same e 5)]
  exact h.own
theorem CutK.drew {w wx : World} {base Sb m g cap : Nat} {E : Nat → Og} {s : Value} (h : CutK w wx base Sb m g cap E s) : CutK w wx.drew base Sb m g cap E s := by
  obtain ⟨h1, h2, h3, h4, h5, h6, h7, h8⟩ := h
  exact ⟨h1, h2, h3, h4.below (Below.refl _ _).drew, bx_drew h5, bx_drew h6, h7.drew, h8.drew⟩
theorem cutK_mk {w w1 : World} {base Sb m g cap : Nat} {E : Nat → Og} (hsb : Sb < base) (hle : base ≤ w.heap.size) (hg0 : base ≤ g) (hgl : g < w.heap.size) (hB : Below w.heap.size w w1) (c5 : w1.cell? ⟨Sb, 5, none⟩ = some (.slice (some ⟨g, 0, none⟩) (m + 1) cap)) (f5 : w1.frozen? ⟨Sb, 5, none⟩ = false)
    (hO : OwO w1 base (.slice (some ⟨g, 0, none⟩) (m + 1) cap) (m + 1) E) (bR : Bx w1 w.heap.size (ovL ⟨0, 0, 0⟩)) (bF : Bx w1 (w.heap.size + 1) (ovL ⟨0, 0, 0⟩)) :
    CutK w (st30 (st30 w1 (w.heap.size + 1) (E 0)) g (E m)).drew base Sb m g cap E (.pointer (some ⟨Sb, 5, none⟩)) := by
  apply CutK.drew
  have e1 : ∀ k, k ≠ g → k ≠ w.heap.size + 1 → (st30 (st30 w1 (w.heap.size + 1) (E 0)) g (E m)).heap[k]? = w1.heap[k]? := fun k h1 h2 => by rw [st30_other _ _ _ _ h1, st30_other _ _ _ _ h2]
  have eS := e1 Sb (by omega) (by omega)
  have hO1 : OwO (st30 w1 (w.heap.size + 1) (E 0)) base (.slice (some ⟨g, 0, none⟩) (m + 1) cap) (m + 1) E := by
    obtain ⟨hl, h⟩ := hO
    refine ⟨hl, ?_⟩
    rcases h with h | ⟨g', cap', cur, h1, h2, h3, h4⟩
    · exact .inl h
    · have hgg : g' = g := by cases h1; rfl
      exact .inr ⟨g', cap', cur, h1, h2, (st30_other _ _ _ _ (by omega)).trans h3, h4⟩
  have hO2 := OwO.set hO1 0 (E m)
  have hO3 : OwO (st30 (st30 w1 (w.heap.size + 1) (E 0)) g (E m)) base (.slice (some ⟨g, 0, none⟩) (m + 1) cap) (m + 1) (ptO E 0 (E m)) := by rw [← st3_zero]; exact hO2
  refine ⟨rfl, (cell_same eS 5).trans c5, (frozen_same eS 5).trans f5, hO3, bx_st30_far (bx_st30_far bR (by omega) _) (by omega) _, bx_st30_far (bx_st30 bF _) (by omega) _, ?_, ?_⟩
  · exact ((((((ht_below hB hle hsb).set (by omega) hsb _).set (by omega) hsb _).set (by omega) hsb _).set hg0 hsb _).set hg0 hsb _).set hg0 hsb _
  · have cw : w1.cell? ⟨Sb, 5, none⟩ = w.cell? ⟨Sb, 5, none⟩ := hB.cell (p := ⟨Sb, 5, none⟩) (by simp; omega)
    exact hq_row (cw.symm.trans c5) ((cell_same eS 5).trans cw) fun k h1 h2 => (e1 k h2 (by omega)).trans (hB.block k h1)
theorem sliceH (g m cap : Nat) (h : m + 1 ≤ cap) (w : World) : (Instr.sliceAt 79 (.slice (some ⟨g, 0, none⟩) (m + 1) cap) none (some (.int .i64 (m : Int))) none).run Try.prog w = .ok (.slice (some ⟨g, 0, none⟩) m cap) w := by
  have he : Try.prog.elem 79 = 117 := by kernel_rfl
  have hu : Try.prog.underlying 79 = some (.slice (Try.prog.elem 79)) := by rw [he]; exact Try.underlying79
  rw [run_sliceAt_slice (h := hu), run_slice_h (ht := hu) (h0 := by omega) (h2 := by omega)]
  have hsz : (sizeOf (Try.prog.elem 79)).run Try.prog w = .ok 3 w := by kernel_rfl
  rw [hsz]
  have hc : ¬ cap = 0 := by omega
  simp [Result.andThen, sliced, Addr.add, hc]
theorem ret_og_tmp {fn : Func} {t t2 : Tmp} {R : Ending → World → Prop} {a : Act} {w : World} {b : Nat} {x : Og} (h : fn.results = #[.cell t 117, .tmp t2]) (hp : a.tmps.getD t undef = .pointer (some ⟨b, 0, none⟩)) (c : Bx w b (ovL x)) (hd : a.defers = [])
    (hR : R (.returned (.tuple #[ov x, a.tmps.getD t2 undef])) w) : bodyPost Try.prog fn R .ret a w := by
  refine bodyPost_ret ?_ hd hR
  rw [results_cell_tmp h, hp]
  simp [asAddr, loadVar, go_sem, c.c0, c.c1, c.c2]
theorem tk_mem {m : Nat} {E : Nat → Og} (y : Og) : (MemO m (ptO E 0 (E m)) y → MemO (m + 1) E y) ∧ (MemO (m + 1) E y → y = E 0 ∨ MemO m (ptO E 0 (E m)) y) := by
  constructor
  · rintro ⟨k, hk, e⟩
    by_cases e1 : k = 0
    · subst e1; rw [ptO_i] at e; exact ⟨m, by omega, e⟩
    · rw [ptO_o E _ e1] at e; exact ⟨k, by omega, e⟩
  · rintro ⟨k, hk, e⟩
    by_cases e1 : k = 0
    · subst e1; exact .inl e.symm
    · by_cases e2 : k = m
      · subst e2
        exact .inr ⟨0, by omega, by rw [ptO_i]; exact e⟩
      · exact .inr ⟨k, by omega, by rw [ptO_o E _ e1]; exact e⟩

set_option maxHeartbeats 1000000 in
theorem take_none (base Sb : Nat) (E : Nat → Og) (w : World) (h : Hs w base Sb 0 E) :
    Calls Try.prog 79 #[.pointer (some ⟨Sb, 5, none⟩)] w fun e w' => e = .returned (.tuple #[ov ⟨0, 0, 0⟩, .bool false]) ∧ Below w.heap.size w w' := by
  have hb0 : Below w.heap.size w ((w.alloc (.cells #[.int .i64 0, .int .i64 0, .int .i64 0] 117)).alloc (.cells #[.int .i64 0, .int .i64 0, .int .i64 0] 117)) := ((Below.refl _ _).alloc (Nat.le_refl _) _).alloc (by simp) _
  have bR := (bx_new (w := w) (ovL ⟨0, 0, 0⟩) 117 rfl).alloc (.cells #[.int .i64 0, .int .i64 0, .int .i64 0] 117)
  have bF := bx_new (w := w.alloc (.cells #[.int .i64 0, .int .i64 0, .int .i64 0] 117)) (b := w.heap.size + 1) (ovL ⟨0, 0, 0⟩) 117 (by simp)
  have H1 := h.on hb0
  go_enter Try.func79, Try.ntmps79
  go_upto_region 2 with fail
  generalize (w.alloc (.cells #[.int .i64 0, .int .i64 0, .int .i64 0] 117)).alloc (.cells #[.int .i64 0, .int .i64 0, .int .i64 0] 117) = w1 at hb0 bR bF H1 ⊢
  obtain ⟨v, c5, hO⟩ := H1.v
  obtain ⟨va, vc, rfl⟩ := hO.shape
  have x0 := bF.c0
  have x1 := bF.c1
  have x2 := bF.c2
  have s0 := bR.c0
  have s1 := bR.c1
  have s2 := bR.c2
  have f0 := bR.fz 0
  have f1 := bR.fz 1
  have f2 := bR.fz 2
  have LR := bR.lt
  have bE := bx_st30 bR ⟨0, 0, 0⟩
  have hBE := ((hb0.setCell (p := ⟨w.heap.size, 0, none⟩) (Nat.le_refl _) (.int .i64 0)).setCell (p := ⟨w.heap.size, 1, none⟩) (Nat.le_refl _) (.int .i64 0)).setCell (p := ⟨w.heap.size, 2, none⟩) (Nat.le_refl _) (.int .i64 0)
  clear hO H1 h bF
  go_wp2
  refine ret_og_tmp Try.results79 rfl bE rfl ?_
  exact ⟨rfl, hBE⟩
end Go.Proofs.Ytfciecoigfnnhaa
