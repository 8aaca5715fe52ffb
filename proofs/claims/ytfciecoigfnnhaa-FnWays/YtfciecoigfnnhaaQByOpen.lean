/- What FnWays draws: the cells and the ends, the stroll; the law at every argument. -/
import Derived.Test.YtfciecoigfnnhaaQWyEnds
import Derived.Test.YtfciecoigfnnhaaQWyStroll
import Derived.Test.YtfciecoigfnnhaaQWyFnW
import Derived.Test.YtfciecoigfnnhaaQInCore
import Derived.ProofKit
import Derived.OpenShut
import Derived.ChangeOld
import Derived.Below
import Derived.Deep.Slices
namespace Go.Proofs.Ytfciecoigfnnhaa
open Go.RowKit

set_option maxRecDepth 20000 in
set_option maxHeartbeats 4000000 in
theorem drawShort (a : Option Addr) (len cap : Nat) (w : World) (hl : len ≤ 1048576) (hb : 0 < len → ∃ b off, a = some ⟨b, off, none⟩ ∧ b < w.heap.size ∧ ∀ i, i < len → ∃ v : Int, w.cell? ⟨b, off + i, none⟩ = some (.int .u8 v) ∧ 0 ≤ v ∧ v ≤ 255) :
    Calls Try.prog 9 #[.slice a len cap] w fun e w' => (∃ W q n c f x y, e = .returned (.tuple #[cel W q n c, .int .i64 x, .int .i64 y]) ∧ n ≤ 1048576 ∧ IL w' q n f) ∧ Below w.heap.size w w' := by
  have hb0 : Below w.heap.size w (w.alloc (celO 0 none 0 0 25)) := (Below.refl _ _).alloc (Nat.le_refl _) _
  have r0 := bx_new (w := w) (celL 0 none 0 0) 25 rfl
  have hb' : 0 < len → ∃ b off, a = some ⟨b, off, none⟩ ∧ b < (w.alloc (celO 0 none 0 0 25)).heap.size ∧ ∀ i, i < len → ∃ v : Int, (w.alloc (celO 0 none 0 0 25)).cell? ⟨b, off + i, none⟩ = some (.int .u8 v) ∧ 0 ≤ v ∧ v ≤ 255 := fun h0 => by
    obtain ⟨b, off, ha, hbw, hc⟩ := hb h0
    refine ⟨b, off, ha, by rw [size_al]; omega, fun i hi => ?_⟩
    obtain ⟨v, hv, hv1⟩ := hc i hi
    exact ⟨v, (hb0.cell (p := ⟨b, _, none⟩) hbw).trans hv, hv1⟩
  have hc0 := cur_new (w.alloc (celO 0 none 0 0 25)) a len cap hl hb'
  have hbC : Below (w.alloc (celO 0 none 0 0 25)).heap.size (w.alloc (celO 0 none 0 0 25)) ((w.alloc (celO 0 none 0 0 25)).alloc (.cells #[.slice a len cap, .int .i64 0, .int .u64 0] 67)) := (Below.refl _ _).alloc (Nat.le_refl _) _
  have rc := r0.on hbC
  have hBc := stepA hb0 hbC
  rw [size_al] at hc0
  clear hb hb' hb0 r0 hbC
  go_enter Try.func9, Try.ntmps9
  go_wp2_with fail
  refine (ends_any (w.heap.size + 1) a len cap 0 _ hc0 (by omega)).mono ?_
  rintro e w1 ⟨⟨W, q, N, c, F, x, y, rfl, hN, hQ⟩, hT1⟩
  have r1 := rc.turns hT1 (.inl (by omega))
  have hB1 := hBc.trans (hT1.below (B := w.heap.size) (by omega) (by simp; omega))
  have y0 := r1.c0
  have y1 := r1.c1
  have f0 := r1.fz 0
  have f1 := r1.fz 1
  have l1 := r1.lt
  have bE := (r1.set 0 (by simp) (.int .i64 W)).set 1 (by simp) (.slice q N c)
  have hBE : Below w.heap.size w1 ((w1.setCell ⟨w.heap.size, 0, none⟩ (.int .i64 W)).setCell ⟨w.heap.size, 1, none⟩ (.slice q N c)) := ((Below.refl _ _).setCell (p := ⟨w.heap.size, 0, none⟩) (by simp) _).setCell (p := ⟨w.heap.size, 1, none⟩) (by simp) _
  have hQ1 := (lq_set (lq_set hQ (b := w.heap.size) (k := 0) (.int .i64 W) (.inl (by omega))) (b := w.heap.size) (k := 1) (.slice q N c) (.inl (by omega))).il
  clear hc0 rc hT1 r1 hQ hBc
  go_wp2_with fail
  refine ret_en Try.results9 rfl bE.c0 bE.c1 rfl ?_
  exact ⟨⟨W, q, N, c, F, x, y, rfl, by omega, hQ1⟩, hB1.trans hBE⟩

set_option maxRecDepth 20000 in
set_option maxHeartbeats 4000000 in
theorem strolled (a : Option Addr) (len cap : Nat) (W : Int) (q : Option Addr) (N d : Nat) (f : Nat → Int) (w : World) (hl : len ≤ 1048576) (hb : 0 < len → ∃ b off, a = some ⟨b, off, none⟩ ∧ b < w.heap.size ∧ ∀ i, i < len → ∃ v : Int, w.cell? ⟨b, off + i, none⟩ = some (.int .u8 v) ∧ 0 ≤ v ∧ v ≤ 255) (hN : N ≤ 1048576) (hf : IL w q N f) :
    Calls Try.prog 10 #[.slice a len cap, cel W q N d] w fun e w' => AnsSt w' e ∧ Below w.heap.size w w' := by
  have hb0 : Below w.heap.size w (w.alloc (celO W q N d 25)) := (Below.refl _ _).alloc (Nat.le_refl _) _
  have r0 := bx_new (w := w) (celL W q N d) 25 rfl
  have hb' : 0 < len → ∃ b off, a = some ⟨b, off, none⟩ ∧ b < (w.alloc (celO W q N d 25)).heap.size ∧ ∀ i, i < len → ∃ v : Int, (w.alloc (celO W q N d 25)).cell? ⟨b, off + i, none⟩ = some (.int .u8 v) ∧ 0 ≤ v ∧ v ≤ 255 := fun h0 => by
    obtain ⟨b, off, ha, hbw, hc⟩ := hb h0
    refine ⟨b, off, ha, by rw [size_al]; omega, fun i hi => ?_⟩
    obtain ⟨v, hv, hv1⟩ := hc i hi
    exact ⟨v, (hb0.cell (p := ⟨b, _, none⟩) hbw).trans hv, hv1⟩
  have hc0 := cur_new (w.alloc (celO W q N d 25)) a len cap hl hb'
  have hbC : Below (w.alloc (celO W q N d 25)).heap.size (w.alloc (celO W q N d 25)) ((w.alloc (celO W q N d 25)).alloc (.cells #[.slice a len cap, .int .i64 0, .int .u64 0] 67)) := (Below.refl _ _).alloc (Nat.le_refl _) _
  have rc := r0.on hbC
  have hBc := stepA hb0 hbC
  have hf2 := hf.below hBc
  have hq : 0 < N → ∃ x o, q = some ⟨x, o, none⟩ ∧ x < w.heap.size + 1 := fun h0 => by
    obtain ⟨x, o, e, hx, _⟩ := hf h0
    exact ⟨x, o, e, by omega⟩
  have y0 := rc.c0
  have y1 := rc.c1
  rw [size_al] at hc0
  clear hb hb' hb0 r0 hbC hf
  go_enter Try.func10, Try.ntmps10
  go_wp2_with fail
  refine (stroll_any (w.heap.size + 1) a len cap 0 W q N d f _ hc0 (by omega) hN hf2 hq).mono ?_
  rintro e w1 ⟨⟨b, m, d', g, rfl, hm, hmd, hg⟩, hT1⟩
  have hB1 := hBc.trans (hT1.below (B := w.heap.size) (by omega) (by simp; omega))
  clear hc0 rc hT1 hf2 hq y0 y1 hBc
  go_wp2_with fail
  go_ret
  exact ⟨⟨b, m, d', g, rfl, hm, hmd, hg⟩, hB1⟩
end Go.Proofs.Ytfciecoigfnnhaa

/- FnWays at every argument. -/
namespace Go.Proofs.Ytfciecoigfnnhaa
open Go.RowKit

set_option maxRecDepth 20000 in
theorem waysLong1 (b1 b2 : Option Addr) (m1 d1 m2 d2 : Nat) (w : World) (h1 : 1048576 < m1) (l1 : m1 ≤ 9223372036854775807) :
    Calls Try.prog 3 #[.slice b1 m1 d1, .slice b2 m2 d2] w fun e w' => e = .returned (.bool true) ∧ Below w.heap.size w w' := by
  have j1 : (1048576 : Int) < (m1 : Int) := by omega
  go_enter Try.func3, Try.ntmps3
  go_wp2_with fail
  go_ret
  exact ⟨rfl, Below.refl _ _⟩
set_option maxRecDepth 20000 in
theorem waysLong2 (b1 b2 : Option Addr) (m1 d1 m2 d2 : Nat) (w : World) (h1 : m1 ≤ 1048576) (h2 : 1048576 < m2) (l2 : m2 ≤ 9223372036854775807) :
    Calls Try.prog 3 #[.slice b1 m1 d1, .slice b2 m2 d2] w fun e w' => e = .returned (.bool true) ∧ Below w.heap.size w w' := by
  have j1 : ¬ (1048576 : Int) < (m1 : Int) := by omega
  have j2 : (1048576 : Int) < (m2 : Int) := by omega
  go_enter Try.func3, Try.ntmps3
  go_wp2_with fail
  go_ret
  exact ⟨rfl, Below.refl _ _⟩
theorem waysAll (b1 b2 : Option Addr) (m1 d1 m2 d2 : Nat) (w : World) (l1 : m1 ≤ 9223372036854775807) (l2 : m2 ≤ 9223372036854775807)
    (hb1 : 0 < m1 → ∃ b off, b1 = some ⟨b, off, none⟩ ∧ b < w.heap.size ∧ ∀ i, i < m1 → ∃ v : Int, w.cell? ⟨b, off + i, none⟩ = some (.int .u8 v) ∧ 0 ≤ v ∧ v ≤ 255)
    (hb2 : 0 < m2 → ∃ b off, b2 = some ⟨b, off, none⟩ ∧ b < w.heap.size ∧ ∀ i, i < m2 → ∃ v : Int, w.cell? ⟨b, off + i, none⟩ = some (.int .u8 v) ∧ 0 ≤ v ∧ v ≤ 255) :
    Calls Try.prog 3 #[.slice b1 m1 d1, .slice b2 m2 d2] w fun e w' => e = .returned (.bool true) ∧ Below w.heap.size w w' := by
  by_cases h1 : m1 ≤ 1048576
  · by_cases h2 : m2 ≤ 1048576
    · refine waysLaw b1 b2 m1 d1 m2 d2 w h1 h2 (drawShort b1 m1 d1 w h1 hb1) (fun W q n c f w' hB hn hf => ?_)
      refine strolled b2 m2 d2 W q n c f w' h2 (fun h0 => ?_) hn hf
      obtain ⟨b, off, e, hl, hc⟩ := hb2 h0
      refine ⟨b, off, e, Nat.lt_of_lt_of_le hl hB.size, fun i hi => ?_⟩
      obtain ⟨v, hv, hv1⟩ := hc i hi
      exact ⟨v, (hB.cell (p := ⟨b, _, none⟩) hl).trans hv, hv1⟩
    · exact waysLong2 b1 b2 m1 d1 m2 d2 w h1 (by omega) l2
  · exact waysLong1 b1 b2 m1 d1 m2 d2 w (by omega) l1
end Go.Proofs.Ytfciecoigfnnhaa

/- How a slice of bytes that came in is opened. -/
namespace Go.Proofs.Ytfciecoigfnnhaa
open Go.ChangeShapes Go.WideShapes Go.ChangeAt Go.RowKit Go.Deep

section
variable {H : Type} {enc : TypeId × Value → H} {P : Program} {w : World} {base : Nat} {held : Bool}

/-- the bytes of a slice -/
abbrev BL (w : World) (a : Option Addr) (len : Nat) : Prop := 0 < len → ∃ b off, a = some ⟨b, off, none⟩ ∧ b < w.heap.size ∧ ∀ i, i < len → ∃ v : Int, w.cell? ⟨b, off + i, none⟩ = some (.int .u8 v) ∧ 0 ≤ v ∧ v ≤ 255
theorem wf_u8 {n : Int} (h : (Lit.int .u8 n).wf = true) : 0 ≤ n ∧ n ≤ 255 := by
  have e0 : IntKind.u8.min = 0 := by decide
  have e1 : IntKind.u8.max = 255 := by decide
  simp only [Lit.wf, e0, e1, Bool.and_eq_true, decide_eq_true_eq] at h
  exact h
/-- a slice of bytes, opened -/
theorem open_bl {t e : TypeId} {fuel : Nat} {cs : List Value} {x : DataW H × List MemPlace} (ht : P.underlying t = some (.slice e)) (he : P.underlying e = some (.int .u8)) (hc : P.cellsOf e = 1)
    (h : DataW.trod enc P w base (fun _ => true) held fuel t cs = some x) :
    ∃ (a : Option Addr) (len cap : Nat), cs = [.slice a len cap] ∧ len ≤ 9223372036854775807 ∧ BL w a len := by
  rcases open_slice1 ht hc h with ⟨hcs, _⟩ | ⟨a, len, cap, m, n, V, D, Pl, hcs, _, hl, hm, hmm, _, hV⟩
  · exact ⟨none, 0, 0, hcs, by decide, fun h0 => absurd h0 (Nat.lt_irrefl _)⟩
  · simp only [if_true] at hmm
    subst hmm
    refine ⟨some a, len, m, hcs, by unfold maxLen at hm; omega, fun h0 => ?_⟩
    obtain ⟨b, off, spot⟩ := a
    have hc0 := (hV 0 (by omega)).1
    have hspot : spot = none := by simpa [Addr.add] using World.cell?_spot hc0
    subst hspot
    refine ⟨b, off, rfl, ?_, fun i hi => ?_⟩
    · have := hc0
      rw [show (⟨b, off, none⟩ : Addr).add 0 = ⟨b, off, none⟩ from rfl] at this
      exact World.block_lt_of_cell? _ _ this
    · obtain ⟨v, hv, _, hw⟩ := DataW.trod_int he (hV i (by omega)).2
      simp only [List.cons.injEq, and_true] at hv
      refine ⟨v, ?_, wf_u8 hw⟩
      rw [← hv, ← (hV i (by omega)).1]
      unfold Addr.add
      by_cases e : i = 0
      · subst e; rfl
      · simp [e]
end
end Go.Proofs.Ytfciecoigfnnhaa
