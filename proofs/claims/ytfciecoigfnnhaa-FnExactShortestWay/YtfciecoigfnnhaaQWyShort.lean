/- The shortest way, as the specification finds it. -/
import Derived.Test.YtfciecoigfnnhaaQWyCh
import Derived.Test.YtfciecoigfnnhaaQWyFrom
import Derived.Test.YtfciecoigfnnhaaQWyPlM
import Derived.Laws.OwnMore
import Derived.BigRegion
import Derived.Deep.CutRange
import Derived.Maps.AppendAt
import Derived.OneCell
namespace Go.Proofs.Ytfciecoigfnnhaa
open Go.RowKit

theorem bx_like {w w' : World} {b : Nat} {vs : List Value} (h : Bx w b vs) (e : w'.heap[b]? = w.heap[b]?) (hs : w.heap.size ≤ w'.heap.size) : Bx w' b vs :=
  ⟨Nat.lt_of_lt_of_le h.lt hs, fun i hi => (cell_same e i).trans (h.c i hi), fun j => (frozen_same e j).trans (h.fz j)⟩
/-- a way in a block of its own, whose list grows -/
structure Gw (w2 wr : World) (base M : Nat) (sa : Option Addr) (sc : Nat) (S D : Int) (l : List Int) : Prop where
  b : Below base w2 wr
  m : Bx wr M [.slice sa l.length sc, .int .i64 S, .int .i64 D]
  o : Own wr base (.slice sa l.length sc) l.length (gl l)
  ap : (Value.slice sa l.length sc).ownBlock ≠ some M
  mb : base ≤ M
  bs : base ≤ wr.heap.size
theorem Gw.on {w2 wr w' : World} {base M : Nat} {sa : Option Addr} {sc : Nat} {S D : Int} {l : List Int} (h : Gw w2 wr base M sa sc S D l) (k : Below wr.heap.size wr w') : Gw w2 w' base M sa sc S D l :=
  ⟨h.b.trans (k.mono h.bs), h.m.on k, h.o.below k, h.ap, h.mb, Nat.le_trans h.bs k.size⟩
theorem Gw.mid {w2 wr w' : World} {base M : Nat} {sa : Option Addr} {sc : Nat} {S D : Int} {l : List Int} {o : Obj} (h : Gw w2 wr base M sa sc S D l) (hg : (wr.alloc o).grownBy w' (Value.slice sa l.length sc).ownBlock) :
    Below base wr w' ∧ Bx w' M [.slice sa l.length sc, .int .i64 S, .int .i64 D] ∧ wr.heap.size ≤ w'.heap.size := by
  have hb : Below base wr w' := ((Below.refl base wr).alloc h.bs o).grown hg (by have := h.bs; rw [size_al]; omega) (fun q hq => (World.ownsRow.lt h.o q hq).1)
  have hm : Bx (wr.alloc o) M [.slice sa l.length sc, .int .i64 S, .int .i64 D] := h.m.alloc o
  exact ⟨hb, bx_like hm (hg.block M hm.lt (fun e => h.ap e.symm)) hg.size, hb.size⟩
theorem Gw.app {w2 wr w' : World} {base M : Nat} {sa : Option Addr} {sc : Nat} {S D x : Int} {l : List Int} {o : Obj} {a' : Option Addr} {c' : Nat} (h : Gw w2 wr base M sa sc S D l) (hg : (wr.alloc o).grownBy w' (Value.slice sa l.length sc).ownBlock)
    (ho : w'.ownsRow base 3 1 (.slice a' (l.length + 1) c') (l.length + 1) (vL (gl l) l.length ++ [.int .i64 x]))
    (hat : (Value.slice a' (l.length + 1) c').ownBlock = (Value.slice sa l.length sc).ownBlock ∨ (Value.slice a' (l.length + 1) c').ownBlock = some (wr.alloc o).heap.size) :
    Gw w2 (w'.setCell ⟨M, 0, none⟩ (.slice a' (l.length + 1) c')) base M a' c' S D (l ++ [x]) := by
  obtain ⟨hb, hm, hs⟩ := h.mid hg
  have e : (l ++ [x]).length = l.length + 1 := by simp
  have hne : (Value.slice a' (l.length + 1) c').ownBlock ≠ some M := by
    rcases hat with q | q
    · rw [q]; exact h.ap
    · rw [q]
      have := h.m.lt
      intro k
      cases k
      rw [size_al] at this
      omega
  have h1 := own_snoc ho
  have hm2 := hm.set 0 (by simp) (.slice a' (l.length + 1) c')
  refine ⟨(h.b.trans hb).setCell (p := ⟨M, 0, none⟩) h.mb _, ?_, ?_, ?_, h.mb, ?_⟩
  · rw [e]; exact hm2
  · have := ownsRow_setCell_other h1 (a := ⟨M, 0, none⟩) hne (.slice a' (l.length + 1) c')
    rw [e] at this ⊢
    exact this
  · rw [e]; exact hne
  · have := h.bs; rw [size_set]; omega
theorem gw_first (w2 : World) (x a b : Int) : Gw w2 ((w2.alloc (.cells #[.int .i64 x] 3)).alloc (.cells #[.slice (some ⟨w2.heap.size, 0, none⟩) 1 1, .int .i64 a, .int .i64 b] 30)).drew w2.heap.size (w2.heap.size + 1) (some ⟨w2.heap.size, 0, none⟩) 1 a b [x] := by
  have al := fun (z : World) (o : Obj) => (Below.refl z.heap.size z).alloc (Nat.le_refl _) o
  have bm := bx_new (w := w2.alloc (.cells #[.int .i64 x] 3)) (b := w2.heap.size + 1) [.slice (some ⟨w2.heap.size, 0, none⟩) 1 1, .int .i64 a, .int .i64 b] 30 (by simp)
  refine ⟨(((Below.refl _ _).alloc (Nat.le_refl _) _).alloc (by simp) _).drew, bm.on (Below.refl _ _).drew, ((own_one w2 w2.heap.size x (Nat.le_refl _)).below (al _ _)).below (Below.refl _ _).drew, ?_, by omega, by simp; omega⟩
  intro e
  simp [Value.ownBlock] at e
theorem gw_second (w2 : World) (x a b : Int) : Gw w2 ((w2.alloc (.cells #[.slice (some ⟨w2.heap.size + 1, 0, none⟩) 1 1, .int .i64 a, .int .i64 b] 30)).alloc (.cells #[.int .i64 x] 3)).drew w2.heap.size w2.heap.size (some ⟨w2.heap.size + 1, 0, none⟩) 1 a b [x] := by
  have al := fun (z : World) (o : Obj) => (Below.refl z.heap.size z).alloc (Nat.le_refl _) o
  have bm := bx_new (w := w2) (b := w2.heap.size) [.slice (some ⟨w2.heap.size + 1, 0, none⟩) 1 1, .int .i64 a, .int .i64 b] 30 rfl
  have ho := own_one (w2.alloc (.cells #[.slice (some ⟨w2.heap.size + 1, 0, none⟩) 1 1, .int .i64 a, .int .i64 b] 30)) w2.heap.size x (by simp)
  rw [size_al] at ho
  refine ⟨(((Below.refl _ _).alloc (Nat.le_refl _) _).alloc (by simp) _).drew, (bm.alloc _).on (Below.refl _ _).drew, ho.below (Below.refl _ _).drew, ?_, by omega, by simp; omega⟩
  intro e
  simp [Value.ownBlock] at e
theorem arK_sorted (W : Int) (n : Nat) (a : Int) (k : Nat) : (arK W n a k).Pairwise (· < ·) := by
  induction k with
  | zero => simp [arK]
  | succ k ih =>
    unfold arK
    split
    · next e =>
      refine List.pairwise_append.2 ⟨ih, by simp, fun u hu v hv => ?_⟩
      obtain ⟨p, h1, h2, h3⟩ := mem_arK.1 hu
      simp only [List.mem_singleton] at hv
      subst h3 hv
      exact arV_lt h1 h2 e
    · exact ih
theorem ar_rise {W : Int} {n : Nat} {a : Int} {p q : Nat} (hpq : p < q) (hq : q < (arK W n a 9).length) : gl (arK W n a 9) p < gl (arK W n a 9) q := by
  have h := List.pairwise_iff_getElem.1 (arK_sorted W n a 9) p q (by omega) hq hpq
  unfold gl
  rw [List.getD_eq_getElem?_getD, List.getD_eq_getElem?_getD, List.getElem?_eq_getElem hq, List.getElem?_eq_getElem (show p < _ by omega)]
  exact h
abbrev wayZ : Obj := .cells #[.slice none 0 0, .int .i64 0, .int .i64 0] 30
theorem ret_way {fn : Func} {t t2 : Tmp} {R : Ending → World → Prop} {a : Act} {w : World} {b : Nat} {u v x : Value} (h : fn.results = #[.cell t 30, .tmp t2]) (hp : a.tmps.getD t undef = .pointer (some ⟨b, 0, none⟩)) (c0 : w.cell? ⟨b, 0, none⟩ = some u) (c1 : w.cell? ⟨b, 1, none⟩ = some v) (c2 : w.cell? ⟨b, 2, none⟩ = some x) (hd : a.defers = [])
    (hR : R (.returned (.tuple #[.agg #[u, v, x], a.tmps.getD t2 undef])) w) : bodyPost Try.prog fn R .ret a w := by
  refine bodyPost_ret ?_ hd hR
  rw [results_cell_tmp h, hp]
  simp [asAddr, loadVar, go_sem, c0, c1, c2]

set_option maxRecDepth 20000 in
set_option maxHeartbeats 8000000 in
theorem specShort (W : Int) (q : Option Addr) (n c : Nat) (f : Nat → Int) (p v : Int) (w : World) (hn : n ≤ 1048576) (hf : IL w q n f) :
    Calls Try.prog 12 #[cel W q n c, .int .i64 p, .int .i64 v] w fun e w' => (∃ l s d k, Shrt W n f p v l s d k ∧ AnsY w w' e l s d k) ∧ Below w.heap.size w w' := by
  obtain ⟨i0, hi, hzz⟩ := Option.map_eq_some_iff.1 infoI
  simp only [Prod.mk.injEq] at hzz
  obtain ⟨hz0, hz1, hz2⟩ := hzz
  have hb0 : Below w.heap.size w ((w.alloc (celO W q n c 25)).alloc wayZ) := ((Below.refl _ _).alloc (Nat.le_refl _) _).alloc (by simp) _
  have bA := (bx_new (w := w) (celL W q n c) 25 rfl).alloc wayZ
  have bR := bx_new (w := w.alloc (celO W q n c 25)) (b := w.heap.size + 1) [.slice none 0 0, .int .i64 0, .int .i64 0] 30 (by simp)
  have bR : Bx ((w.alloc (celO W q n c 25)).alloc wayZ) (w.heap.size + 1) [.slice none 0 0, .int .i64 0, .int .i64 0] := bR
  have x0 := bA.c0
  have x1 := bA.c1
  have kg := specGoodL W q n c f ((w.alloc (celO W q n c 25)).alloc wayZ) hn (hf.below hb0)
  cases eg : celB W n f with
  | false =>
    have HN : Hid (Shrt W n f p v [] 0 0 false) := .inr ⟨rfl, rfl, rfl, rfl, fun h => by rw [eg] at h; cases h.1⟩
    rw [eg] at kg
    go_enter Try.func12, Try.ntmps12
    go_wp2_with fail
    refine kg.mono ?_
    rintro e w1 ⟨rfl, hb1⟩
    have hB1 := stepA hb0 hb1
    have bR1 := bR.on hb1
    have r0 := bR1.c0
    have r1 := bR1.c1
    have r2 := bR1.c2
    have f0 := bR1.fz 0
    have f1 := bR1.fz 1
    have f2 := bR1.fz 2
    have lR := bR1.lt
    have bE := ((bR1.set 0 (by simp) (.slice none 0 0)).set 1 (by simp) (.int .i64 0)).set 2 (by simp) (.int .i64 0)
    have hBE := ((hB1.setCell (p := ⟨w.heap.size + 1, 0, none⟩) (by simp) (.slice none 0 0)).setCell (p := ⟨w.heap.size + 1, 1, none⟩) (by simp) (.int .i64 0)).setCell (p := ⟨w.heap.size + 1, 2, none⟩) (by simp) (.int .i64 0)
    go_wp2
    refine ret_way Try.results12 rfl bE.c0 bE.c1 bE.c2 rfl ?_
    exact ⟨⟨[], 0, 0, false, HN.out, none, 0, rfl, lq_none _ _ _ _ _⟩, hBE⟩
  | true =>
    rw [eg] at kg
    have hs := (celB_parts eg).1
    have hsl := sized_le hs
    cases ep : frB n f p with
    | false =>
      have HN : Hid (Shrt W n f p v [] 0 0 false) := .inr ⟨rfl, rfl, rfl, rfl, fun h => by rw [ep] at h; cases h.2.1⟩
      go_enter Try.func12, Try.ntmps12
      go_wp2_with fail
      refine kg.mono ?_
      rintro e w0 ⟨rfl, hb1⟩
      have hB0 := stepA hb0 hb1
      have y0 := (bA.on hb1).c0
      have y1 := (bA.on hb1).c1
      have kf := sfree_any W q n c f p w0 (hf.below hB0) hn
      rw [ep] at kf
      clear kg x0 x1
      go_wp2_with fail
      refine kf.mono ?_
      rintro e w1 ⟨rfl, hb2⟩
      have hb1 := stepA hb1 hb2
      clear kf y0 y1
      have hB1 := stepA hb0 hb1
      have bR1 := bR.on hb1
      have r0 := bR1.c0
      have r1 := bR1.c1
      have r2 := bR1.c2
      have f0 := bR1.fz 0
      have f1 := bR1.fz 1
      have f2 := bR1.fz 2
      have lR := bR1.lt
      have bE := ((bR1.set 0 (by simp) (.slice none 0 0)).set 1 (by simp) (.int .i64 0)).set 2 (by simp) (.int .i64 0)
      have hBE := ((hB1.setCell (p := ⟨w.heap.size + 1, 0, none⟩) (by simp) (.slice none 0 0)).setCell (p := ⟨w.heap.size + 1, 1, none⟩) (by simp) (.int .i64 0)).setCell (p := ⟨w.heap.size + 1, 2, none⟩) (by simp) (.int .i64 0)
      go_wp2
      refine ret_way Try.results12 rfl bE.c0 bE.c1 bE.c2 rfl ?_
      exact ⟨⟨[], 0, 0, false, HN.out, none, 0, rfl, lq_none _ _ _ _ _⟩, hBE⟩
    | true =>
      cases ev : frB n f v with
      | false =>
        have HN : Hid (Shrt W n f p v [] 0 0 false) := .inr ⟨rfl, rfl, rfl, rfl, fun h => by rw [ev] at h; cases h.2.2.1⟩
        go_enter Try.func12, Try.ntmps12
        go_wp2_with fail
        refine kg.mono ?_
        rintro e w0 ⟨rfl, hb1⟩
        have hB0 := stepA hb0 hb1
        have y0 := (bA.on hb1).c0
        have y1 := (bA.on hb1).c1
        have kf := sfree_any W q n c f p w0 (hf.below hB0) hn
        rw [ep] at kf
        clear kg x0 x1
        go_wp2_with fail
        refine kf.mono ?_
        rintro e w00 ⟨rfl, hb2⟩
        have hb1 := stepA hb1 hb2
        have hB1 := stepA hb0 hb1
        have x0 := (bA.on hb1).c0
        have x1 := (bA.on hb1).c1
        have kf := sfree_any W q n c f v w00 (hf.below hB1) hn
        rw [ev] at kf
        clear y0 y1
        go_wp2_with fail
        refine kf.mono ?_
        rintro e w1 ⟨rfl, hb3⟩
        have hb1 := stepA hb1 hb3
        clear kf
        have hB1 := stepA hb0 hb1
        have bR1 := bR.on hb1
        have r0 := bR1.c0
        have r1 := bR1.c1
        have r2 := bR1.c2
        have f0 := bR1.fz 0
        have f1 := bR1.fz 1
        have f2 := bR1.fz 2
        have lR := bR1.lt
        have bE := ((bR1.set 0 (by simp) (.slice none 0 0)).set 1 (by simp) (.int .i64 0)).set 2 (by simp) (.int .i64 0)
        have hBE := ((hB1.setCell (p := ⟨w.heap.size + 1, 0, none⟩) (by simp) (.slice none 0 0)).setCell (p := ⟨w.heap.size + 1, 1, none⟩) (by simp) (.int .i64 0)).setCell (p := ⟨w.heap.size + 1, 2, none⟩) (by simp) (.int .i64 0)
        go_wp2
        refine ret_way Try.results12 rfl bE.c0 bE.c1 bE.c2 rfl ?_
        exact ⟨⟨[], 0, 0, false, HN.out, none, 0, rfl, lq_none _ _ _ _ _⟩, hBE⟩
      | true =>
        obtain ⟨p0, p1, _⟩ := frB_t ep
        obtain ⟨v0, v1, _⟩ := frB_t ev
        obtain ⟨x, rfl⟩ := Int.eq_ofNat_of_zero_le p0
        obtain ⟨y, rfl⟩ := Int.eq_ofNat_of_zero_le v0
        have hxn : x < n := by omega
        have hyn : y < n := by omega
        have HE : Hid (celB W n f = true ∧ frB n f (x : Int) = true ∧ frB n f (y : Int) = true) := ⟨eg, ep, ev⟩
        go_enter Try.func12, Try.ntmps12
        go_wp2_with fail
        refine kg.mono ?_
        rintro e w0 ⟨rfl, hb1⟩
        have hB0 := stepA hb0 hb1
        have y0 := (bA.on hb1).c0
        have y1 := (bA.on hb1).c1
        have kf := sfree_any W q n c f (x : Int) w0 (hf.below hB0) hn
        rw [ep] at kf
        clear kg x0 x1
        go_wp2_with fail
        refine kf.mono ?_
        rintro e w00 ⟨rfl, hb2⟩
        have hb1 := stepA hb1 hb2
        have hB1 := stepA hb0 hb1
        have x0 := (bA.on hb1).c0
        have x1 := (bA.on hb1).c1
        have kf := sfree_any W q n c f (y : Int) w00 (hf.below hB1) hn
        rw [ev] at kf
        clear y0 y1 hb2
        go_wp2_with fail
        refine kf.mono ?_
        rintro e w1 ⟨rfl, hb3⟩
        have hb1 := stepA hb1 hb3
        have hB2 := stepA hb0 hb1
        have bA1 := bA.on hb1
        have bR1 := bR.on hb1
        have y0 := bA1.c0
        have y1 := bA1.c1
        clear kf x0 x1 hb3 hB1 hB0 eg ep ev bA bR hb1 hb0
        have kfr := sFrom W q n c f y w1 hs (hf.below hB2) hyn
        go_wp2_with fail
        refine kfr.mono ?_
        rintro e w2 ⟨⟨ga, gb, A, B, rfl, hA, hB, hab, hga, hgb, hD, _, _⟩, hb2⟩
        have hB3 := stepA hB2 hb2
        have bA2 := bA1.on hb2
        have bR2 := bR1.on hb2
        have a0 := hA.c x hxn
        have b0 := hB.c x hxn
        have hs1 := bR1.lt
        clear kfr y0 y1 hb2 bA1 bR1
        have HD : Hid (Dst (stN W n f) n y A B) := hD
        clear hD
        by_cases c0 : A x < 0
        · have HN : Hid (Shrt W n f (x : Int) (y : Int) [] 0 0 false) := .inr ⟨rfl, rfl, rfl, rfl, fun h => by
            obtain ⟨_, _, _, x', y', a, b, e1, e2, hw⟩ := h
            have : x' = x := by omega
            subst this
            have : y' = y := by omega
            subst this
            have := (HD.out.least x' a b hxn hw).1
            omega⟩
          have r0 := bR2.c0
          have r1 := bR2.c1
          have r2 := bR2.c2
          have f0 := bR2.fz 0
          have f1 := bR2.fz 1
          have f2 := bR2.fz 2
          have lR := bR2.lt
          have bE := ((bR2.set 0 (by simp) (.slice none 0 0)).set 1 (by simp) (.int .i64 0)).set 2 (by simp) (.int .i64 0)
          have hBE := ((hB3.setCell (p := ⟨w.heap.size + 1, 0, none⟩) (by simp) (.slice none 0 0)).setCell (p := ⟨w.heap.size + 1, 1, none⟩) (by simp) (.int .i64 0)).setCell (p := ⟨w.heap.size + 1, 2, none⟩) (by simp) (.int .i64 0)
          clear HD HE
          go_wp2
          refine ret_way Try.results12 rfl bE.c0 bE.c1 bE.c2 rfl ?_
          exact ⟨⟨[], 0, 0, false, HN.out, none, 0, rfl, lq_none _ _ _ _ _⟩, hBE⟩
        · have HS : Hid _ := c0
          have hx0 : (0 : Int) ≤ (x : Int) := by omega
          have hx1 : (x : Int) < (n : Int) := by omega
          have al := fun (z : World) (o : Obj) => (Below.refl z.heap.size z).alloc (Nat.le_refl _) o
          have ax := fun (o : Obj) => ((al w2 o).cell (p := ⟨ga, x, none⟩) hA.lt).trans a0
          have bx := fun (o : Obj) => ((al w2 o).cell (p := ⟨gb, x, none⟩) hB.lt).trans b0
          have a1 := ax wayZ
          have b1 := bx wayZ
          have a2 := ax (.cells #[.int .i64 (x : Int)] 3)
          have b2 := bx (.cells #[.int .i64 (x : Int)] 3)
          have a3 := ((al (w2.alloc wayZ) (.cells #[.int .i64 (x : Int)] 3)).cell (p := ⟨ga, x, none⟩) (Nat.lt_of_lt_of_le hA.lt (al w2 wayZ).size)).trans a1
          have b3 := ((al (w2.alloc wayZ) (.cells #[.int .i64 (x : Int)] 3)).cell (p := ⟨gb, x, none⟩) (Nat.lt_of_lt_of_le hB.lt (al w2 wayZ).size)).trans b1
          have a4 := ((al (w2.alloc (.cells #[.int .i64 (x : Int)] 3)) wayZ).cell (p := ⟨ga, x, none⟩) (Nat.lt_of_lt_of_le hA.lt (al w2 (.cells #[.int .i64 (x : Int)] 3)).size)).trans a2
          have b4 := ((al (w2.alloc (.cells #[.int .i64 (x : Int)] 3)) wayZ).cell (p := ⟨gb, x, none⟩) (Nat.lt_of_lt_of_le hB.lt (al w2 (.cells #[.int .i64 (x : Int)] 3)).size)).trans b2
          clear ax bx al
          go_upto_region 6 with fail
          go_cut [10] from 43 to 53 (fun s wx => ∃ M2 sa, s = .pointer (some ⟨M2, 0, none⟩) ∧ Gw w2 wx w2.heap.size M2 sa 1 (A x) (B x) [(x : Int)])
          case first =>
            go_region
            all_goals go_wp2_with fail
            all_goals go_meet
            case rel => exact ⟨_, _, rfl, gw_first w2 (x : Int) (A x) (B x)⟩
            case rel => exact ⟨_, _, rfl, gw_second w2 (x : Int) (A x) (B x)⟩
          case rest =>
            obtain ⟨M2, sa, rfl, hG⟩ := hcut
            clear a0 b0 a1 b1 a2 b2 a3 b3 a4 b4
            have hbd := HD.out.bnd x hxn (by have := HS.out; omega)
            have HX : Hid (0 ≤ A x ∧ 0 ≤ B x ∧ A x + B x ≤ 256) := ⟨by have := HS.out; omega, hbd.1, hbd.2⟩
            clear hbd c0 HS
            go_wp2
            go_loopw [11] (fun i wr => ∃ (k : Nat) (pre : List Int) (sa : Option Addr) (sc : Nat), i = .int .i64 (k : Int) ∧ k < n ∧ 0 ≤ A k ∧ Gw w2 wr w2.heap.size M2 sa sc (A x) (B x) (pre ++ [(k : Int)]) ∧ (pre.length : Int) + A k + B k = A x + B x ∧ ∀ t, Ch (stN W n f) n A B y k t → Ch (stN W n f) n A B y x (pre ++ t)) (fun i _ => (A (intOf i).toNat + B (intOf i).toNat).toNat)
            case atStart => exact ⟨x, [], sa, 1, rfl, hxn, HX.out.1, hG, by simp, fun t h => h⟩
            case round =>
              obtain ⟨k, pre, sb, sc, rfl, hkn, hk0, G, hcnt, hch⟩ := hrel
              have HCH : Hid (∀ t, Ch (stN W n f) n A B y k t → Ch (stN W n f) n A B y x (pre ++ t)) := hch
              have HCN : Hid ((pre.length : Int) + A k + B k = A x + B x) := hcnt
              clear hG hch hcnt
              have bA3 := bA2.below G.b bA2.lt
              have bR3 := bR2.below G.b bR2.lt
              cases et : ((k : Int) != (y : Int)) with
              | false =>
                have hky : k = y := by have : (k : Int) = (y : Int) := by simpa using et
                                       omega
                have HL : Hid (Shrt W n f (x : Int) (y : Int) (pre ++ [(k : Int)]) (A x) (B x) true) := .inl ⟨rfl, HE.out.1, x, y, A, B, rfl, rfl, HE.out.2.1, HE.out.2.2, HD.out, HX.out.1, rfl, rfl, HCH.out _ (by rw [hky]; exact Ch.stop)⟩
                have m0 := G.m.c0
                have m1 := G.m.c1
                have m2 := G.m.c2
                have r0 := bR3.c0
                have r1 := bR3.c1
                have r2 := bR3.c2
                have f0 := bR3.fz 0
                have f1 := bR3.fz 1
                have f2 := bR3.fz 2
                have lR := bR3.lt
                have lR2 := bR2.lt
                have hB4 := stepA hB3 G.b
                have hbs := hB3.size
                have hQ := G.o.lq
                have bE := ((bR3.set 0 (by simp) (.slice sb (pre ++ [(k : Int)]).length sc)).set 1 (by simp) (.int .i64 (A x))).set 2 (by simp) (.int .i64 (B x))
                have hBE := ((hB4.setCell (p := ⟨w.heap.size + 1, 0, none⟩) (by simp) (.slice sb (pre ++ [(k : Int)]).length sc)).setCell (p := ⟨w.heap.size + 1, 1, none⟩) (by simp) (.int .i64 (A x))).setCell (p := ⟨w.heap.size + 1, 2, none⟩) (by simp) (.int .i64 (B x))
                have hQE := lq_set (lq_set (lq_set hQ (b := w.heap.size + 1) (k := 0) (.slice sb (pre ++ [(k : Int)]).length sc) (.inl lR2)) (b := w.heap.size + 1) (k := 1) (.int .i64 (A x)) (.inl lR2)) (b := w.heap.size + 1) (k := 2) (.int .i64 (B x)) (.inl lR2)
                clear HCH HCN HD HE HX hQ
                generalize pre ++ [(k : Int)] = l at *
                go_wp2
                refine ret_way Try.results12 rfl bE.c0 bE.c1 bE.c2 rfl ?_
                exact ⟨⟨l, A x, B x, true, HL.out, sb, sc, rfl, hQE.wide hbs (by simp)⟩, hBE⟩
              | true =>
                have hky : k ≠ y := by rintro rfl; simp at et
                have k0 : (0 : Int) ≤ (k : Int) := by omega
                have k1 : (k : Int) < (n : Int) := by omega
                have y0 := bA3.c0
                have y1 := bA3.c1
                have HL1 : Hid (∀ j, j < (arK W n (k : Int) 9).length → ∃ kn : Nat, gl (arK W n (k : Int) 9) j = (kn : Int) ∧ kn < n) := fun j hj => ar_cells hs hj
                have HL2 : Hid (∀ kn, stN W n f k kn ≠ 0 → Seen (arK W n (k : Int) 9) (arK W n (k : Int) 9).length kn) := fun kn h => ar_all hs h
                have HL3 : Hid (∀ p q, p < q → q < (arK W n (k : Int) 9).length → gl (arK W n (k : Int) 9) p < gl (arK W n (k : Int) 9) q) := fun p q h1 h2 => ar_rise h1 h2
                have HNX : Hid (∃ kn, kn < n ∧ okB (stN W n f) A B k kn = true) := HD.out.next (stN_lt W n f) hkn hk0 hky
                have hlen := arK_len W n (k : Int) 9
                have kar := fun w => sAround W q n c (k : Int) w hs k0 k1
                generalize arK W n (k : Int) 9 = L at HL1 HL2 HL3 hlen kar
                go_wp2_with fail
                refine (kar _).mono ?_
                rintro e w5 ⟨⟨la, lc, rfl, hLQ⟩, hb5⟩
                have G5 := G.on hb5
                have hQ5 := hLQ.il
                have HQ : Hid _ := hQ5
                clear kar y0 y1 bA3 bR3 hLQ hQ5
                have hk2 : 0 ≤ B k ∧ A k + B k ≤ 256 := HD.out.bnd k hkn hk0
                go_wp2
                go_loopw [11, 62] (fun a i wx => ∃ j : Nat, a = .int .i64 (k : Int) ∧ j ≤ L.length ∧ i = .int .i64 j ∧ (∀ p kn : Nat, p < j → gl L p = (kn : Int) → okB (stN W n f) A B k kn = false) ∧ Below w5.heap.size w5 wx) (fun _ i _ => L.length - (intOf i).toNat)
                case atStart => exact ⟨0, rfl, Nat.zero_le _, rfl, fun p kn h => by omega, Below.refl _ _⟩
                case round =>
                  obtain ⟨j, rfl, hj, rfl, hall, hbx⟩ := hrel
                  have HALL : Hid (∀ p kn : Nat, p < j → gl L p = (kn : Int) → okB (stN W n f) A B k kn = false) := hall
                  clear hall
                  by_cases hlj : j < L.length
                  · obtain ⟨kn, hkn', hkl⟩ := HL1.out j hlj
                    have HK : Hid (gl L j = (kn : Int)) := hkn'
                    obtain ⟨bl, bo, rfl, hbl, hbc⟩ := HQ.out (by omega)
                    have c0 := (hbx.cell (p := ⟨bl, bo + j, none⟩) hbl).trans (hbc j hlj)
                    rw [hkn'] at c0
                    have G6 := G5.on hbx
                    have bA6 := bA2.below G6.b bA2.lt
                    have z0 := bA6.c0
                    have z1 := bA6.c1
                    have j0 : (0 : Int) ≤ (j : Int) := by omega
                    have j1 : (j : Int) < (L.length : Int) := by omega
                    have n0 : (0 : Int) ≤ (kn : Int) := by omega
                    have n1 : (kn : Int) < (n : Int) := by omega
                    have hB6 := stepA hB3 G6.b
                    have ks := sStep W q n c f (k : Int) (kn : Int) wr hs (hf.below hB6)
                    have hin := stN_in W n f k kn
                    have hst : stN W n f k kn = stepV W n f (k : Int) (kn : Int) := rfl
                    have hrc : Hid (stN W n f k kn ≠ 0 → 0 ≤ A kn) := fun h => HD.out.reach (stN_sy W n f) (stN_in W n f) (stN_lt W n f) hk0 h
                    rw [← hst] at ks
                    have HOKD : Hid (okB (stN W n f) A B k kn = okB (stN W n f) A B k kn) := (rfl : _ = _)
                    have HNXT : Hid (okB (stN W n f) A B k kn = true → Nx (stN W n f) n A B k kn) := fun h => ⟨hkl, h, fun m hm => by
                      cases e : okB (stN W n f) A B k m with
                      | false => rfl
                      | true =>
                        obtain ⟨p, hp1, hp2⟩ := HL2.out m (okB_t.1 e).1
                        by_cases hpj : p < j
                        · rw [HALL.out p m hpj hp2] at e; cases e
                        · have hlt2 : gl L j ≤ gl L p := by
                            by_cases e2 : p = j
                            · subst e2; omega
                            · have := HL3.out j p (by omega) hp1; omega
                          rw [hp2, HK.out] at hlt2
                          omega⟩
                    have HSTEP : Hid (okB (stN W n f) A B k kn = false → ∀ p m : Nat, p < j + 1 → gl L p = (m : Int) → okB (stN W n f) A B k m = false) := fun h p m hp hm => (by
                      by_cases e : p = j
                      · subst e
                        have : m = kn := by have := HK.out; omega
                        subst this
                        exact h
                      · exact HALL.out p m (by omega) hm : _ = _)
                    clear hkn' hbc HL1 HL2 HL3 HNX HALL HOKD
                    go_wp2_with fail
                    refine ks.mono ?_
                    rintro e w6 ⟨rfl, hb6⟩
                    have G7 := G6.on hb6
                    have hbx6 := stepA hbx hb6
                    have a1 := ((hA.below G7.b hA.lt).c k hkn)
                    have b1 := ((hB.below G7.b hB.lt).c k hkn)
                    have a2 := ((hA.below G7.b hA.lt).c kn hkl)
                    have b2 := ((hB.below G7.b hB.lt).c kn hkl)
                    clear ks c0 z0 z1 bA6
                    have hln : (pre ++ [(k : Int)]).length ≤ 257 := by have h1 := HCN.out; have h2 := HX.out; simp; omega
                    generalize hsv : stN W n f k kn = sv at hin hrc ⊢
                    have HSV : Hid (stN W n f k kn = sv) := hsv
                    generalize hov : okB (stN W n f) A B k kn = okv at HNXT HSTEP
                    have HOV : Hid (okB (stN W n f) A B k kn = okv) := hov
                    clear hsv hov hst
                    go_upto_region 13 with fail
                    go_cut [121] from 70 to 121 (fun s wx => s = .bool okv ∧ ∃ m, wx = w6.drewN m)
                    case first =>
                      rcases hin with rfl | rfl | rfl
                      · have E : Hid (okv = false) := (by rw [← HOV.out]; simp [okB, HSV.out] : _ = _)
                        clear HOV HSV HX HCN HCH HD HE HNXT HSTEP hrc HQ
                        go_quiet (fail)
                        go_wp2_with fail
                        go_meet
                        case rel => exact ⟨by rw [E.out], _, rfl⟩
                      · have hkn0 := hrc.out (by decide)
                        have hbk := HD.out.bnd kn hkl hkn0
                        have kc := fun w => sCmp (A kn + 1 - A k) (B kn - B k) w (by omega) (by omega) (by omega) (by omega)
                        have ek : cmpV (A kn + 1 - A k) (B kn - B k) = sgI (ky (A kn) (B kn) + 408 - ky (A k) (B k)) := by
                          rw [cmp_key (by omega) (by omega)]; congr 1; unfold ky; omega
                        rw [ek] at kc
                        have HOKV : Hid (okv = (sgI (ky (A kn) (B kn) + 408 - ky (A k) (B k)) == 0)) := (by
                          rw [← HOV.out, Bool.eq_iff_iff, okB_t, HSV.out, show wt 1 = 408 from rfl]
                          simp only [beq_iff_eq, sg_zero]
                          constructor
                          · intro h; omega
                          · intro h; exact ⟨by decide, hkn0, by omega⟩ : _ = _)
                        have HEK : Hid _ := ek
                        clear ek
                        obtain ⟨hbk0, hbk1⟩ := hbk
                        generalize sgI (ky (A kn) (B kn) + 408 - ky (A k) (B k)) = rr at kc HOKV HEK
                        clear HOV HSV HX HCN HCH HD HE HNXT HSTEP hrc HQ
                        cases ert : (rr == 0)
                        · have er : (rr == 0) = false := ert
                          have E : Hid (okv = false) := (HOKV.out.trans ert : _ = _)
                          clear HOKV ert HEK
                          generalize A kn = akn at *
                          generalize B kn = bkn at *
                          generalize A k = ak at *
                          generalize B k = bk at *
                          go_quiet ((go_at_call 49; exact Calls.quiet_of_same (kc _)))
                          go_wp2_with fail
                          go_meet
                          case rel => exact ⟨by rw [E.out], _, rfl⟩
                        · have er : (rr == 0) = true := ert
                          have E : Hid (okv = true) := (HOKV.out.trans ert : _ = _)
                          clear HOKV ert HEK
                          generalize A kn = akn at *
                          generalize B kn = bkn at *
                          generalize A k = ak at *
                          generalize B k = bk at *
                          go_quiet ((go_at_call 49; exact Calls.quiet_of_same (kc _)))
                          go_wp2_with fail
                          go_meet
                          case rel => exact ⟨by rw [E.out], _, rfl⟩
                      · have hkn0 := hrc.out (by decide)
                        have hbk := HD.out.bnd kn hkl hkn0
                        have kc := fun w => sCmp (A kn - A k) (B kn + 1 - B k) w (by omega) (by omega) (by omega) (by omega)
                        have ek : cmpV (A kn - A k) (B kn + 1 - B k) = sgI (ky (A kn) (B kn) + 577 - ky (A k) (B k)) := by
                          rw [cmp_key (by omega) (by omega)]; congr 1; unfold ky; omega
                        rw [ek] at kc
                        have HOKV : Hid (okv = (sgI (ky (A kn) (B kn) + 577 - ky (A k) (B k)) == 0)) := (by
                          rw [← HOV.out, Bool.eq_iff_iff, okB_t, HSV.out, show wt 2 = 577 from rfl]
                          simp only [beq_iff_eq, sg_zero]
                          constructor
                          · intro h; omega
                          · intro h; exact ⟨by decide, hkn0, by omega⟩ : _ = _)
                        have HEK : Hid _ := ek
                        clear ek
                        obtain ⟨hbk0, hbk1⟩ := hbk
                        generalize sgI (ky (A kn) (B kn) + 577 - ky (A k) (B k)) = rr at kc HOKV HEK
                        clear HOV HSV HX HCN HCH HD HE HNXT HSTEP hrc HQ
                        cases ert : (rr == 0)
                        · have er : (rr == 0) = false := ert
                          have E : Hid (okv = false) := (HOKV.out.trans ert : _ = _)
                          clear HOKV ert HEK
                          generalize A kn = akn at *
                          generalize B kn = bkn at *
                          generalize A k = ak at *
                          generalize B k = bk at *
                          go_quiet ((go_at_call 49; exact Calls.quiet_of_same (kc _)))
                          go_wp2_with fail
                          go_meet
                          case rel => exact ⟨by rw [E.out], _, rfl⟩
                        · have er : (rr == 0) = true := ert
                          have E : Hid (okv = true) := (HOKV.out.trans ert : _ = _)
                          clear HOKV ert HEK
                          generalize A kn = akn at *
                          generalize B kn = bkn at *
                          generalize A k = ak at *
                          generalize B k = bk at *
                          go_quiet ((go_at_call 49; exact Calls.quiet_of_same (kc _)))
                          go_wp2_with fail
                          go_meet
                          case rel => exact ⟨by rw [E.out], _, rfl⟩
                    case rest =>
                      obtain ⟨rfl, m, hwc⟩ := hcut
                      have hdr : Below w6.heap.size w6 wc := by rw [hwc]; exact below_dr (Below.refl _ _) m
                      have G8 := G7.on hdr
                      have hbx8 := stepA hbx6 hdr
                      clear hwc hdr a1 b1 a2 b2 G7 G6 hb6 hbx hbx6
                      cases okv with
                      | false =>
                        have HN : Hid (∀ p m : Nat, p < j + 1 → gl L p = (m : Int) → okB (stN W n f) A B k m = false) := HSTEP.out rfl
                        clear HOV HSV HX HCN HCH HD HE HNXT HSTEP hrc HQ
                        go_wp2
                        exact ⟨⟨j + 1, rfl, by omega, by go_num, HN.out, hbx8⟩, by simp [intOf]; omega⟩
                      | true =>
                        have HT := HNXT.out rfl
                        have h9 := okB_t.1 HOV.out
                        have hls := HD.out.less (stN_in W n f) hkn hk0 hkl HOV.out
                        have HF : Hid (((pre ++ [(k : Int)]).length : Int) + A kn + B kn = A x + B x ∧ ∀ t, Ch (stN W n f) n A B y kn t → Ch (stN W n f) n A B y x ((pre ++ [(k : Int)]) ++ t)) := ⟨by have := HCN.out; simp; omega, fun t ht => by
                          have := HCH.out _ (Ch.go hky HT ht)
                          simpa using this⟩
                        have hA9 : 0 ≤ A kn := h9.2.1
                        have HM : Hid ((A kn + B kn).toNat < (A k + B k).toNat) := (by have := HD.out.bnd k hkn hk0; have := HD.out.bnd kn hkl hA9; omega : _ < _)
                        clear HOV HSV HX HCN HCH HD HE HNXT HSTEP hrc HQ HT h9 hls
                        generalize pre ++ [(k : Int)] = l at *
                        have q0 := G8.m.c0
                        have hbz := G8.bs
                        obtain ⟨w8, hw8⟩ : ∃ w8, w8 = wc := ⟨wc, rfl⟩
                        subst hw8
                        go_wp2_with (at_builtin; refine wpList_append_own_at _ rfl _ _ 23 rfl w2.heap.size 3 i0 (.int .i64 0) 1 8 Try.underlying23 hi hz0 hz1 hz2 rfl (by decide) _ _ _ rfl (World.ownsRow.alloc G8.o _) ⟨w8.heap.size, 0, none⟩ 1 1 [.int .i64 (kn : Int)] rfl rfl (cell_one_new _ _ _) (fun x hx => by simp at hx; subst hx; rfl) (by unfold maxLen; omega) (by omega) (by rw [size_al]; omega) ?_; intro v' w9 hown' hgrow _ hat; obtain ⟨ta, tc, rfl⟩ := (own_put hown').shape; have hmm := (G8.mid hgrow).2.1; have t1 := hmm.c0; have t2 := hmm.fz 0; have t3 := hmm.lt; have hG9 := G8.app hgrow hown' hat; clear hgrow hown' hat hmm)
                        exact ⟨⟨kn, l, ta, tc, rfl, hkl, hA9, hG9, HF.out.1, HF.out.2⟩, by simpa [intOf] using HM.out⟩
                  · exfalso
                    have hje : j = L.length := by omega
                    subst hje
                    obtain ⟨kn, h1, h2⟩ := HNX.out
                    obtain ⟨p, hp1, hp2⟩ := HL2.out kn (okB_t.1 h2).1
                    rw [HALL.out p kn hp1 hp2] at h2
                    cases h2
end Go.Proofs.Ytfciecoigfnnhaa
