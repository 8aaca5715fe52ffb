/- The first opening is taken out of the heap, and the others are in its order again. -/
import Derived.Test.YtfciecoigfnnhaaQWyTke
namespace Go.Proofs.Ytfciecoigfnnhaa
open Go.RowKit

/-- the answer of take -/
def AnsTk (w w' : World) (base Sb m : Nat) (E : Nat → Og) : Prop := ∃ E', Hs w' base Sb m E' ∧ HpOk m E' ∧ (∀ y, MemO m E' y → MemO (m + 1) E y) ∧ (∀ y, MemO (m + 1) E y → y = E 0 ∨ MemO m E' y) ∧ Ht base Sb w w' ∧ Hq Sb w w'
theorem hs_far {w : World} {base Sb m g cap b : Nat} {E : Nat → Og} (h : Hs w base Sb m E) (c5 : w.cell? ⟨Sb, 5, none⟩ = some (.slice (some ⟨g, 0, none⟩) m cap)) (hb : base ≤ b) (hn : b ≠ g) (x : Og) : Hs (st30 w b x) base Sb m E := by
  obtain ⟨v, h1, h2⟩ := h.v
  have hv : v = .slice (some ⟨g, 0, none⟩) m cap := by rw [c5] at h1; exact (Option.some.inj h1).symm
  subst hv
  have hsb := h.sb
  have e := st30_other w b Sb x (by omega)
  have hO : ∀ (w : World) (j : Nat) (u : Value), OwO w base (.slice (some ⟨g, 0, none⟩) m cap) m E → OwO (w.setCell ⟨b, j, none⟩ u) base (.slice (some ⟨g, 0, none⟩) m cap) m E := fun w j u q => ownsRow_setCell_other q (by simp [Value.ownBlock]; omega) u
  exact ⟨h.sb, by rw [st30_size]; exact h.le, ⟨_, (cell_same e 5).trans c5, hO _ _ _ (hO _ _ _ (hO _ _ _ h2))⟩, (frozen_same e 5).trans h.fz, h.all, h.ok⟩
theorem ht_far {base Sb b : Nat} {w w' : World} (h : Ht base Sb w w') (hb : base ≤ b) (hs : Sb < base) (x : Og) : Ht base Sb w (st30 w' b x) := ((h.set hb hs _).set hb hs _).set hb hs _
theorem hq_pop {w wc : World} {Sb m n g cap cap' : Nat} (h : Hq Sb w wc) (c5 : wc.cell? ⟨Sb, 5, none⟩ = some (.slice (some ⟨g, 0, none⟩) n cap')) : Hq Sb w (wc.setCell ⟨Sb, 5, none⟩ (.slice (some ⟨g, 0, none⟩) m cap)) := by
  refine ⟨fun k h1 h2 h3 => (Below.heap_setCell wc ⟨Sb, 5, none⟩ _ k (by simpa using h2)).trans (h.keep k h1 h2 h3), ?_⟩
  have e : hO (wc.setCell ⟨Sb, 5, none⟩ (.slice (some ⟨g, 0, none⟩) m cap)) Sb = hO wc Sb := by
    rw [hO_at (World.cell?_setCell_same _ _ _ c5), hO_at c5]
    rfl
  rw [e]
  exact h.own
theorem hs_pop {w wc : World} {base Sb m g cap : Nat} {E : Nat → Og} (h : Hs w base Sb (m + 1) E) (hw : base ≤ wc.heap.size) (f5 : wc.frozen? ⟨Sb, 5, none⟩ = false) (c5 : wc.cell? ⟨Sb, 5, none⟩ = some (.slice (some ⟨g, 0, none⟩) (m + 1) cap)) (hO : OwO wc base (.slice (some ⟨g, 0, none⟩) (m + 1) cap) (m + 1) (ptO E 0 (E m))) :
    Hs (wc.setCell ⟨Sb, 5, none⟩ (.slice (some ⟨g, 0, none⟩) m cap)) base Sb m (ptO E 0 (E m)) := by
  refine ⟨h.sb, by simpa using hw, ⟨_, World.cell?_setCell_same _ _ _ c5, hO.pop.far (by simpa using h.sb) _⟩, by simpa using f5, fun k hk => ?_, by have := h.ok; omega⟩
  by_cases e1 : k = 0
  · subst e1; rw [ptO_i]; exact h.all m (by omega)
  · rw [ptO_o E _ e1]; exact h.all k (by omega)

set_option maxHeartbeats 4000000 in
set_option maxRecDepth 20000 in
theorem take_some (base Sb m : Nat) (E : Nat → Og) (w : World) (h : Hs w base Sb (m + 1) E) (hk : HpOk (m + 1) E) :
    Calls Try.prog 79 #[.pointer (some ⟨Sb, 5, none⟩)] w fun e w' => e = .returned (.tuple #[ov (E 0), .bool true]) ∧ AnsTk w w' base Sb m E := by
  have hb0 : Below w.heap.size w ((w.alloc (.cells #[.int .i64 0, .int .i64 0, .int .i64 0] 117)).alloc (.cells #[.int .i64 0, .int .i64 0, .int .i64 0] 117)) := ((Below.refl _ _).alloc (Nat.le_refl _) _).alloc (by simp) _
  have bR := (bx_new (w := w) (ovL ⟨0, 0, 0⟩) 117 rfl).alloc (.cells #[.int .i64 0, .int .i64 0, .int .i64 0] 117)
  have bF := bx_new (w := w.alloc (.cells #[.int .i64 0, .int .i64 0, .int .i64 0] 117)) (b := w.heap.size + 1) (ovL ⟨0, 0, 0⟩) 117 (by simp)
  obtain ⟨v, c50, hO0⟩ := h.v
  obtain ⟨g, cap, rfl, hg0, hcap, hP0⟩ := hO0.get (by omega)
  have hgl := hP0.lt
  have hsb := h.sb
  have hle := h.le
  have hm := h.ok
  have hsl := sliceH g m cap hcap
  have hsw : Sb < w.heap.size := by omega
  have c5 := (hb0.cell (p := ⟨Sb, 5, none⟩) hsw).trans c50
  have f5 := (hb0.frozen (p := ⟨Sb, 5, none⟩) hsw).trans h.fz
  have hO := hO0.below hb0
  have hP := hP0.below hb0 hgl
  have x0 : ((w.alloc (.cells #[.int .i64 0, .int .i64 0, .int .i64 0] 117)).alloc (.cells #[.int .i64 0, .int .i64 0, .int .i64 0] 117)).cell? ⟨g, 0, none⟩ = some (.int .i64 (E 0).p) := by have := hP.c 0 (by omega); have e := f3_0 E 0; rw [Nat.zero_mul] at e; rw [e] at this; exact this
  have x1 : ((w.alloc (.cells #[.int .i64 0, .int .i64 0, .int .i64 0] 117)).alloc (.cells #[.int .i64 0, .int .i64 0, .int .i64 0] 117)).cell? ⟨g, 1, none⟩ = some (.int .i64 (E 0).a) := by have := hP.c 1 (by omega); have e := f3_1 E 0; rw [Nat.zero_mul] at e; rw [e] at this; exact this
  have x2 : ((w.alloc (.cells #[.int .i64 0, .int .i64 0, .int .i64 0] 117)).alloc (.cells #[.int .i64 0, .int .i64 0, .int .i64 0] 117)).cell? ⟨g, 2, none⟩ = some (.int .i64 (E 0).b) := by have := hP.c 2 (by omega); have e := f3_2 E 0; rw [Nat.zero_mul] at e; rw [e] at this; exact this
  have y0 := hP.c (m * 3) (by omega)
  have y1 := hP.c (m * 3 + 1) (by omega)
  have y2 := hP.c (m * 3 + 2) (by omega)
  rw [f3_0] at y0
  rw [f3_1] at y1
  rw [f3_2] at y2
  have g0 := hP.fz 0
  have g1 := hP.fz 1
  have g2 := hP.fz 2
  have gl1 := hP.lt
  have HK : Hid (HpOk (m + 1) E) := hk
  have HH : Hid (Hs w base Sb (m + 1) E) := h
  clear hO0 hP0 hP h hk c50
  go_enter Try.func79, Try.ntmps79
  go_upto_region 2 with fail
  generalize (w.alloc (.cells #[.int .i64 0, .int .i64 0, .int .i64 0] 117)).alloc (.cells #[.int .i64 0, .int .i64 0, .int .i64 0] 117) = w1 at *
  have HO : Hid (OwO w1 base (.slice (some ⟨g, 0, none⟩) (m + 1) cap) (m + 1) E) := hO
  have HB0 : Hid (Below w.heap.size w w1) := hb0
  have HC5 : Hid (w1.cell? ⟨Sb, 5, none⟩ = some (.slice (some ⟨g, 0, none⟩) (m + 1) cap)) := c5
  have HBR : Hid (Bx w1 w.heap.size (ovL ⟨0, 0, 0⟩)) := bR
  have HBF : Hid (Bx w1 (w.heap.size + 1) (ovL ⟨0, 0, 0⟩)) := bF
  have z0 := bF.c0
  have z1 := bF.c1
  have z2 := bF.c2
  have q0 := bF.fz 0
  have q1 := bF.fz 1
  have q2 := bF.fz 2
  have LF := bF.lt
  have jz : (((m + 1 : Nat) : Int) == 0) = false := by simp; omega
  have j0 : (0 : Int) ≤ (m : Int) := by omega
  clear hO hb0 bR bF
  go_upto_region 5 with fail
  go_cut [0] from 21 to 39 (fun s wx => CutK w wx base Sb m g cap E s)
  case first =>
    go_region
    go_wp2_with fail
    go_meet
    case rel => exact cutK_mk hsb hle hg0 hgl HB0.out HC5.out f5 HO.out HBR.out HBF.out
  case rest =>
    obtain ⟨rfl, d5, e5, hO2, bR, bF, hT, hQ⟩ := hcut
    clear x0 x1 x2 y0 y1 y2 g0 g1 g2 z0 z1 z2 q0 q1 q2 c5 f5 HO HB0 HC5 HBR HBF gl1 LF
    have hwc : base ≤ wc.heap.size := Nat.le_trans hle hT.size
    have S0 := hs_pop HH.out hwc e5 d5 hO2
    have D0 : (wc.setCell ⟨Sb, 5, none⟩ (.slice (some ⟨g, 0, none⟩) m cap)).cell? ⟨Sb, 5, none⟩ = some (.slice (some ⟨g, 0, none⟩) m cap) := World.cell?_setCell_same _ _ _ d5
    have T0 := hT.hd (.slice (some ⟨g, 0, none⟩) m cap)
    have HQ0 : Hid (Hq Sb w (wc.setCell ⟨Sb, 5, none⟩ (.slice (some ⟨g, 0, none⟩) m cap))) := hq_pop hQ d5
    have bR0 := bR.far (k := 5) (b' := Sb) (.slice (some ⟨g, 0, none⟩) m cap) (by omega)
    have bF0 := bF.far (k := 5) (b' := Sb) (.slice (some ⟨g, 0, none⟩) m cap) (by omega)
    have hsc : Sb < wc.heap.size := by omega
    have HDN : Hid (DnI m (ptO E 0 (E m)) 0) := (DnI.start HK.out (E m) : DnI _ _ _)
    have HS0 : Hid _ := S0
    have HT0 : Hid _ := T0
    have HD0 : Hid _ := D0
    have HR0 : Hid _ := bR0
    have HF0 : Hid _ := bF0
    clear hO2 bR bF hT S0 T0 D0 bR0 bF0 HK hQ
    go_wp2
    clear d5 e5
    go_loopw [6] (fun s wr => ∃ (i : Nat) (F : Nat → Og), s = .int .i64 (i : Int) ∧ i ≤ 2 * m + 2 ∧ DnI m F i ∧ Hs wr base Sb m F ∧ wr.cell? ⟨Sb, 5, none⟩ = some (.slice (some ⟨g, 0, none⟩) m cap) ∧ (∀ y, MemO m F y ↔ MemO m (ptO E 0 (E m)) y) ∧ Bx wr w.heap.size (ovL ⟨0, 0, 0⟩) ∧ Bx wr (w.heap.size + 1) (ovL (E 0)) ∧ Ht base Sb w wr ∧ Hq Sb w wr) (fun s _ => 2 * m + 3 - (intOf s).toNat)
    case atStart => exact ⟨0, ptO E 0 (E m), rfl, by omega, HDN.out, HS0.out, HD0.out, fun _ => Iff.rfl, HR0.out, HF0.out, HT0.out, HQ0.out⟩
    case round =>
      obtain ⟨i, F, rfl, hi2, hD, hS, c5, hM, bR, bF, hT, hQ⟩ := hrel
      clear HDN HS0 HT0 HD0 HR0 HF0 HQ0
      have HD : Hid (DnI m F i) := hD
      have HM : Hid (∀ y, MemO m F y ↔ MemO m (ptO E 0 (E m)) y) := hM
      clear hD hM
      by_cases hlt : i < m
      · have i1 : (i : Int) < (m : Int) := by omega
        have kf := first_any base Sb m i F wr hS hlt
        have hcp := fcO_par m F i
        have hcm : fcO m F i ≤ 2 * m + 2 := by unfold fcO; split <;> omega
        have HDs : Hid (fcO m F i < m → ko (F (fcO m F i)) < ko (F i) → DnI m (swO F (fcO m F i) i) (fcO m F i)) := fun h1 h2 => (HD.out.sw h1 h2 : DnI _ _ _)
        have HDd : Hid (m ≤ fcO m F i ∨ ¬ ko (F (fcO m F i)) < ko (F i) → HpOk m F) := fun h => (HD.out.done (.inr h) : HpOk _ _)
        generalize fcO m F i = c at *
        go_wp2_with fail
        refine kf.mono ?_
        rintro e9 w4 ⟨rfl, hb4⟩
        have S4 := hS.on hb4
        have hsr : Sb < wr.heap.size := Nat.lt_of_lt_of_le hS.sb hS.le
        have c54 := (hb4.cell (p := ⟨Sb, 5, none⟩) hsr).trans c5
        have bR4 := bR.on hb4
        have bF4 := bF.on hb4
        have T4 := hT.trans (ht_below hb4 hS.le hsb)
        have Q4 := hQ.trans (hq_below hb4 hsr) hT.size
        clear kf HD hS c5 bR bF hT hb4 hQ
        by_cases hcl : c < m
        · have c1 : ¬ (m : Int) ≤ (c : Int) := by omega
          have ks := swap_g base Sb m c i g cap F w4 S4 c54 hcl hlt (by omega)
          by_cases hko : ko (F c) < ko (F i)
          · have ks2 := ks.mono (R' := fun e w' => e = .returned (.bool true) ∧ Hs w' base Sb m (swO F c i) ∧ Ht base Sb w4 w' ∧ w'.cell? ⟨Sb, 5, none⟩ = some (.slice (some ⟨g, 0, none⟩) m cap) ∧ ∀ k, k < w4.heap.size → k ≠ g → w'.heap[k]? = w4.heap[k]?) (fun e w' h => ⟨by rw [h.1.1, decide_eq_true hko], by have := h.1.2.1; rw [if_pos hko] at this; exact this, h.1.2.2, h.2.1.trans c54, h.2.2⟩)
            have HD2 : Hid (DnI m (swO F c i) c) := HDs.out hcl hko
            have HM2 : Hid (∀ y, MemO m (swO F c i) y ↔ MemO m (ptO E 0 (E m)) y) := fun y => (mem_sw hcl hlt y).trans (HM.out y)
            clear ks HDs HDd HM hko
            go_wp2_with fail
            refine ks2.mono ?_
            rintro e9 w5 ⟨rfl, S5, T5, c55, hbk⟩
            have bR5 := bR4.heap (hbk _ bR4.lt (by omega)) T5.size
            have bF5 := bF4.heap (hbk _ bF4.lt (by omega)) T5.size
            have T6 := T4.trans T5
            have Q6 := Q4.trans (hq_row c54 (c55.trans c54.symm) hbk) T4.size
            clear ks2 S4 c54 bR4 bF4 T4 T5 hbk Q4
            go_wp2
            go_roundw
            case rel => exact ⟨_, _, _, _, _, _, _, _, _, _, _, _, _, _, _, _, _, _, _, ⟨c, _, rfl, hcm, HD2.out, S5, c55, HM2.out, bR5, bF5, T6, Q6⟩, rfl⟩
            case measure => simp [intOf]; omega
          · have ks2 := ks.mono (R' := fun e w' => e = .returned (.bool false) ∧ Hs w' base Sb m F ∧ Ht base Sb w4 w' ∧ w'.cell? ⟨Sb, 5, none⟩ = some (.slice (some ⟨g, 0, none⟩) m cap) ∧ ∀ k, k < w4.heap.size → k ≠ g → w'.heap[k]? = w4.heap[k]?) (fun e w' h => ⟨by rw [h.1.1, decide_eq_false hko], by have := h.1.2.1; rw [if_neg hko] at this; exact this, h.1.2.2, h.2.1.trans c54, h.2.2⟩)
            have HOK : Hid (HpOk m F) := HDd.out (.inr (by omega))
            clear ks HDs HDd hko
            go_wp2_with fail
            refine ks2.mono ?_
            rintro e9 w5 ⟨rfl, S, T5, c55, hbk⟩
            have bR := bR4.heap (hbk _ bR4.lt (by omega)) T5.size
            have bF := bF4.heap (hbk _ bF4.lt (by omega)) T5.size
            have T := T4.trans T5
            have Q := Q4.trans (hq_row c54 (c55.trans c54.symm) hbk) T4.size
            clear ks2 S4 c54 bR4 bF4 T4 T5 hbk Q4
            have HC55 : Hid _ := c55
            have x0 := bF.c0
            have x1 := bF.c1
            have x2 := bF.c2
            have s0 := bR.c0
            have s1 := bR.c1
            have s2 := bR.c2
            have p0 := bR.fz 0
            have p1 := bR.fz 1
            have p2 := bR.fz 2
            have LR := bR.lt
            have LF := bF.lt
            have bE := bx_st30 bR (E 0)
            have S9 := hs_far (b := w.heap.size) S c55 hle (by omega) (E 0)
            have T9 := ht_far (b := w.heap.size) T hle hsb (E 0)
            have Q9 := hq_st30 (b := w.heap.size) Q (Nat.le_refl _) hsw (E 0)
            clear S T bF c55 Q
            go_wp2
            refine ret_og_tmp Try.results79 rfl bE rfl ?_
            exact ⟨rfl, F, S9, HOK.out, fun y h => (tk_mem y).1 ((HM.out y).1 h), fun y h => ((tk_mem y).2 h).imp id (HM.out y).2, T9, Q9⟩
        · have c1 : (m : Int) ≤ (c : Int) := by omega
          have HOK : Hid (HpOk m F) := HDd.out (.inl (by omega))
          have S := S4
          have c55 := c54
          have bR := bR4
          have bF := bF4
          have T := T4
          have Q := Q4
          clear HDs HDd S4 c54 bR4 bF4 T4 Q4
          have HC55 : Hid _ := c55
          have x0 := bF.c0
          have x1 := bF.c1
          have x2 := bF.c2
          have s0 := bR.c0
          have s1 := bR.c1
          have s2 := bR.c2
          have p0 := bR.fz 0
          have p1 := bR.fz 1
          have p2 := bR.fz 2
          have LR := bR.lt
          have LF := bF.lt
          have bE := bx_st30 bR (E 0)
          have S9 := hs_far (b := w.heap.size) S c55 hle (by omega) (E 0)
          have T9 := ht_far (b := w.heap.size) T hle hsb (E 0)
          have Q9 := hq_st30 (b := w.heap.size) Q (Nat.le_refl _) hsw (E 0)
          clear S T bF c55 Q
          go_wp2
          refine ret_og_tmp Try.results79 rfl bE rfl ?_
          exact ⟨rfl, F, S9, HOK.out, fun y h => (tk_mem y).1 ((HM.out y).1 h), fun y h => ((tk_mem y).2 h).imp id (HM.out y).2, T9, Q9⟩
      · have i1 : ¬ (i : Int) < (m : Int) := by omega
        have HOK : Hid (HpOk m F) := (HD.out.done (.inl (by omega)) : HpOk _ _)
        have S := hS
        have c55 := c5
        have T := hT
        have Q := hQ
        clear HD hS c5 hT hQ
        have HC55 : Hid _ := c55
        have x0 := bF.c0
        have x1 := bF.c1
        have x2 := bF.c2
        have s0 := bR.c0
        have s1 := bR.c1
        have s2 := bR.c2
        have p0 := bR.fz 0
        have p1 := bR.fz 1
        have p2 := bR.fz 2
        have LR := bR.lt
        have LF := bF.lt
        have bE := bx_st30 bR (E 0)
        have S9 := hs_far (b := w.heap.size) S c55 hle (by omega) (E 0)
        have T9 := ht_far (b := w.heap.size) T hle hsb (E 0)
        have Q9 := hq_st30 (b := w.heap.size) Q (Nat.le_refl _) hsw (E 0)
        clear S T bF c55 Q
        go_wp2
        refine ret_og_tmp Try.results79 rfl bE rfl ?_
        exact ⟨rfl, F, S9, HOK.out, fun y h => (tk_mem y).1 ((HM.out y).1 h), fun y h => ((tk_mem y).2 h).imp id (HM.out y).2, T9, Q9⟩
end Go.Proofs.Ytfciecoigfnnhaa
