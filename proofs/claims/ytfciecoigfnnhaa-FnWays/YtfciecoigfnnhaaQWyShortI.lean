/- The shortest way, as the program finds it. -/
import Derived.Test.YtfciecoigfnnhaaQWySch
import Derived.Test.YtfciecoigfnnhaaQWyGof
import Derived.Test.YtfciecoigfnnhaaQWyShort
import Derived.Test.YtfciecoigfnnhaaQWyLeg
import Derived.BigRegion
import Derived.Deep.RegionHeld
import Derived.Deep.RegionHeld3
import Derived.Deep.CutRange
import Derived.Deep.Cut
namespace Go.Proofs.Ytfciecoigfnnhaa
open Go.RowKit

abbrev st3w (w : World) (R : Nat) (v0 v1 v2 : Value) : World := ((w.setCell ⟨R, 0, none⟩ v0).setCell ⟨R, 1, none⟩ v1).setCell ⟨R, 2, none⟩ v2
theorem lq_st3w {w : World} {lo hi lo' : Nat} {a : Option Addr} {n : Nat} {F : Nat → Int} {R : Nat} (h : LQ w lo hi a n F) (hR : R < lo) (hl : lo' ≤ lo) (v0 v1 v2 : Value) : LQ (st3w w R v0 v1 v2) lo' hi a n F := fun h0 => by
  obtain ⟨b, e1, e2, e3, P⟩ := h h0
  have ot : (st3w w R v0 v1 v2).heap[b]? = w.heap[b]? := (Below.heap_setCell _ ⟨R, _, none⟩ _ b (by simp; omega)).trans ((Below.heap_setCell _ ⟨R, _, none⟩ _ b (by simp; omega)).trans (Below.heap_setCell _ ⟨R, _, none⟩ _ b (by simp; omega)))
  exact ⟨b, e1, by omega, e3, ⟨by simp; exact P.lt, fun i hi => (cell_same ot i).trans (P.c i hi), fun j => (frozen_same ot j).trans (P.fz j)⟩⟩
theorem c3w {w : World} {R b j : Nat} (h : R < b) (v0 v1 v2 : Value) : (st3w w R v0 v1 v2).cell? ⟨b, j, none⟩ = w.cell? ⟨b, j, none⟩ := cell_same ((Below.heap_setCell _ ⟨R, _, none⟩ _ b (by simp; omega)).trans ((Below.heap_setCell _ ⟨R, _, none⟩ _ b (by simp; omega)).trans (Below.heap_setCell _ ⟨R, _, none⟩ _ b (by simp; omega)))) j
theorem own_cap {w : World} {base : Nat} {a : Option Addr} {k c : Nat} {F : Nat → Int} (h : Own w base (.slice a k c) k F) : k ≤ c := by
  obtain ⟨_, ⟨e, h2⟩ | ⟨g, cap, cur, e1, _, _, h4, _⟩⟩ := h
  · omega
  · injection e1 with _ _ e3
    omega
/-- the answer, with what the list has room for -/
def AnsYC (w w' : World) (e : Ending) (l : List Int) (s d : Int) (q : Bool) : Prop :=
  ∃ a' c', e = .returned (.tuple #[.agg #[.slice a' l.length c', .int .i64 s, .int .i64 d], .bool q]) ∧ LQ w' w.heap.size w'.heap.size a' l.length (gl l) ∧ l.length ≤ c'
set_option maxRecDepth 20000 in
set_option maxHeartbeats 8000000 in
theorem implShortC (W : Int) (q : Option Addr) (n c : Nat) (f : Nat → Int) (p v : Int) (w : World) (hn : n ≤ 1048576) (hf : IL w q n f) :
    Calls Try.prog 11 #[cel W q n c, .int .i64 p, .int .i64 v] w fun e w' => (∃ l s d k, Shrt W n f p v l s d k ∧ AnsYC w w' e l s d k) ∧ Below w.heap.size w w' := by
  have hb0 : Below w.heap.size w ((w.alloc (celO W q n c 25)).alloc wayZ) := ((Below.refl _ _).alloc (Nat.le_refl _) _).alloc (by simp) _
  have bR : Bx ((w.alloc (celO W q n c 25)).alloc wayZ) (w.heap.size + 1) [.slice none 0 0, .int .i64 0, .int .i64 0] := bx_new (w := w.alloc (celO W q n c 25)) (b := w.heap.size + 1) [.slice none 0 0, .int .i64 0, .int .i64 0] 30 (by simp)
  cases eg : celB W n f with
  | false =>
    have HN : Hid (Shrt W n f p v [] 0 0 false) := .inr ⟨rfl, rfl, rfl, rfl, fun h => by rw [eg] at h; cases h.1⟩
    have kg := groundOf_no W q n c f _ hn (hf.below hb0) eg
    clear eg
    go_enter Try.func11, Try.ntmps11
    go_wp2_with fail
    refine kg.mono ?_
    rintro e w1 ⟨rfl, hb1⟩
    have hB2 := stepA (stepA hb0 hb1) (al_keep w1 (.cells #[.int .i64 0, .int .i64 0, .slice none 0 0] 73))
    have bR1 := (bR.on hb1).alloc (.cells #[.int .i64 0, .int .i64 0, .slice none 0 0] 73)
    clear kg hb1
    have r0 := bR1.c0
    have r1 := bR1.c1
    have r2 := bR1.c2
    have f0 := bR1.fz 0
    have f1 := bR1.fz 1
    have f2 := bR1.fz 2
    have lR := bR1.lt
    have bE := ((bR1.set 0 (by simp) (.slice none 0 0)).set 1 (by simp) (.int .i64 0)).set 2 (by simp) (.int .i64 0)
    have hBE := ((hB2.setCell (p := ⟨w.heap.size + 1, 0, none⟩) (by simp) (.slice none 0 0)).setCell (p := ⟨w.heap.size + 1, 1, none⟩) (by simp) (.int .i64 0)).setCell (p := ⟨w.heap.size + 1, 2, none⟩) (by simp) (.int .i64 0)
    go_wp2
    refine ret_way Try.results11 rfl bE.c0 bE.c1 bE.c2 rfl ?_
    exact ⟨⟨[], 0, 0, false, HN.out, none, 0, rfl, lq_none _ _ _ _ _, Nat.le_refl _⟩, hBE⟩
  | true =>
    have hs := (celB_parts eg).1
    have hsl := sized_le hs
    have kg := groundOf_yes W q n c f _ hn (hf.below hb0) eg
    have HEG : Hid (celB W n f = true) := eg
    obtain ⟨H, hH⟩ : ∃ H, H = hgt W n := ⟨_, rfl⟩
    rw [← hH] at kg
    have HH : Hid (H = hgt W n) := hH
    clear eg hH
    go_enter Try.func11, Try.ntmps11
    go_wp2_with fail
    refine kg.mono ?_
    rintro e w1 ⟨rfl, hb1⟩
    have hB2 := stepA (stepA hb0 hb1) (al_keep w1 (.cells #[.int .i64 W, .int .i64 H, .slice q n c] 73))
    have bR1 := (bR.on hb1).alloc (.cells #[.int .i64 W, .int .i64 H, .slice q n c] 73)
    have bG := bx_new (w := w1) [.int .i64 W, .int .i64 H, .slice q n c] 73 rfl
    have x0 := bG.c0
    have x1 := bG.c1
    have x2 := bG.c2
    have hF1 := hf.below hB2
    have kf := free_any W H q n c f p _ hF1 hn
    have HB2 : Hid _ := hB2
    have HBR1 : Hid _ := bR1
    have HBG : Hid _ := bG
    clear hB2 bR1 bG bR hb0 hb1 kg
    go_wp2_with fail
    refine kf.mono ?_
    rintro e w2 ⟨rfl, hb2⟩
    have hB3 : Below w.heap.size w w2 := stepA HB2.out hb2
    have bR2 := Bx.on HBR1.out hb2
    have bG2 := Bx.on HBG.out hb2
    clear x0 x1 x2 HB2 HBR1 HBG hF1 kf hb2
    cases ep : frB n f p with
    | false =>
      have HN : Hid (Shrt W n f p v [] 0 0 false) := .inr ⟨rfl, rfl, rfl, rfl, fun h => by rw [ep] at h; cases h.2.1⟩
      clear bG2
      have r0 := bR2.c0
      have r1 := bR2.c1
      have r2 := bR2.c2
      have f0 := bR2.fz 0
      have f1 := bR2.fz 1
      have f2 := bR2.fz 2
      have lR := bR2.lt
      have bE := ((bR2.set 0 (by simp) (.slice none 0 0)).set 1 (by simp) (.int .i64 0)).set 2 (by simp) (.int .i64 0)
      have hBE := ((hB3.setCell (p := ⟨w.heap.size + 1, 0, none⟩) (by simp) (.slice none 0 0)).setCell (p := ⟨w.heap.size + 1, 1, none⟩) (by simp) (.int .i64 0)).setCell (p := ⟨w.heap.size + 1, 2, none⟩) (by simp) (.int .i64 0)
      go_wp2
      refine ret_way Try.results11 rfl bE.c0 bE.c1 bE.c2 rfl ?_
      exact ⟨⟨[], 0, 0, false, HN.out, none, 0, rfl, lq_none _ _ _ _ _, Nat.le_refl _⟩, hBE⟩
    | true =>
      have HEP : Hid (frB n f p = true) := ep
      have kf := free_any W H q n c f v _ (hf.below hB3) hn
      have x0 := bG2.c0
      have x1 := bG2.c1
      have x2 := bG2.c2
      clear ep
      go_wp2_with fail
      refine kf.mono ?_
      rintro e w3 ⟨rfl, hb3⟩
      have hB4 : Below w.heap.size w w3 := stepA hB3 hb3
      have bR3 := bR2.on hb3
      have bG3 := bG2.on hb3
      clear x0 x1 x2 hB3 bR2 bG2 kf hb3
      cases ev : frB n f v with
      | false =>
        have HN : Hid (Shrt W n f p v [] 0 0 false) := .inr ⟨rfl, rfl, rfl, rfl, fun h => by rw [ev] at h; cases h.2.2.1⟩
        clear bG3
        have r0 := bR3.c0
        have r1 := bR3.c1
        have r2 := bR3.c2
        have f0 := bR3.fz 0
        have f1 := bR3.fz 1
        have f2 := bR3.fz 2
        have lR := bR3.lt
        have bE := ((bR3.set 0 (by simp) (.slice none 0 0)).set 1 (by simp) (.int .i64 0)).set 2 (by simp) (.int .i64 0)
        have hBE := ((hB4.setCell (p := ⟨w.heap.size + 1, 0, none⟩) (by simp) (.slice none 0 0)).setCell (p := ⟨w.heap.size + 1, 1, none⟩) (by simp) (.int .i64 0)).setCell (p := ⟨w.heap.size + 1, 2, none⟩) (by simp) (.int .i64 0)
        go_wp2
        refine ret_way Try.results11 rfl bE.c0 bE.c1 bE.c2 rfl ?_
        exact ⟨⟨[], 0, 0, false, HN.out, none, 0, rfl, lq_none _ _ _ _ _, Nat.le_refl _⟩, hBE⟩
      | true =>
        have HEV : Hid (frB n f v = true) := ev
        obtain ⟨p0, p1, _⟩ := frB_t HEP.out
        obtain ⟨v0, v1, _⟩ := frB_t ev
        obtain ⟨x, rfl⟩ := Int.eq_ofNat_of_zero_le p0
        obtain ⟨y, rfl⟩ := Int.eq_ofNat_of_zero_le v0
        have hxn : x < n := by omega
        have hyn : y < n := by omega
        have kse := search_any W H q n c f (stN W n f) y w3 hs HH.out rfl (hf.below hB4) HEV.out
        have x0 := bG3.c0
        have x1 := bG3.c1
        have x2 := bG3.c2
        clear ev
        go_wp2_with fail
        refine kse.mono ?_
        rintro e w4 ⟨Tb, Mb, pv, cv, A, B, D, TA, TB, L, rfl, hD, hDA, hTA, hL, hT4, hM4, gT, gM, hb4⟩
        have hB5 : Below w.heap.size w w4 := stepA hB4 hb4
        have bR4 := bR3.on hb4
        have K5 := al_keep w4 (.cells #[.int .i64 W, .int .i64 H, .slice q n c, .slice (some ⟨Tb, 0, none⟩) n n, .map (some Mb), .slice pv 0 cv] 83)
        have K6 := stepA K5 (al_keep _ (.cells #[] 85))
        have hx : (Lit.int .i64 (x : Int)).wf = true := wf_small (by omega) (by omega)
        have hlk := (hM4.heap (K5.block Mb hM4.lt)).look hx
        have hLx : L (x : Int) = !D x := by rw [hL x hxn, HEP.out]; simp
        rw [hLx] at hlk
        have HDA : Hid (D x = true ↔ 0 ≤ A x) := hDA x hxn
        have HD : Hid (Dst (stN W n f) n y A B) := hD
        have HAG : Hid (∀ i, i < n → 0 ≤ A i → TA i = A i ∧ TB i = B i) := fun i h1 h2 => hTA i ((hDA i h1).2 h2)
        have HRW : Hid (w.heap.size + 1 < w4.heap.size) := bR4.lt
        have HB6 : Hid (Below w.heap.size w ((w4.alloc (.cells #[.int .i64 W, .int .i64 H, .slice q n c, .slice (some ⟨Tb, 0, none⟩) n n, .map (some Mb), .slice pv 0 cv] 83)).alloc (.cells #[] 85))) := stepA hB5 K6
        have HBR6 : Hid (Bx ((w4.alloc (.cells #[.int .i64 W, .int .i64 H, .slice q n c, .slice (some ⟨Tb, 0, none⟩) n n, .map (some Mb), .slice pv 0 cv] 83)).alloc (.cells #[] 85)) (w.heap.size + 1) [.slice none 0 0, .int .i64 0, .int .i64 0]) := bR4.on K6
        have HT6 : Hid (IP ((w4.alloc (.cells #[.int .i64 W, .int .i64 H, .slice q n c, .slice (some ⟨Tb, 0, none⟩) n n, .map (some Mb), .slice pv 0 cv] 83)).alloc (.cells #[] 85)) Tb (n * 2) (f2 TA TB)) := hT4.below K6 hT4.lt
        have HBS6 : Hid (Bx ((w4.alloc (.cells #[.int .i64 W, .int .i64 H, .slice q n c, .slice (some ⟨Tb, 0, none⟩) n n, .map (some Mb), .slice pv 0 cv] 83)).alloc (.cells #[] 85)) w4.heap.size [.int .i64 W, .int .i64 H, .slice q n c, .slice (some ⟨Tb, 0, none⟩) n n, .map (some Mb), .slice pv 0 cv]) := (bx_new (w := w4) [.int .i64 W, .int .i64 H, .slice q n c, .slice (some ⟨Tb, 0, none⟩) n n, .map (some Mb), .slice pv 0 cv] 83 rfl).alloc _
        clear hD hDA hTA hL hT4 hM4 gT gM hb4 hB5 bR4 K5 K6 hLx hB4 bR3 bG3 x0 x1 x2 kse
        generalize hdx : D x = dx at hlk HDA
        clear hdx
        cases dx with
        | false =>
          have HN : Hid (Shrt W n f (x : Int) (y : Int) [] 0 0 false) := .inr ⟨rfl, rfl, rfl, rfl, fun h => by
            obtain ⟨_, _, _, x', y', a, b, e1, e2, hw⟩ := h
            have : x' = x := by omega
            subst this
            have : y' = y := by omega
            subst this
            have h1 := (Dst.least HD.out x' a b hxn hw).1
            have h2 := HDA.out.2 h1
            cases h2⟩
          go_upto_region 6 with fail
          have bR6 := HBR6.out
          have hB6 := HB6.out
          generalize (w4.alloc (.cells #[.int .i64 W, .int .i64 H, .slice q n c, .slice (some ⟨Tb, 0, none⟩) n n, .map (some Mb), .slice pv 0 cv] 83)).alloc (.cells #[] 85) = w6 at *
          have r0 := bR6.c0
          have r1 := bR6.c1
          have r2 := bR6.c2
          have f0 := bR6.fz 0
          have f1 := bR6.fz 1
          have f2 := bR6.fz 2
          have lR := bR6.lt
          have bE := ((bR6.set 0 (by simp) (.slice none 0 0)).set 1 (by simp) (.int .i64 0)).set 2 (by simp) (.int .i64 0)
          have hBE := ((hB6.setCell (p := ⟨w.heap.size + 1, 0, none⟩) (by simp) (.slice none 0 0)).setCell (p := ⟨w.heap.size + 1, 1, none⟩) (by simp) (.int .i64 0)).setCell (p := ⟨w.heap.size + 1, 2, none⟩) (by simp) (.int .i64 0)
          clear HBR6 HB6 HBS6 HT6 hlk HD HDA HAG
          go_wp2
          refine ret_way Try.results11 rfl bE.c0 bE.c1 bE.c2 rfl ?_
          exact ⟨⟨[], 0, 0, false, HN.out, none, 0, rfl, lq_none _ _ _ _ _, Nat.le_refl _⟩, hBE⟩
        | true =>
          have h0 : 0 ≤ A x := HDA.out.1 rfl
          have H0 : Hid (0 ≤ A x) := h0
          clear h0
          go_upto_region 6 with fail
          have lR6 := Bx.lt HBR6.out
          have bS6 := HBS6.out
          have T6 := HT6.out
          have hS4 : w.heap.size + 1 < w4.heap.size := HRW.out
          have hF6 := hf.below HB6.out
          generalize (w4.alloc (.cells #[.int .i64 W, .int .i64 H, .slice q n c, .slice (some ⟨Tb, 0, none⟩) n n, .map (some Mb), .slice pv 0 cv] 83)).alloc (.cells #[] 85) = w6 at *
          have eT := HAG.out x hxn H0.out
          have t0 := T6.c (x * 2) (by omega)
          have t1 := T6.c (x * 2 + 1) (by omega)
          rw [f2_0, eT.1] at t0
          rw [f2_1, eT.2] at t1
          have hSh : Hid (∀ l, Ch (stN W n f) n A B y x l → Shrt W n f (x : Int) (y : Int) l (A x) (B x) true) := fun l hC => (.inl ⟨rfl, HEG.out, x, y, A, B, rfl, rfl, HEP.out, HEV.out, HD.out, H0.out, rfl, rfl, hC⟩ : Shrt _ _ _ _ _ _ _ _ _)
          have kl := fun w hf hT => least_any W H q n c Tb Mb pv cv f (stN W n f) A B TA TB y x w hs HH.out rfl hf hT HD.out HAG.out hxn H0.out hyn
          have j0 : (0 : Int) ≤ (x : Int) := by omega
          have j1 : (x : Int) < (n : Int) := by omega
          have s3 := bS6.c3
          have K7 := al_keep w6 (.cells #[.int .i64 (A x), .int .i64 (B x)] 88)
          have bS7 := bS6.on K7
          have T7 := T6.below K7 T6.lt
          have bT7 := bx_new (w := w6) [.int .i64 (A x), .int .i64 (B x)] 88 rfl
          have hF7 := hF6.below K7
          have hB7 := stepA HB6.out K7
          have bR7 := Bx.on HBR6.out K7
          have sz7 := K7.size
          clear eT HAG HD HDA HBS6 HT6 HB6 HBR6 hlk bS6 T6 hF6
          go_upto_region 9 with fail
          clear s3 t0 t1
          generalize A x = ax at *
          generalize B x = bx at *
          generalize w6.alloc (.cells #[.int .i64 ax, .int .i64 bx] 88) = w7 at *
          have LS := bS7.lt
          have LT := bT7.lt
          have LR := bR7.lt
          have LTb := T7.lt
          have hw0 := Below.refl w7.heap.size w7
          have x0 := bS7.c0
          have x1 := bS7.c1
          have x2 := bS7.c2
          have x3 := bS7.c3
          have x4 := bS7.c 4 (by simp)
          have x5 := bS7.c 5 (by simp)
          simp only [List.getElem?_cons_succ, List.getElem?_cons_zero] at x4 x5
          have t0 := bT7.c0
          have t1 := bT7.c1
          have HBR7 : Hid (Bx w7 (w.heap.size + 1) [.slice none 0 0, .int .i64 0, .int .i64 0]) := bR7
          have HB7 : Hid (Below w.heap.size w w7) := hB7
          have HT7 : Hid (IP w7 Tb (n * 2) (f2 TA TB)) := T7
          have HF7 : Hid (IL w7 q n f) := hF7
          clear bS7 bT7 bR7 hB7 T7 hF7 K7
          generalize w4.heap.size = S4 at *
          generalize w6.heap.size = T4 at *
          go_region_held3 (fun w' => w'.cell? ⟨S4, 0, none⟩ = some (.int .i64 W) ∧ w'.cell? ⟨S4, 1, none⟩ = some (.int .i64 H) ∧ w'.cell? ⟨S4, 2, none⟩ = some (.slice q n c) ∧ w'.cell? ⟨S4, 3, none⟩ = some (.slice (some ⟨Tb, 0, none⟩) n n) ∧ w'.cell? ⟨S4, 4, none⟩ = some (.map (some Mb)) ∧ w'.cell? ⟨S4, 5, none⟩ = some (.slice pv 0 cv) ∧ w'.cell? ⟨T4, 0, none⟩ = some (.int .i64 ax) ∧ w'.cell? ⟨T4, 1, none⟩ = some (.int .i64 bx))
            (first | (exact ⟨(Below.cell (p := ⟨S4, 0, none⟩) hw0.drew LS).trans x0, (Below.cell (p := ⟨S4, 1, none⟩) hw0.drew LS).trans x1, (Below.cell (p := ⟨S4, 2, none⟩) hw0.drew LS).trans x2, (Below.cell (p := ⟨S4, 3, none⟩) hw0.drew LS).trans x3, (Below.cell (p := ⟨S4, 4, none⟩) hw0.drew LS).trans x4, (Below.cell (p := ⟨S4, 5, none⟩) hw0.drew LS).trans x5, (Below.cell (p := ⟨T4, 0, none⟩) hw0.drew LT).trans t0, (Below.cell (p := ⟨T4, 1, none⟩) hw0.drew LT).trans t1⟩) | (exact ⟨(Below.cell (p := ⟨S4, 0, none⟩) hw1 LS).trans x0, (Below.cell (p := ⟨S4, 1, none⟩) hw1 LS).trans x1, (Below.cell (p := ⟨S4, 2, none⟩) hw1 LS).trans x2, (Below.cell (p := ⟨S4, 3, none⟩) hw1 LS).trans x3, (Below.cell (p := ⟨S4, 4, none⟩) hw1 LS).trans x4, (Below.cell (p := ⟨S4, 5, none⟩) hw1 LS).trans x5, (Below.cell (p := ⟨T4, 0, none⟩) hw1 LT).trans t0, (Below.cell (p := ⟨T4, 1, none⟩) hw1 LT).trans t1⟩) | (exact ⟨(c3w hS4 _ _ _).trans ((Below.cell (p := ⟨S4, 0, none⟩) hw1 LS).trans x0), (c3w hS4 _ _ _).trans ((Below.cell (p := ⟨S4, 1, none⟩) hw1 LS).trans x1), (c3w hS4 _ _ _).trans ((Below.cell (p := ⟨S4, 2, none⟩) hw1 LS).trans x2), (c3w hS4 _ _ _).trans ((Below.cell (p := ⟨S4, 3, none⟩) hw1 LS).trans x3), (c3w hS4 _ _ _).trans ((Below.cell (p := ⟨S4, 4, none⟩) hw1 LS).trans x4), (c3w hS4 _ _ _).trans ((Below.cell (p := ⟨S4, 5, none⟩) hw1 LS).trans x5), (c3w lR6 _ _ _).trans ((Below.cell (p := ⟨T4, 0, none⟩) hw1 LT).trans t0), (c3w lR6 _ _ _).trans ((Below.cell (p := ⟨T4, 1, none⟩) hw1 LT).trans t1)⟩) | (fail))
            (first | (go_at_call 43; refine (kl _ (IL.below HF7.out hw0.drew) (IP.below HT7.out hw0.drew LTb)).mono ?_; rintro e9 w9 ⟨⟨l, v9, rfl, hC, hO⟩, hb9⟩; obtain ⟨sa, sc, rfl⟩ := hO.shape; have hw1 := stepA hw0.drew hb9; clear hb9; have b9 := Bx.on HBR7.out hw1; have r0 := b9.c0; have r1 := b9.c1; have r2 := b9.c2; have f0 := b9.fz 0; have f1 := b9.fz 1; have f2 := b9.fz 2) | (fail))
          go_wp2
          have bE := ((b9.set 0 (by simp) (.slice sa l.length sc)).set 1 (by simp) (.int .i64 ax)).set 2 (by simp) (.int .i64 bx)
          have hB9 : Below w.heap.size w w9 := stepA HB7.out hw1
          refine ret_way Try.results11 rfl bE.c0 bE.c1 bE.c2 rfl ?_
          exact ⟨⟨l, ax, bx, true, hSh.out l hC, sa, sc, rfl, by rw [show (st3w w9 (w.heap.size + 1) (.slice sa l.length sc) (.int .i64 ax) (.int .i64 bx)).heap.size = w9.heap.size by simp]; exact lq_st3w (own_less hO (Nat.le_refl w7.heap.size)).lq LR (by omega) _ _ _, own_cap hO⟩, ((hB9.setCell (p := ⟨w.heap.size + 1, 0, none⟩) (by simp) _).setCell (p := ⟨w.heap.size + 1, 1, none⟩) (by simp) _).setCell (p := ⟨w.heap.size + 1, 2, none⟩) (by simp) _⟩
theorem implShort (W : Int) (q : Option Addr) (n c : Nat) (f : Nat → Int) (p v : Int) (w : World) (hn : n ≤ 1048576) (hf : IL w q n f) :
    Calls Try.prog 11 #[cel W q n c, .int .i64 p, .int .i64 v] w fun e w' => (∃ l s d k, Shrt W n f p v l s d k ∧ AnsY w w' e l s d k) ∧ Below w.heap.size w w' := by
  refine (implShortC W q n c f p v w hn hf).mono ?_
  rintro e w' ⟨⟨l, s, d, k, h1, a', c', h2, h3, _⟩, h4⟩
  exact ⟨⟨l, s, d, k, h1, a', c', h2, h3⟩, h4⟩
end Go.Proofs.Ytfciecoigfnnhaa
