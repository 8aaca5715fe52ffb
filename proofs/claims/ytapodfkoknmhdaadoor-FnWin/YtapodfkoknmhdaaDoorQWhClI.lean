/- The numbers of a board and a wish, as the program reckons them. -/
import Derived.Test.YtapodfkoknmhdaaDoorQWhChI
namespace Go.Proofs.YtapodfkoknmhdaaDoor
open Go.RowKit
set_option maxRecDepth 20000 in
set_option maxHeartbeats 8000000 in
theorem iLeft (a : Option Addr) (n c : Nat) (b : Option Addr) (d : Nat) (x : Option Addr) (q : Nat) (f : Nat → ByteArray) (g : Nat → Bool) (K : Nat → Nat) (R : Nat → Nat → Int) (ra : Option Addr) (rn rc : Nat) (re : Nat → ByteArray) (aa : Option Addr) (an ac : Nat) (av : Nat → ByteArray) (w : World) (h1 : 1 ≤ n) (hn : n ≤ 14) (hK : ∀ i, i < n → K i ≤ 1048576) (hR : OnB n K R) (hrn : rn ≤ 1048576) (han : an ≤ 1048576) (h : BD w a n f b n g x n K R) (hr : SL w ra rn re) (ha : SL w aa an av) :
    Calls Tryd.prog 55 #[bdv a n c b n d x n q, wsv ra rn rc aa an ac] w fun e w' => AnsIP w' w.heap.size n (fun i => nv (rkV n (knF f rn re an av) rn g K R i)) e ∧ Below w.heap.size w w' := by
  have hb1 : Below w.heap.size w (w.alloc (bdO a n c b n d x n q 38)) := (Below.refl _ _).alloc (Nat.le_refl _) _
  have hb2 : Below w.heap.size w ((w.alloc (bdO a n c b n d x n q 38)).alloc (wsO ra rn rc aa an ac 25)) := hb1.alloc (by simp) _
  have bA := (bx_new (w := w) (bdL a n c b n d x n q) 38 rfl).alloc (wsO ra rn rc aa an ac 25)
  have bW := (bx_new (w := w.alloc (bdO a n c b n d x n q 38)) (b := w.heap.size + 1) [.slice ra rn rc, .slice aa an ac] 25 (by simp))
  have hsz : ((w.alloc (bdO a n c b n d x n q 38)).alloc (wsO ra rn rc aa an ac 25)).heap.size = w.heap.size + 2 := by simp
  have kK := fun w2 g1 g2 g3 => iKinds a n c b n d x n q f ra rn rc re aa an ac av w2 (by omega) hrn han g1 g2 g3
  have kC := fun ka kc z sd w2 g1 g2 => iChoices a n c b d x q f g K R ka kc (knF f rn re an av) z sd w2 h1 hn hK hR g1 g2
  have HRV : Hid (∀ i, rkV n (knF f rn re an av) rn g K R i = if rn = 0 then (if 0 ≤ lvl (knF f rn re an av) 2 g K R false n i then -1 else 0) else lvl (knF f rn re an av) 1 g K R true n i) := fun i => rfl
  have HL : Hid (∀ i, i < n → ((nv (lvl (knF f rn re an av) 2 g K R false n i) == 14) = true ↔ ¬ 0 ≤ lvl (knF f rn re an av) 2 g K R false n i)) := fun i hi => nv_lt (lvl_lo n i) (by have := lvl_lt (kn := knF f rn re an av) (z := 2) (g := g) (sd := false) hR n i hi; omega)
  have x0 := bA.c0
  have x1 := bA.c1
  have x2 := bA.c2
  have y0 := bW.c0
  have y1 := bW.c1
  clear hR hb1
  generalize knF f rn re an av = kn at *
  go_enter Tryd.func55, Tryd.ntmps55
  go_wp2_with fail
  refine (kK _ (h.nm.below hb2) (hr.below hb2) (ha.below hb2)).mono ?_
  rintro e w3 ⟨hA, hb3⟩
  obtain ⟨ka, kc, rfl, hkc, hOk⟩ := hA
  have hB3 := stepA hb2 hb3
  have hIk := hOk.il
  have bA3 := bA.on hb3
  have bW3 := bW.on hb3
  have hs3 := hb3.size
  have z0 := bA3.c0
  have z1 := bA3.c1
  have z2 := bA3.c2
  have z3 := bW3.c0
  clear kK bA bW x0 x1 x2 y0 y1 hb3 hb2 hOk
  by_cases h0 : 0 < rn
  · have j0 : (0 : Int) < (rn : Int) := by omega
    go_wp2_with fail
    refine (kC ka kc 1 true _ (h.below hB3) hIk).mono ?_
    rintro e w4 ⟨hA4, hb4⟩
    obtain ⟨lb, lc, rfl, e1, e2, hIP⟩ := hA4
    have hB4 := stepA hB3 hb4
    have HIP : Hid (IP w4 lb n (fun i => nv (rkV n kn rn g K R i))) := hIP.congr fun i _ => by rw [HRV.out, if_neg (by omega)]
    clear kC HRV HL hIP z0 z1 z2 z3 bA3 bW3
    go_wp2
    go_ret
    exact ⟨⟨lb, lc, rfl, by omega, e2, HIP.out⟩, hB4⟩
  · have j0 : ¬ (0 : Int) < (rn : Int) := by omega
    go_wp2_with fail
    refine (kC ka kc 2 false _ (h.below hB3) hIk).mono ?_
    rintro e w4 ⟨hA4, hb4⟩
    obtain ⟨lb, lc, rfl, e1, e2, hIP⟩ := hA4
    have hB4 := stepA hB3 hb4
    have elb : w.heap.size + 2 ≤ lb := by omega
    have HI0 : Hid (IP w4 lb n (fun j => if j < 0 then nv (rkV n kn rn g K R j) else nv (lvl kn 2 g K R false n j))) := hIP.congr fun i _ => by rw [if_neg (by omega)]
    clear kC hIP z0 z1 z2 z3 bA3 bW3
    go_wp2_with fail
    go_loopw [26] (fun k wr => ∃ i : Nat, i ≤ n ∧ k = .int .i64 (i : Int) ∧ Hid (IP wr lb n (fun j => if j < i then nv (rkV n kn rn g K R j) else nv (lvl kn 2 g K R false n j))) ∧ Below w.heap.size w wr) (fun k _ => n - (intOf k).toNat)
    case atStart => exact ⟨0, Nat.zero_le _, rfl, HI0, hB4⟩
    case round =>
      obtain ⟨i, hi, rfl, HI, hB⟩ := hrel
      clear HI0 hB4
      by_cases hlt : i < n
      · have k0 : (0 : Int) ≤ (i : Int) := by omega
        have k1 : (i : Int) < (n : Int) := by omega
        have y2 := HI.out.c i hlt
        have y3 := HI.out.lt
        have y4 := HI.out.fz i
        simp only [Nat.lt_irrefl, if_false] at y2
        have HLi : Hid ((nv (lvl kn 2 g K R false n i) == 14) = true ↔ ¬ 0 ≤ lvl kn 2 g K R false n i) := ⟨fun h9 => by have := (HL.out i hlt).1 h9; omega, fun h9 => (HL.out i hlt).2 (by omega)⟩
        have HRi : Hid (rkV n kn rn g K R i = (if 0 ≤ lvl kn 2 g K R false n i then -1 else 0)) := by
          show rkV n kn rn g K R i = _
          rw [HRV.out, if_pos (by omega)]
        have HSet : Hid (∀ V w2, V = nv (rkV n kn rn g K R i) → IP w2 lb n (fun j => if j < i then nv (rkV n kn rn g K R j) else nv (lvl kn 2 g K R false n j)) → IP (w2.setCell ⟨lb, i, none⟩ (.int .i64 V)) lb n (fun j => if j < i + 1 then nv (rkV n kn rn g K R j) else nv (lvl kn 2 g K R false n j))) := fun V w2 hV h9 => (h9.set hlt V).congr fun j _ => by
          simp only [put]
          by_cases e : j = i
          · subst e; rw [if_pos rfl, if_pos (by omega), hV]
          · rw [if_neg e]
            by_cases e3 : j < i
            · rw [if_pos e3, if_pos (by omega)]
            · rw [if_neg e3, if_neg (by omega)]
        have HSet0 : Hid (∀ V w2, IP w2 lb n (fun j => if j < i then nv (rkV n kn rn g K R j) else nv (lvl kn 2 g K R false n j)) → IP (w2.setCell ⟨lb, i, none⟩ (.int .i64 V)) lb n (put (fun j => if j < i then nv (rkV n kn rn g K R j) else nv (lvl kn 2 g K R false n j)) i V)) := fun V w2 h9 => h9.set hlt V
        have HSet1 : Hid (∀ V U w2, V = nv (rkV n kn rn g K R i) → IP w2 lb n (put (fun j => if j < i then nv (rkV n kn rn g K R j) else nv (lvl kn 2 g K R false n j)) i U) → IP (w2.setCell ⟨lb, i, none⟩ (.int .i64 V)) lb n (fun j => if j < i + 1 then nv (rkV n kn rn g K R j) else nv (lvl kn 2 g K R false n j))) := fun V U w2 hV h9 => (h9.set hlt V).congr fun j _ => by
          simp only [put]
          by_cases e : j = i
          · subst e; rw [if_pos rfl, if_pos (by omega), hV]
          · rw [if_neg e, if_neg e]
            by_cases e3 : j < i
            · rw [if_pos e3, if_pos (by omega)]
            · rw [if_neg e3, if_neg (by omega)]
        have hBs := hB.setCell (p := ⟨lb, i, none⟩) (by simp <;> omega) (.int .i64 14)
        clear HRV HL
        generalize hW : lvl kn 2 g K R false n i = W at *
        cases e1 : (nv W == 14) with
        | false =>
          have hV : (14 : Int) = nv (rkV n kn rn g K R i) := by
            have h9 : 0 ≤ W := by
              by_cases h9 : 0 ≤ W
              · exact h9
              · rw [HLi.out.2 h9] at e1; cases e1
            rw [HRi.out, if_pos h9]; rfl
          have HI2 : Hid (IP (wr.setCell ⟨lb, i, none⟩ (.int .i64 14)) lb n (fun j => if j < i + 1 then nv (rkV n kn rn g K R j) else nv (lvl kn 2 g K R false n j))) := HSet.out 14 wr hV HI.out
          clear HLi HRi HSet HSet0 HSet1 hV hW HI
          generalize nv W = W' at *
          go_wp2
          exact ⟨⟨i + 1, by omega, by go_num, HI2, hBs⟩, by simp [intOf]; omega⟩
        | true =>
          have hV : (0 : Int) = nv (rkV n kn rn g K R i) := by
            rw [HRi.out, if_neg (HLi.out.1 e1)]; rfl
          have HI2 : Hid (IP (wr.setCell ⟨lb, i, none⟩ (.int .i64 14)) lb n (put (fun j => if j < i then nv (rkV n kn rn g K R j) else nv (lvl kn 2 g K R false n j)) i 14)) := HSet0.out 14 wr HI.out
          have HI3 : Hid (IP ((wr.setCell ⟨lb, i, none⟩ (.int .i64 14)).setCell ⟨lb, i, none⟩ (.int .i64 0)) lb n (fun j => if j < i + 1 then nv (rkV n kn rn g K R j) else nv (lvl kn 2 g K R false n j))) := HSet1.out 0 14 _ hV HI2.out
          have hBt := hBs.setCell (p := ⟨lb, i, none⟩) (by simp <;> omega) (.int .i64 0)
          have u2 := HI2.out.c i hlt
          have u3 := HI2.out.lt
          have u4 := HI2.out.fz i
          clear HLi HRi HSet HSet0 HSet1 hV hW HI HI2
          generalize nv W = W' at *
          go_wp2
          exact ⟨⟨i + 1, by omega, by go_num, HI3, hBt⟩, by simp [intOf]; omega⟩
      · have hin : i = n := by omega
        subst hin
        have HI2 : Hid (IP wr lb i (fun j => nv (rkV i kn rn g K R j))) := HI.out.congr fun j hj => by rw [if_pos hj]
        clear HI HRV HL
        go_wp2
        go_ret
        exact ⟨⟨lb, lc, rfl, by omega, e2, HI2.out⟩, hB⟩
end Go.Proofs.YtapodfkoknmhdaaDoor
