/- The places that win; the model. -/
import Derived.Test.YtapodfkoknmhdaaDoorQWhStM
import Derived.Test.YtapodfkoknmhdaaDoorQWhRkM
import Derived.Test.YtapodfkoknmhdaaDoorQWhPlM
import Derived.Test.YtapodfkoknmhdaaDoorQWhCnI
import Derived.Maps.AppendAt
import Derived.Test.YtapodfkoknmhdaaDoorQWhClI
namespace Go.Proofs.YtapodfkoknmhdaaDoor
open Go.RowKit
/-- the places that win -/
def wnV (n : Nat) (f : Nat → ByteArray) (m : Nat) (g : Nat → Bool) (p : Nat) (K : Nat → Nat) (R : Nat → Nat → Int) (rn : Nat) (re : Nat → ByteArray) (an : Nat) (av : Nat → ByteArray) : Option (List Int) :=
  if bwB n f m p K R rn re an av = true then some (wnL (rkV n (knF f rn re an av) rn g K R) n) else none
/-- a list elsewhere stays as it is, whatever grows -/
theorem wn_grow {w w6 : World} {lb p : Nat} {N : Nat → Int} {v v' : Value} {o : Obj} (h : IP w lb p N) (hn : v.ownBlock ≠ some lb) (hg : (w.alloc o).grownBy w6 v.ownBlock) (ha : v'.ownBlock = v.ownBlock ∨ v'.ownBlock = some (w.alloc o).heap.size) : IP w6 lb p N ∧ v'.ownBlock ≠ some lb := by
  have hI : IP (w.alloc o) lb p N := h.below ((Below.refl w.heap.size w).alloc (Nat.le_refl _) o) h.lt
  have e := hg.block lb hI.lt (fun e => hn e.symm)
  refine ⟨⟨Nat.lt_of_lt_of_le hI.lt hg.size, fun i hi => (cell_same e _).trans (hI.c i hi), fun j => (frozen_same e j).trans (hI.fz j)⟩, ?_⟩
  rcases ha with e9 | e9
  · rw [e9]; exact hn
  · rw [e9]
    intro e8
    have := Option.some.inj e8
    have := hI.lt
    omega
end Go.Proofs.YtapodfkoknmhdaaDoor

/- The places that win, as the program tells them (tools/gen_whwn.py). -/
namespace Go.Proofs.YtapodfkoknmhdaaDoor
open Go.RowKit
set_option maxRecDepth 200000 in
set_option maxHeartbeats 8000000 in
theorem iWinning (a : Option Addr) (n c : Nat) (b : Option Addr) (m d : Nat) (x : Option Addr) (p q : Nat) (f : Nat → ByteArray) (g : Nat → Bool) (K : Nat → Nat) (R : Nat → Nat → Int) (ra : Option Addr) (rn rc : Nat) (re : Nat → ByteArray) (aa : Option Addr) (an ac : Nat) (av : Nat → ByteArray) (w : World)
    (hn : n ≤ 1048576) (hm : m ≤ 1048576) (hp : p ≤ 1048576) (hf : ∀ i, i < n → (f i).size ≤ 1048576) (hK : ∀ i, i < p → K i ≤ 1048576) (hrn : rn ≤ 1048576) (han : an ≤ 1048576) (hrc : rn ≤ rc) (hac : an ≤ ac) (hre : ∀ i, i < rn → (re i).size ≤ 1048576) (hav : ∀ i, i < an → (av i).size ≤ 1048576)
    (h : BD w a n f b m g x p K R) (hr : SL w ra rn re) (ha : SL w aa an av) (hT : U8 w) :
    Calls Tryd.prog 16 #[bdv a n c b m d x p q, wsv ra rn rc aa an ac] w fun e w' => AnsPb w w' e (wnV n f m g p K R rn re an av) ∧ Below w.heap.size w w' := by
  obtain ⟨i0, hi, hzz⟩ := Option.map_eq_some_iff.1 infoI
  simp only [Prod.mk.injEq] at hzz
  obtain ⟨hz0, hz1, hz2⟩ := hzz
  have hb1 : Below w.heap.size w (w.alloc (bdO a n c b m d x p q 38)) := (Below.refl _ _).alloc (Nat.le_refl _) _
  have hb2 : Below w.heap.size w ((w.alloc (bdO a n c b m d x p q 38)).alloc (wsO ra rn rc aa an ac 25)) := hb1.alloc (by simp) _
  have bA := (bx_new (w := w) (bdL a n c b m d x p q) 38 rfl).alloc (wsO ra rn rc aa an ac 25)
  have bW := (bx_new (w := w.alloc (bdO a n c b m d x p q 38)) (b := w.heap.size + 1) [.slice ra rn rc, .slice aa an ac] 25 (by simp))
  have hsz : ((w.alloc (bdO a n c b m d x p q 38)).alloc (wsO ra rn rc aa an ac 25)).heap.size = w.heap.size + 2 := by simp
  have HT : Hid (U8 w) := hT
  have kG := fun w2 h h' => iGoodBoard a n c b m d x p q f g K R w2 hn hm hp hf hK h h'
  have kW := fun w2 h1 h2 h3 => iGood ra aa rn rc an ac re av w2 hrn han hrc hac hre hav h1 h2 h3
  clear hT
  have HV : Hid (wnV n f m g p K R rn re an av = if bwB n f m p K R rn re an av = true then some (wnL (rkV n (knF f rn re an av) rn g K R) n) else none) := (rfl : wnV n f m g p K R rn re an av = _)
  obtain ⟨V, HE⟩ : ∃ V, Hid (wnV n f m g p K R rn re an av = V) := ⟨_, (rfl : wnV n f m g p K R rn re an av = _)⟩
  rw [HE.out] at HV
  have x0 := bA.c0
  have x1 := bA.c1
  have x2 := bA.c2
  clear hb1
  cases hG : gbB n f m p K R with
  | false =>
    rw [hG] at kG
    have HN : Hid (V = none) := by
      show V = none
      rw [HV.out, if_neg (by unfold bwB; rw [hG]; simp)]
    go_enter Tryd.func16, Tryd.ntmps16
    go_wp2_with fail
    refine (kG _ (h.below hb2) (HT.out.below hb2)).mono ?_
    rintro e w3 ⟨rfl, hb3⟩
    have hB3 := stepA hb2 hb3
    clear kG kW HV bA bW x0 x1 x2
    go_wp2
    go_ret2
    exact ⟨ansPb_none (HE.out.trans HN.out), hB3⟩
  | true =>
    rw [hG] at kG
    obtain ⟨g1, g2, rfl, rfl, _⟩ := gbB_parts hG
    have hR : OnB p K R := fun i hi j hj => gbB_row hG hi hj
    cases hW : (namB re rn && namB av an) with
    | false =>
      rw [hW] at kW
      have HN : Hid (V = none) := by
        show V = none
        rw [HV.out, if_neg (by unfold bwB; rw [hG, hW]; simp)]
      go_enter Tryd.func16, Tryd.ntmps16
      go_wp2_with fail
      refine (kG _ (h.below hb2) (HT.out.below hb2)).mono ?_
      rintro e w3 ⟨rfl, hb3⟩
      have hB3 := stepA hb2 hb3
      have bW3 := bW.on hb3
      have x3 := bW3.c0
      have x4 := bW3.c1
      clear kG HV bA bW x0 x1 x2
      go_wp2_with fail
      refine (kW _ (hr.below hB3) (ha.below hB3) (HT.out.below hB3)).mono ?_
      rintro e w4 ⟨rfl, hb4⟩
      have hB4 := stepA hB3 hb4
      clear kW bW3 x3 x4
      go_wp2
      go_ret2
      exact ⟨ansPb_none (HE.out.trans HN.out), hB4⟩
    | true =>
      rw [hW] at kW
      have HN : Hid (V = some (wnL (rkV p (knF f rn re an av) rn g K R) p)) := by
        show V = _
        rw [HV.out, if_pos (by unfold bwB; rw [hG, hW]; rfl)]
      have kL := fun w2 h1 h2 h3 => iLeft a p c b d x q f g K R ra rn rc re aa an ac av w2 g1 g2 hK hR hrn han h1 h2 h3
      have HB : Hid (∀ i, i < p → -1 ≤ rkV p (knF f rn re an av) rn g K R i ∧ rkV p (knF f rn re an av) rn g K R i ≤ 13) := fun i hi => rkV_bd hR g2 hi
      clear hR HV hG hW
      generalize knF f rn re an av = kn at *
      go_enter Tryd.func16, Tryd.ntmps16
      go_wp2_with fail
      refine (kG _ (h.below hb2) (HT.out.below hb2)).mono ?_
      rintro e w3 ⟨rfl, hb3⟩
      have hB3 := stepA hb2 hb3
      have bW3 := bW.on hb3
      have bA3 := bA.on hb3
      have x3 := bW3.c0
      have x4 := bW3.c1
      have hs3 := hb3.size
      clear kG bA bW x0 x1 x2 hb3 hb2
      go_wp2_with fail
      refine (kW _ (hr.below hB3) (ha.below hB3) (HT.out.below hB3)).mono ?_
      rintro e w4 ⟨rfl, hb4⟩
      have hs4 := hb4.size
      have hb4' : Below w4.heap.size w4 (w4.alloc (.cells #[] 3)) := (Below.refl _ _).alloc (Nat.le_refl _) _
      have hB4 := stepA (stepA hB3 hb4) hb4'
      have bW4 := (bW3.on hb4).on hb4'
      have bA4 := (bA3.on hb4).on hb4'
      have HO0 : Hid (Own (w4.alloc (.cells #[] 3)) w4.heap.size (.slice (some ⟨w4.heap.size, 0, none⟩) 0 0) (wnL (rkV p kn rn g K R) 0).length (gl (wnL (rkV p kn rn g K R) 0))) := own_lit0 w4 w4.heap.size _ (Nat.le_refl _)
      have hs4' : (w4.alloc (.cells #[] 3)).heap.size = w4.heap.size + 1 := by simp
      have x5 := bA4.c0
      have x6 := bA4.c1
      have x7 := bA4.c2
      have x8 := bW4.c0
      have x9 := bW4.c1
      clear kW bW3 bA3 x3 x4 hb4 hB3
      go_wp2_with fail
      refine (kL _ (h.below hB4) (hr.below hB4) (ha.below hB4)).mono ?_
      rintro e w5 ⟨hA5, hb5⟩
      obtain ⟨lb, lc, rfl, e1, e2, hIP⟩ := hA5
      have hB5 := stepA hB4 hb5
      have hs5 := hb5.size
      have HO5 : Hid (Own w5 w4.heap.size (.slice (some ⟨w4.heap.size, 0, none⟩) 0 0) (wnL (rkV p kn rn g K R) 0).length (gl (wnL (rkV p kn rn g K R) 0))) := HO0.out.below hb5
      have HIP : Hid (IP w5 lb p (fun j => nv (rkV p kn rn g K R j))) := hIP
      have HNe : Hid ((.slice (some ⟨w4.heap.size, 0, none⟩) 0 0 : Value).ownBlock ≠ some lb) := by
        show (.slice (some ⟨w4.heap.size, 0, none⟩) 0 0 : Value).ownBlock ≠ some lb
        intro h9; have := Option.some.inj h9; simp only [size_al] at e1; simp at this; omega
      have hbase5 : w4.heap.size ≤ w5.heap.size := by simp only [size_al] at hs5; omega
      clear kL bW4 bA4 x5 x6 x7 x8 x9 hb5 hB4 HO0 hIP
      go_wp2_with fail
      go_loopw [6, 22] (fun v k wr => ∃ i : Nat, i ≤ p ∧ k = .int .i64 (i : Int) ∧ Own wr w4.heap.size v (wnL (rkV p kn rn g K R) i).length (gl (wnL (rkV p kn rn g K R) i)) ∧ Hid (v.ownBlock ≠ some lb) ∧ Hid (IP wr lb p (fun j => nv (rkV p kn rn g K R j))) ∧ Below w.heap.size w wr ∧ w4.heap.size ≤ wr.heap.size) (fun _ k _ => p - (intOf k).toNat)
      case atStart => exact ⟨0, Nat.zero_le _, rfl, HO5.out, HNe, HIP, hB5, hbase5⟩
      case round =>
        obtain ⟨i, hip, rfl, hown, HNe2, HI, hB, hbase⟩ := hrel
        clear HO5 HIP HNe hB5 hbase5
        have hlen := wnL_len (rkV p kn rn g K R) i
        by_cases hlt : i < p
        · have k0 : (0 : Int) ≤ (i : Int) := by omega
          have k1 : (i : Int) < (p : Int) := by omega
          have y0 := HI.out.c i hlt
          have hbd := HB.out i hlt
          obtain ⟨sa, sc, rfl⟩ := hown.shape
          have HOw : Hid (∀ (v : Value) (w6 : World), w6.ownsRow w4.heap.size 3 1 v ((wnL (rkV p kn rn g K R) i).length + 1) (vL (gl (wnL (rkV p kn rn g K R) i)) (wnL (rkV p kn rn g K R) i).length ++ [.int .i64 (i : Int)]) → Own w6 w4.heap.size v (wnL (rkV p kn rn g K R) i ++ [(i : Int)]).length (gl (wnL (rkV p kn rn g K R) i ++ [(i : Int)]))) := fun v w6 hh => own_snoc hh
          have HStep : Hid (wnL (rkV p kn rn g K R) (i + 1) = if 0 ≤ rkV p kn rn g K R i then wnL (rkV p kn rn g K R) i ++ [(i : Int)] else wnL (rkV p kn rn g K R) i) := (rfl : wnL (rkV p kn rn g K R) (i + 1) = _)
          by_cases h0 : 0 ≤ rkV p kn rn g K R i
          · have HE2 : Hid (wnL (rkV p kn rn g K R) (i + 1) = wnL (rkV p kn rn g K R) i ++ [(i : Int)]) := by
              show wnL (rkV p kn rn g K R) (i + 1) = _
              rw [HStep.out, if_pos h0]
            have e14 : (nv (rkV p kn rn g K R i) == 14) = false := by
              cases e : (nv (rkV p kn rn g K R i) == 14) with
              | false => rfl
              | true => exact absurd h0 ((nv_lt hbd.1 hbd.2).1 e)
            have e15 : (nv (rkV p kn rn g K R i) != 14) = true := by simp only [bne, e14]; rfl
            clear HStep HB
            go_wp2_with (at_builtin; refine wpList_append_own_at _ rfl _ _ 41 rfl w4.heap.size 3 i0 (.int .i64 0) 1 8 Tryd.underlying41 hi hz0 hz1 hz2 rfl (by decide) _ _ _ rfl (World.ownsRow.alloc hown _) ⟨wr.heap.size, 0, none⟩ 1 1 [.int .i64 (i : Int)] rfl rfl (cell_one_new _ _ _) (fun x hx => by simp at hx; subst hx; rfl) (by unfold maxLen; omega) (by omega) (by simp; omega) ?_; intro v' w6 hown' hgrow3 _ hat)
            obtain ⟨hI6, hN6⟩ := wn_grow HI.out HNe2.out hgrow3 hat
            have hB6 := (hB.alloc (by omega) (.cells #[.int .i64 (i : Int)] 3)).grown hgrow3 (by simp; omega) (fun q hq => by have := (World.ownsRow.lt hown q hq).1; omega)
            have hs6 : w4.heap.size ≤ w6.heap.size := by have := hgrow3.size; simp at this; omega
            simp
            go_wp2
            exact ⟨⟨i + 1, by omega, by go_num, by rw [HE2.out]; exact HOw.out _ _ hown', hN6, hI6, hB6, hs6⟩, by simp [intOf]; omega⟩
          · have HE2 : Hid (wnL (rkV p kn rn g K R) (i + 1) = wnL (rkV p kn rn g K R) i) := by
              show wnL (rkV p kn rn g K R) (i + 1) = _
              rw [HStep.out, if_neg h0]
            have e14 : (nv (rkV p kn rn g K R i) == 14) = true := (nv_lt hbd.1 hbd.2).2 h0
            have e15 : (nv (rkV p kn rn g K R i) != 14) = false := by simp only [bne, e14]; rfl
            clear HStep HB
            go_wp2
            exact ⟨⟨i + 1, by omega, by go_num, by rw [HE2.out]; exact hown, HNe2, HI, hB, hbase⟩, by simp [intOf]; omega⟩
        · have hpi : i = p := by omega
          subst hpi
          obtain ⟨sa, sc, rfl⟩ := hown.shape
          clear HB
          go_wp2
          go_ret2
          exact ⟨ansPb_own hown rfl (by omega) (HE.out.trans HN.out), hB⟩
end Go.Proofs.YtapodfkoknmhdaaDoor
