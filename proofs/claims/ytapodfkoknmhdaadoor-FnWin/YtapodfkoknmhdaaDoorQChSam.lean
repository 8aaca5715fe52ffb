/- Whether a path meets a wish, as the program tells it. -/
import Derived.Test.YtapodfkoknmhdaaDoorQWhRnI
import Derived.Test.YtapodfkoknmhdaaDoorQLqBase
namespace Go.Proofs.YtapodfkoknmhdaaDoor
open Go.RowKit
theorem kn_met (f : Nat → ByteArray) (rn : Nat) (re : Nat → ByteArray) (an : Nat) (av : Nat → ByteArray) (P : Nat → Int) (k i : Nat) :
    mtR f rn re an av P (k + 1) i = if knF f rn re an av (P i).toNat = 0 then mtR f rn re an av P k (i + 1) else (knF f rn re an av (P i).toNat == 1) := by
  unfold knF
  show (if inS av (f (P i).toNat) an = true then false else if inS re (f (P i).toNat) rn = true then true else mtR f rn re an av P k (i + 1)) = _
  split
  · rfl
  · split
    · rfl
    · rfl
set_option maxRecDepth 20000 in
set_option maxHeartbeats 4000000 in
theorem iWishMet (a : Option Addr) (n c : Nat) (b : Option Addr) (m d : Nat) (x : Option Addr) (p q : Nat) (f : Nat → ByteArray) (g : Nat → Bool) (K : Nat → Nat) (R : Nat → Nat → Int) (ra : Option Addr) (rn rc : Nat) (re : Nat → ByteArray) (aa : Option Addr) (an ac : Nat) (av : Nat → ByteArray) (ta : Option Addr) (L tc : Nat) (P : Nat → Int) (w : World)
    (hn : n ≤ 1048576) (hm : m ≤ 1048576) (hp : p ≤ 1048576) (hf : ∀ i, i < n → (f i).size ≤ 1048576) (hK : ∀ i, i < p → K i ≤ 1048576) (hrn : rn ≤ 1048576) (han : an ≤ 1048576) (hrc : rn ≤ rc) (hac : an ≤ ac) (hre : ∀ i, i < rn → (re i).size ≤ 1048576) (hav : ∀ i, i < an → (av i).size ≤ 1048576) (hL : L ≤ 1048576) (hLc : L ≤ tc)
    (h : BD w a n f b m g x p K R) (hr : SL w ra rn re) (ha : SL w aa an av) (ht : IL w ta L P) (hT : U8 w) :
    Calls Tryd.prog 22 #[bdv a n c b m d x p q, wsv ra rn rc aa an ac, .slice ta L tc] w fun e w' => e = .returned (.tuple #[.bool (mtV n f m p K R rn re an av P L).1, .bool (mtV n f m p K R rn re an av P L).2]) ∧ Below w.heap.size w w' := by
  have hb1 : Below w.heap.size w (w.alloc (bdO a n c b m d x p q 38)) := (Below.refl _ _).alloc (Nat.le_refl _) _
  have hb2 : Below w.heap.size w ((w.alloc (bdO a n c b m d x p q 38)).alloc (wsO ra rn rc aa an ac 25)) := hb1.alloc (by simp) _
  have bA := (bx_new (w := w) (bdL a n c b m d x p q) 38 rfl).alloc (wsO ra rn rc aa an ac 25)
  have bW := (bx_new (w := w.alloc (bdO a n c b m d x p q 38)) (b := w.heap.size + 1) [.slice ra rn rc, .slice aa an ac] 25 (by simp))
  have HT : Hid (U8 w) := hT
  have kG := fun w2 h h' => iGoodBoard a n c b m d x p q f g K R w2 hn hm hp hf hK h h'
  have kW := fun w2 h1 h2 h3 => iGood ra aa rn rc an ac re av w2 hrn han hrc hac hre hav h1 h2 h3
  have HV : Hid (mtV n f m p K R rn re an av P L = if gbB n f m p K R = true ∧ (namB re rn && namB av an) = true ∧ 1 ≤ L ∧ L ≤ 60 ∧ ptOk n K R P L = true then (mtR f rn re an av P L 0, true) else (false, false)) := (rfl : mtV n f m p K R rn re an av P L = _)
  clear hT hb1
  obtain ⟨w2, hw2⟩ : ∃ w2, w2 = (w.alloc (bdO a n c b m d x p q 38)).alloc (wsO ra rn rc aa an ac 25) := ⟨_, rfl⟩
  cases hG : gbB n f m p K R with
  | false =>
    rw [hG] at kG
    have hv : mtV n f m p K R rn re an av P L = (false, false) := by rw [HV.out, if_neg (by rw [hG]; simp)]
    rw [hv]
    have x0 := bA.c0
    have x1 := bA.c1
    have x2 := bA.c2
    go_enter Tryd.func22, Tryd.ntmps22
    go_wp2_with fail
    refine (kG _ (h.below hb2) (HT.out.below hb2)).mono ?_
    rintro e w3 ⟨rfl, hb3⟩
    have hB3 := stepA hb2 hb3
    clear kG kW HV bA bW x0 x1 x2
    go_wp2
    go_ret2
    exact ⟨rfl, hB3⟩
  | true =>
    rw [hG] at kG
    obtain ⟨g1, g2, rfl, rfl, _⟩ := gbB_parts hG
    have hR : ∀ i, i < p → ∀ j, j < K i → 0 ≤ R i j ∧ R i j < (p : Int) := fun i hi j hj => gbB_row hG hi hj
    cases hW : (namB re rn && namB av an) with
    | false =>
      rw [hW] at kW
      have hv : mtV p f p p K R rn re an av P L = (false, false) := by rw [HV.out, if_neg (by rw [hW]; simp)]
      rw [hv]
      have x0 := bA.c0
      have x1 := bA.c1
      have x2 := bA.c2
      go_enter Tryd.func22, Tryd.ntmps22
      go_wp2_with fail
      refine (kG _ (h.below hb2) (HT.out.below hb2)).mono ?_
      rintro e w3 ⟨rfl, hb3⟩
      have hB3 := stepA hb2 hb3
      have bW3 := bW.on hb3
      have x3 := bW3.c0
      have x4 := bW3.c1
      clear kG HV bA bW x0 x1 x2
      go_wp2_with fail
      refine (kW _ (hr.below hB3) (ha.below hB3) (HT.out.below hB3)).mono ?_
      rintro e w4 ⟨rfl, hb4⟩
      have hB4 := stepA hB3 hb4
      clear kW bW3 x3 x4
      go_wp2
      go_ret2
      exact ⟨rfl, hB4⟩
    | true =>
      rw [hW] at kW
      have kR := fun w2 h1 h2 => iRun a p c b p d x q K R ta L tc P w2 g2 hL hLc hK h1 hR h2
      have kK := fun w2 h1 h2 h3 => iKinds a p c b p d x p q f ra rn rc re aa an ac av w2 hn hrn han h1 h2 h3
      have x0 := bA.c0
      have x1 := bA.c1
      have x2 := bA.c2
      go_enter Tryd.func22, Tryd.ntmps22
      go_wp2_with fail
      refine (kG _ (h.below hb2) (HT.out.below hb2)).mono ?_
      rintro e w3 ⟨rfl, hb3⟩
      have hB3 := stepA hb2 hb3
      have bW3 := bW.on hb3
      have bA3 := bA.on hb3
      have x3 := bW3.c0
      have x4 := bW3.c1
      clear kG bA bW x0 x1 x2 hb3 hb2
      go_wp2_with fail
      refine (kW _ (hr.below hB3) (ha.below hB3) (HT.out.below hB3)).mono ?_
      rintro e w4 ⟨rfl, hb4⟩
      have hB4 := stepA hB3 hb4
      have bW4 := bW3.on hb4
      have bA4 := bA3.on hb4
      have x5 := bA4.c0
      have x6 := bA4.c1
      have x7 := bA4.c2
      clear kW bW3 bA3 x3 x4 hb4 hB3
      cases hN : rnB p K R P L with
      | false =>
        rw [hN] at kR
        have hv : mtV p f p p K R rn re an av P L = (false, false) := by
          rw [HV.out, if_neg]
          rintro ⟨_, _, q1, q2, q3⟩
          unfold rnB at hN
          rw [decide_eq_true ⟨q1, q2⟩, q3] at hN
          cases hN
        have HV2 : Hid (mtV p f p p K R rn re an av P L = (false, false)) := hv
        clear HV hv hN
        obtain ⟨V, HE⟩ : ∃ V, Hid (mtV p f p p K R rn re an av P L = V) := ⟨_, (rfl : mtV p f p p K R rn re an av P L = _)⟩
        rw [HE.out] at HV2
        go_wp2_with fail
        refine (kR _ (h.nx.below hB4) (ht.below hB4)).mono ?_
        rintro e w5 ⟨rfl, hb5⟩
        have hB5 := stepA hB4 hb5
        clear kR kK bA4 bW4 x5 x6 x7
        go_wp2
        go_ret2
        exact ⟨by rw [HE.out, HV2.out]; rfl, hB5⟩
      | true =>
        rw [hN] at kR
        have hN' : decide (1 ≤ L ∧ L ≤ 60) = true ∧ ptOk p K R P L = true := by unfold rnB at hN; simpa only [Bool.and_eq_true] using hN
        have hl60 := of_decide_eq_true hN'.1
        have HI : Hid (∀ i, i < L → 0 ≤ P i ∧ P i < (p : Int)) := fun i hi => stOk_in (of_decide_eq_true hN'.2 i hi)
        have HV2 : Hid (mtV p f p p K R rn re an av P L = (mtR f rn re an av P L 0, true)) := by
          show mtV p f p p K R rn re an av P L = _
          rw [HV.out, if_pos ⟨hG, hW, hl60.1, hl60.2, hN'.2⟩]
        clear HV hN hN'
        obtain ⟨V, HE⟩ : ∃ V, Hid (mtV p f p p K R rn re an av P L = V) := ⟨_, (rfl : mtV p f p p K R rn re an av P L = _)⟩
        rw [HE.out] at HV2
        go_wp2_with fail
        refine (kR _ (h.nx.below hB4) (ht.below hB4)).mono ?_
        rintro e w5 ⟨rfl, hb5⟩
        have hB5 := stepA hB4 hb5
        have bW5 := bW4.on hb5
        have bA5 := bA4.on hb5
        have y0 := bA5.c0
        have y1 := bA5.c1
        have y2 := bA5.c2
        have y3 := bW5.c0
        have y4 := bW5.c1
        clear kR bA4 bW4 x5 x6 x7 hb5 hB4
        go_wp2_with fail
        refine (kK _ (h.nm.below hB5) (hr.below hB5) (ha.below hB5)).mono ?_
        rintro e w6 ⟨hA, hb6⟩
        obtain ⟨a', c', rfl, hc', hO⟩ := hA
        have hB6 := stepA hB5 hb6
        have bW6 := bW5.on hb6
        have hI6 := hO.il
        have ht6 := ht.below hB6
        clear kK bA5 bW5 y0 y1 y2 y3 y4 hb6 hB5 hO
        obtain ⟨T0, HT0⟩ : ∃ T0, Hid (mtR f rn re an av P L 0 = T0) := ⟨_, (rfl : mtR f rn re an av P L 0 = _)⟩
        go_wp2_with fail
        go_loopw [30] (fun v wr => ∃ k : Nat, k ≤ L ∧ v = .int .i64 (k : Int) ∧ Hid (mtR f rn re an av P (L - k) k = T0) ∧ wr = w6) (fun v _ => L - (intOf v).toNat)
        case atStart => exact ⟨0, Nat.zero_le _, rfl, HT0, rfl⟩
        case round =>
          obtain ⟨k, hk, rfl, HM, hw⟩ := hrel
          have hw' := hw.symm
          clear hw
          subst hw'
          by_cases hlt : k < L
          · obtain ⟨tb, to', rfl, tl, hc1⟩ := ht6 (by omega)
            have z1 := hc1 k hlt
            have hX := HI.out k hlt
            obtain ⟨kb, ko, rfl, kl, hc2⟩ := hI6 (by omega)
            have z2 := hc2 (P k).toNat (by omega)
            have HM2 : Hid (T0 = if knF f rn re an av (P k).toNat = 0 then mtR f rn re an av P (L - (k + 1)) (k + 1) else (knF f rn re an av (P k).toNat == 1)) := by
              show T0 = _
              rw [← HM.out, show L - k = (L - (k + 1)) + 1 by omega, kn_met]
            have i0' : (0 : Int) ≤ (k : Int) := by omega
            have i1' : (k : Int) < (L : Int) := by omega
            clear hc1 hc2 HM HI bW6
            generalize hNx : mtR f rn re an av P (L - (k + 1)) (k + 1) = T at *
            generalize P k = X at *
            generalize knF f rn re an av X.toNat = Y at *
            have u0 := hX.1
            have u1 := hX.2
            cases hY : (Y == 0) with
            | true =>
              have hY0 : Y = 0 := eq_of_beq hY
              have HR2 : Hid (mtR f rn re an av P (L - (k + 1)) (k + 1) = T0) := by
                show mtR f rn re an av P (L - (k + 1)) (k + 1) = T0
                rw [hNx, HM2.out, if_pos hY0]
              clear HM2 hY0 hNx HT0 HV2
              go_wp2
              exact ⟨⟨k + 1, by omega, by go_num, HR2, trivial⟩, by simp [intOf]; omega⟩
            | false =>
              have hT0 : T0 = (Y == 1) := by rw [HM2.out, if_neg (ne_of_beq_false hY)]
              have HV3 : Hid (V = ((Y == 1), true)) := by
                show V = _
                rw [HV2.out, HT0.out, hT0]
              clear HM2 HT0 HV2 hT0 hNx
              go_wp2
              go_ret2
              exact ⟨by rw [HE.out, HV3.out]; rfl, hB6⟩
          · have hke : k = L := by omega
            subst hke
            have z3 := bW6.c0
            have hz : decide (rn = 0) = ((rn : Int) == 0) := by
              by_cases e : rn = 0
              · subst e; rfl
              · rw [decide_eq_false e]; symm; simpa using e
            have HV3 : Hid (V = (((rn : Int) == 0), true)) := by
              show V = _
              rw [HV2.out, HT0.out, ← HM.out, Nat.sub_self, ← hz]
              rfl
            clear HM HI HT0 HV2 hz
            go_wp2
            go_ret2
            exact ⟨by rw [HE.out, HV3.out]; rfl, hB6⟩
end Go.Proofs.YtapodfkoknmhdaaDoor

/- Two lists of ints that hold the same, as the model compares them. -/
namespace Go.Proofs.YtapodfkoknmhdaaDoor
open Go.RowKit
set_option maxHeartbeats 2000000 in
theorem sSame (a b : Option Addr) (n c d : Nat) (F : Nat → Int) (w : World) (hn : n ≤ 1048576) (ha : IL w a n F) (hb : IL w b n F) :
    Calls Tryd.prog 18 #[.slice a n c, .slice b n d] w fun e w' => e = .returned (.bool true) ∧ Below w.heap.size w w' := by
  go_enter Tryd.func18, Tryd.ntmps18
  go_wp2
  go_loopw [13] (fun i wr => ∃ k : Nat, k ≤ n ∧ i = .int .i64 (k : Int) ∧ Below w.heap.size w wr) (fun i _ => n - (intOf i).toNat)
  case atStart => exact ⟨0, Nat.zero_le _, rfl, Below.refl _ _⟩
  case round =>
    obtain ⟨k, hk, rfl, hB⟩ := hrel
    by_cases hlt : k < n
    · obtain ⟨b1, o1, rfl, l1, hc1⟩ := (ha.below hB) (by omega)
      obtain ⟨b2, o2, rfl, l2, hc2⟩ := (hb.below hB) (by omega)
      have y1 := hc1 k hlt
      have y2 := hc2 k hlt
      have j0 : (0 : Int) ≤ (k : Int) := by omega
      have j1 : (k : Int) < (n : Int) := by omega
      clear hc1 hc2
      generalize F k = X at *
      go_wp2_with fail
      go_quiet (fail)
      go_wp2
      exact ⟨⟨k + 1, by omega, by go_num, below_dr hB _⟩, by simp [intOf]; omega⟩
    · go_wp2
      go_ret
      exact ⟨rfl, hB⟩
end Go.Proofs.YtapodfkoknmhdaaDoor
