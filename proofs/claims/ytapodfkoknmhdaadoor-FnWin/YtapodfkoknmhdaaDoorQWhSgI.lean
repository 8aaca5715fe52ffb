/- The plan, as the program makes it. -/
import Derived.Test.YtapodfkoknmhdaaDoorQWhStM
import Derived.Test.YtapodfkoknmhdaaDoorQWhClI
namespace Go.Proofs.YtapodfkoknmhdaaDoor
open Go.RowKit
theorem nrK_in {N F : Nat → Int} {n : Nat} : ∀ k, (∀ j, j < k → 0 ≤ F j ∧ F j < (n : Int)) → nrK N F k = -1 ∨ (0 ≤ nrK N F k ∧ nrK N F k < (n : Int)) := by
  intro k
  induction k with
  | zero => intro _; exact .inl rfl
  | succ k ih =>
    intro h
    unfold nrK
    split
    · exact .inr (h k (by omega))
    · exact ih fun j hj => h j (by omega)
set_option maxHeartbeats 4000000 in
theorem iNearest (na : Option Addr) (k nc : Nat) (F : Nat → Int) (la : Option Addr) (n lc : Nat) (N : Nat → Int) (w : World) (hk : k ≤ 1048576) (hF : ∀ j, j < k → 0 ≤ F j ∧ F j < (n : Int)) (hn : IL w na k F) (hl : IL w la n N) :
    Calls Tryd.prog 58 #[.slice na k nc, .slice la n lc] w fun e w' => e = .returned (.int .i64 (nrK N F k)) ∧ Below w.heap.size w w' := by
  have HF : Hid (∀ j, j < k → 0 ≤ F j ∧ F j < (n : Int)) := hF
  clear hF
  go_enter Tryd.func58, Tryd.ntmps58
  go_wp2
  go_loopw [5, 10] (fun v i wr => ∃ j : Nat, j ≤ k ∧ v = .int .i64 (nrK N F j) ∧ i = .int .i64 (j : Int) ∧ Below w.heap.size w wr) (fun _ i _ => k - (intOf i).toNat)
  case atStart => exact ⟨0, Nat.zero_le _, rfl, rfl, Below.refl _ _⟩
  case round =>
    obtain ⟨j, hj, rfl, rfl, hB⟩ := hrel
    by_cases hlt : j < k
    · obtain ⟨ab, ao, rfl, al, hc⟩ := (hn.below hB) (by omega)
      have y1 := hc j hlt
      have hr := HF.out j hlt
      obtain ⟨lb, lo, rfl, ll, hc2⟩ := (hl.below hB) (by omega)
      have y2 := hc2 (F j).toNat (by omega)
      have hq := nrK_in (N := N) (n := n) j fun i hi => HF.out i (by omega)
      have HS : Hid (nrK N F (j + 1) = if nrK N F j = -1 ∨ N (F j).toNat < N (nrK N F j).toNat then F j else nrK N F j) := (rfl : nrK N F (j + 1) = _)
      have j0 : (0 : Int) ≤ (j : Int) := by omega
      have j1 : (j : Int) < (k : Int) := by omega
      have r0 := hr.1
      have r1 := hr.2
      obtain ⟨w8, hw8⟩ : ∃ w8, w8 = wr := ⟨wr, rfl⟩
      subst hw8
      clear hc HF hr
      generalize nrK N F j = Q at *
      generalize F j = X at *
      cases e1 : (Q == -1) with
      | true =>
        have HQ2 : Hid (nrK N F (j + 1) = X) := by
          show nrK N F (j + 1) = X
          rw [HS.out, if_pos (.inl (eq_of_beq e1))]
        clear HS hc2 hq
        go_wp2_with fail
        go_quiet (fail)
        go_wp2
        exact ⟨⟨j + 1, by omega, by rw [HQ2.out], by go_num, below_dr hB _⟩, by simp [intOf]; omega⟩
      | false =>
        have hq1 : 0 ≤ Q ∧ Q < (n : Int) := by
          rcases hq with h | h
          · exact absurd h (ne_of_beq_false e1)
          · exact h
        have y3 := hc2 Q.toNat (by omega)
        have q0 := hq1.1
        have q1 := hq1.2
        clear hc2 hq hq1
        have HS2 : Hid (nrK N F (j + 1) = if N X.toNat < N Q.toNat then X else Q) := by
          show nrK N F (j + 1) = _
          rw [HS.out]
          by_cases h9 : N X.toNat < N Q.toNat
          · rw [if_pos (.inr h9), if_pos h9]
          · rw [if_neg h9, if_neg (by rintro (h | h); exact absurd h (ne_of_beq_false e1); exact h9 h)]
        clear HS
        generalize N X.toNat = A at *
        generalize N Q.toNat = B at *
        by_cases h9 : A < B
        · have e2 : decide (A < B) = true := decide_eq_true h9
          have HQ2 : Hid (nrK N F (j + 1) = X) := by
            show nrK N F (j + 1) = X
            rw [HS2.out, if_pos h9]
          clear HS2
          go_wp2_with fail
          go_quiet (fail)
          go_wp2
          exact ⟨⟨j + 1, by omega, by rw [HQ2.out], by go_num, below_dr hB _⟩, by simp [intOf]; omega⟩
        · have e2 : decide (A < B) = false := decide_eq_false h9
          have HQ2 : Hid (nrK N F (j + 1) = Q) := by
            show nrK N F (j + 1) = Q
            rw [HS2.out, if_neg h9]
          clear HS2
          go_wp2_with fail
          go_quiet (fail)
          go_wp2
          exact ⟨⟨j + 1, by omega, by rw [HQ2.out], by go_num, below_dr hB _⟩, by simp [intOf]; omega⟩
    · have : j = k := by omega
      subst this
      go_wp2
      go_ret
      exact ⟨rfl, hB⟩
/-- the plan of a board and a wish -/
def stV (n : Nat) (f : Nat → ByteArray) (m : Nat) (g : Nat → Bool) (p : Nat) (K : Nat → Nat) (R : Nat → Nat → Int) (rn : Nat) (re : Nat → ByteArray) (an : Nat) (av : Nat → ByteArray) : Option (List Int) :=
  if bwB n f m p K R rn re an av = true then some (fnL (stF n (knF f rn re an av) rn g K R) n) else none
theorem kn_two (f : Nat → ByteArray) (re : Nat → ByteArray) (an : Nat) (av : Nat → ByteArray) {rn : Nat} (h : rn = 0) (i : Nat) : knF f rn re an av i = 0 ∨ knF f rn re an av i = 2 := by
  subst h
  unfold knF
  split
  · exact .inr rfl
  · left; rfl
/-- who wins and has a name to be reached is there -/
theorem re_there {n : Nat} {f : Nat → ByteArray} {rn : Nat} {re : Nat → ByteArray} {an : Nat} {av : Nat → ByteArray} {g : Nat → Bool} {K : Nat → Nat} {R : Nat → Nat → Int} {i : Nat} (hw : 0 ≤ rkV n (knF f rn re an av) rn g K R i) : inS re (f i) rn = decide (0 < rn ∧ rkV n (knF f rn re an av) rn g K R i = 0) := by
  by_cases hr : rn = 0
  · subst hr
    rw [decide_eq_false (by omega)]; rfl
  · have e : rkV n (knF f rn re an av) rn g K R i = lvl (knF f rn re an av) 1 g K R true n i := by unfold rkV; rw [if_neg hr]
    rw [e] at hw ⊢
    cases hs : inS re (f i) rn with
    | true =>
      symm
      refine decide_eq_true ⟨by omega, ?_⟩
      cases ha : inS av (f i) an with
      | true =>
        have h2 : knF f rn re an av i = 2 := by unfold knF; rw [if_pos ha]
        have := lvl_kind (kn := knF f rn re an av) (i := i) (z := 1) (g := g) (K := K) (R := R) (sd := true) (by rw [h2]; decide) (by rw [h2]; decide) n
        omega
      | false =>
        have h1 : knF f rn re an av i = 1 := by unfold knF; rw [if_neg (by rw [ha]; simp), if_pos hs]
        exact lvl_of_aim h1 n
    | false =>
      symm
      refine decide_eq_false fun h => ?_
      have h1 := lvl_aim h.2
      unfold knF at h1
      rw [hs] at h1
      split at h1 <;> simp at h1
set_option maxRecDepth 20000 in
set_option maxHeartbeats 8000000 in
theorem iStrategy (a : Option Addr) (n c : Nat) (b : Option Addr) (m d : Nat) (x : Option Addr) (p q : Nat) (f : Nat → ByteArray) (g : Nat → Bool) (K : Nat → Nat) (R : Nat → Nat → Int) (ra : Option Addr) (rn rc : Nat) (re : Nat → ByteArray) (aa : Option Addr) (an ac : Nat) (av : Nat → ByteArray) (w : World)
    (hn : n ≤ 1048576) (hm : m ≤ 1048576) (hp : p ≤ 1048576) (hf : ∀ i, i < n → (f i).size ≤ 1048576) (hK : ∀ i, i < p → K i ≤ 1048576) (hrn : rn ≤ 1048576) (han : an ≤ 1048576) (hrc : rn ≤ rc) (hac : an ≤ ac) (hre : ∀ i, i < rn → (re i).size ≤ 1048576) (hav : ∀ i, i < an → (av i).size ≤ 1048576)
    (h : BD w a n f b m g x p K R) (hr : SL w ra rn re) (ha : SL w aa an av) (hT : U8 w) :
    Calls Tryd.prog 19 #[bdv a n c b m d x p q, wsv ra rn rc aa an ac] w fun e w' => AnsPb w w' e (stV n f m g p K R rn re an av) ∧ Below w.heap.size w w' := by
  obtain ⟨i0, hi, hzz⟩ := Option.map_eq_some_iff.1 infoI
  simp only [Prod.mk.injEq] at hzz
  obtain ⟨hz0, hz1, hz2⟩ := hzz
  have hb1 : Below w.heap.size w (w.alloc (bdO a n c b m d x p q 38)) := (Below.refl _ _).alloc (Nat.le_refl _) _
  have hb2 : Below w.heap.size w ((w.alloc (bdO a n c b m d x p q 38)).alloc (wsO ra rn rc aa an ac 25)) := hb1.alloc (by simp) _
  have bA := (bx_new (w := w) (bdL a n c b m d x p q) 38 rfl).alloc (wsO ra rn rc aa an ac 25)
  have bW := (bx_new (w := w.alloc (bdO a n c b m d x p q 38)) (b := w.heap.size + 1) [.slice ra rn rc, .slice aa an ac] 25 (by simp))
  have hsz : ((w.alloc (bdO a n c b m d x p q 38)).alloc (wsO ra rn rc aa an ac 25)).heap.size = w.heap.size + 2 := by simp
  have HT : Hid (U8 w) := hT
  have kG := fun w2 h h' => iGoodBoard a n c b m d x p q f g K R w2 hn hm hp hf hK h h'
  have kW := fun w2 h1 h2 h3 => iGood ra aa rn rc an ac re av w2 hrn han hrc hac hre hav h1 h2 h3
  have HV : Hid (stV n f m g p K R rn re an av = if bwB n f m p K R rn re an av = true then some (fnL (stF n (knF f rn re an av) rn g K R) n) else none) := (rfl : stV n f m g p K R rn re an av = _)
  obtain ⟨V, HE⟩ : ∃ V, Hid (stV n f m g p K R rn re an av = V) := ⟨_, (rfl : stV n f m g p K R rn re an av = _)⟩
  rw [HE.out] at HV
  have x0 := bA.c0
  have x1 := bA.c1
  have x2 := bA.c2
  clear hT hb1
  cases hG : gbB n f m p K R with
  | false =>
    rw [hG] at kG
    have HN : Hid (V = none) := by
      show V = none
      rw [HV.out, if_neg (by unfold bwB; rw [hG]; simp)]
    go_enter Tryd.func19, Tryd.ntmps19
    go_wp2_with fail
    refine (kG _ (h.below hb2) (HT.out.below hb2)).mono ?_
    rintro e w3 ⟨rfl, hb3⟩
    have hB3 := stepA hb2 hb3
    clear kG kW HV bA bW x0 x1 x2
    go_wp2
    go_ret2
    exact ⟨ansPb_none (HE.out.trans HN.out), hB3⟩
  | true =>
    rw [hG] at kG
    obtain ⟨g1, g2, rfl, rfl, _⟩ := gbB_parts hG
    have hR : OnB p K R := fun i hi j hj => gbB_row hG hi hj
    cases hW : (namB re rn && namB av an) with
    | false =>
      rw [hW] at kW
      have HN : Hid (V = none) := by
        show V = none
        rw [HV.out, if_neg (by unfold bwB; rw [hG, hW]; simp)]
      go_enter Tryd.func19, Tryd.ntmps19
      go_wp2_with fail
      refine (kG _ (h.below hb2) (HT.out.below hb2)).mono ?_
      rintro e w3 ⟨rfl, hb3⟩
      have hB3 := stepA hb2 hb3
      have bW3 := bW.on hb3
      have x3 := bW3.c0
      have x4 := bW3.c1
      clear kG HV bA bW x0 x1 x2
      go_wp2_with fail
      refine (kW _ (hr.below hB3) (ha.below hB3) (HT.out.below hB3)).mono ?_
      rintro e w4 ⟨rfl, hb4⟩
      have hB4 := stepA hB3 hb4
      clear kW bW3 x3 x4
      go_wp2
      go_ret2
      exact ⟨ansPb_none (HE.out.trans HN.out), hB4⟩
    | true =>
      rw [hW] at kW
      have HN : Hid (V = some (fnL (stF p (knF f rn re an av) rn g K R) p)) := by
        show V = _
        rw [HV.out, if_pos (by unfold bwB; rw [hG, hW]; rfl)]
      have kL := fun w2 h1 h2 h3 => iLeft a p c b d x q f g K R ra rn rc re aa an ac av w2 g1 g2 hK hR hrn han h1 h2 h3
      have kS := fun s w2 (h : SL w2 ra rn re) => iContS ra rn rc re s w2 hrn h
      have kM := fun (i : Nat) na nc la lc w2 (hi : i < p) h1 h2 => iNearest na (K i) nc (R i) la p lc (fun j => nv (rkV p (knF f rn re an av) rn g K R j)) w2 (hK i hi) (hR i hi) h1 h2
      have HB : Hid (∀ i, i < p → -1 ≤ rkV p (knF f rn re an av) rn g K R i ∧ rkV p (knF f rn re an av) rn g K R i ≤ 13) := fun i hi => rkV_bd hR g2 hi
      have HRe : Hid (∀ i, 0 ≤ rkV p (knF f rn re an av) rn g K R i → inS re (f i) rn = decide (0 < rn ∧ rkV p (knF f rn re an av) rn g K R i = 0)) := fun i hw => re_there hw
      have HNe : Hid (∀ i, i < p → g i = true → 0 ≤ rkV p (knF f rn re an av) rn g K R i → ¬ (0 < rn ∧ rkV p (knF f rn re an av) rn g K R i = 0) → nrK (fun j => nv (rkV p (knF f rn re an av) rn g K R j)) (R i) (K i) = stF p (knF f rn re an av) rn g K R i) := fun i hi hg hw hne => st_near hR g2 hi hg hw (fun h => kn_two f re an av h i) hne
      have HSf : Hid (∀ i, stF p (knF f rn re an av) rn g K R i = if g i = true ∧ 0 ≤ rkV p (knF f rn re an av) rn g K R i ∧ ¬ (0 < rn ∧ rkV p (knF f rn re an av) rn g K R i = 0) then spK (rkV p (knF f rn re an av) rn g K R) (R i) (K i) else -1) := fun i => rfl
      clear hR HV hG hW
      generalize knF f rn re an av = kn at *
      go_enter Tryd.func19, Tryd.ntmps19
      go_wp2_with fail
      refine (kG _ (h.below hb2) (HT.out.below hb2)).mono ?_
      rintro e w3 ⟨rfl, hb3⟩
      have hB3 := stepA hb2 hb3
      have bW3 := bW.on hb3
      have bA3 := bA.on hb3
      have x3 := bW3.c0
      have x4 := bW3.c1
      have hs3 := hb3.size
      clear kG bA bW x0 x1 x2 hb3 hb2
      go_wp2_with fail
      refine (kW _ (hr.below hB3) (ha.below hB3) (HT.out.below hB3)).mono ?_
      rintro e w4 ⟨rfl, hb4⟩
      have hB4 := stepA hB3 hb4
      have bW4 := bW3.on hb4
      have bA4 := bA3.on hb4
      have x5 := bA4.c0
      have x6 := bA4.c1
      have x7 := bA4.c2
      have x8 := bW4.c0
      have x9 := bW4.c1
      have hs4 := hb4.size
      clear kW bW3 bA3 x3 x4 hb4 hB3
      go_wp2_with fail
      refine (kL _ (h.below hB4) (hr.below hB4) (ha.below hB4)).mono ?_
      rintro e w5 ⟨hA5, hb5⟩
      obtain ⟨lb, lc, rfl, e1, e2, hIP⟩ := hA5
      have hB5 := stepA hB4 hb5
      have bW5 := bW4.on hb5
      have bA5 := bA4.on hb5
      have hs5 := hb5.size
      have hlt5 := hIP.lt
      clear kL bW4 bA4 x5 x6 x7 x8 x9 hb5 hB4
      have hO := own_lit0 w5 w5.heap.size (stF p kn rn g K R) (Nat.le_refl _)
      have hb6 : Below w5.heap.size w5 (w5.alloc (.cells #[] 3)) := (Below.refl _ _).alloc (Nat.le_refl _) _
      have hB6 := stepA hB5 hb6
      have HIP : Hid (IP (w5.alloc (.cells #[] 3)) lb p (fun j => nv (rkV p kn rn g K R j))) := hIP.below hb6 hlt5
      have HBA : Hid (Bx (w5.alloc (.cells #[] 3)) w.heap.size (bdL a p c b p d x p q)) := bA5.on hb6
      have HBW : Hid (Bx (w5.alloc (.cells #[] 3)) (w.heap.size + 1) [.slice ra rn rc, .slice aa an ac]) := bW5.on hb6
      have hs6 : (w5.alloc (.cells #[] 3)).heap.size = w5.heap.size + 1 := by simp
      have HO : Hid (Own (w5.alloc (.cells #[] 3)) w5.heap.size (.slice (some ⟨w5.heap.size, 0, none⟩) 0 0) 0 (stF p kn rn g K R)) := hO
      clear hO hIP bA5 bW5 hb6 hB5
      go_wp2_with fail
      generalize w5.alloc (.cells #[] 3) = W6 at HO HIP HBA HBW hB6 hs6 ⊢
      go_loopw [7, 24] (fun v k wr => ∃ i : Nat, i ≤ p ∧ k = .int .i64 (i : Int) ∧ Own wr w5.heap.size v i (stF p kn rn g K R) ∧ Below w5.heap.size W6 wr) (fun _ k _ => p - (intOf k).toNat)
      case atStart => exact ⟨0, Nat.zero_le _, rfl, HO.out, Below.refl _ _⟩
      case round =>
        obtain ⟨i, hip, rfl, hown, hB⟩ := hrel
        clear HO
        have hBw : Below w.heap.size w wr := hB6.trans (hB.mono (by omega))
        have hbase : w5.heap.size ≤ wr.heap.size := by have := hB.size; omega
        by_cases hlt : i < p
        · have HA : Hid (Bx wr w.heap.size (bdL a p c b p d x p q)) := HBA.out.below hB (by omega)
          have HW2 : Hid (Bx wr (w.heap.size + 1) [.slice ra rn rc, .slice aa an ac]) := HBW.out.below hB (by omega)
          have HI2 : Hid (IP wr lb p (fun j => nv (rkV p kn rn g K R j))) := HIP.out.below hB hlt5
          have k0 : (0 : Int) ≤ (i : Int) := by omega
          have k1 : (i : Int) < (p : Int) := by omega
          have y0 := HI2.out.c i hlt
          have hbd := HB.out i hlt
          obtain ⟨sb, so, rfl, sl, hc1⟩ := (h.nm.below hBw) (by omega)
          have y1 := hc1 i hlt
          obtain ⟨mb, mo, rfl, ml, hc2⟩ := (h.mi.below hBw) (by omega)
          have y2 := hc2 i hlt
          have u0 := HA.out.c0
          have u1 := HA.out.c1
          have u3 := HW2.out.c0
          have kS2 := kS (f i)
          have hrr := hr.below hBw
          have HN14 : Hid ((nv (rkV p kn rn g K R i) == 14) = true ↔ ¬ 0 ≤ rkV p kn rn g K R i) := nv_lt hbd.1 hbd.2
          have HRe2 : Hid (0 ≤ rkV p kn rn g K R i → inS re (f i) rn = decide (0 < rn ∧ rkV p kn rn g K R i = 0)) := HRe.out i
          have HNe2 : Hid (g i = true → 0 ≤ rkV p kn rn g K R i → ¬ (0 < rn ∧ rkV p kn rn g K R i = 0) → nrK (fun j => nv (rkV p kn rn g K R j)) (R i) (K i) = stF p kn rn g K R i) := HNe.out i hlt
          have HSf2 : Hid (¬ (g i = true ∧ 0 ≤ rkV p kn rn g K R i ∧ ¬ (0 < rn ∧ rkV p kn rn g K R i = 0)) → stF p kn rn g K R i = -1) := fun h9 => by rw [HSf.out, if_neg h9]
          have HOw : Hid (∀ X (v : Value) (w6 : World), X = stF p kn rn g K R i → w6.ownsRow w5.heap.size 3 1 v (i + 1) (vL (stF p kn rn g K R) i ++ [.int .i64 X]) → Own w6 w5.heap.size v (i + 1) (stF p kn rn g K R)) := fun X v w6 hX hh => by
            unfold Own; rw [vL_succ, ← hX]; exact hh
          obtain ⟨sa, sc, rfl⟩ := hown.shape
          obtain ⟨w8, hw8⟩ : ∃ w8, w8 = wr := ⟨wr, rfl⟩
          subst hw8
          clear hc1 hc2 HRe HNe HSf HB hbd kS
          generalize hgi : g i = G at *
          generalize hXi : inS re (f i) rn = I at *
          generalize f i = s at *
          by_cases hskip : G = true ∧ 0 ≤ rkV p kn rn g K R i ∧ I = false
          · obtain ⟨rfl, hw9, rfl⟩ := hskip
            have hnr : ¬ (0 < rn ∧ rkV p kn rn g K R i = 0) := fun h9 => by
              have := HRe2.out hw9
              rw [decide_eq_true h9] at this
              cases this
            have hX := HNe2.out rfl hw9 hnr
            have e14 : (nv (rkV p kn rn g K R i) == 14) = false := by
              cases e : (nv (rkV p kn rn g K R i) == 14) with
              | false => rfl
              | true => exact absurd hw9 (HN14.out.1 e)
            have HXs : Hid (nrK (fun j => nv (rkV p kn rn g K R j)) (R i) (K i) = stF p kn rn g K R i) := hX
            obtain ⟨A, C, hA⟩ := h.nx
            have kM2 := fun w2 nc h1 h2 => kM i (A i) nc (some ⟨lb, 0, none⟩) lc w2 hlt h1 h2
            clear HN14 HRe2 HNe2 HSf2 hnr hw9 hX kM
            generalize nrK (fun j => nv (rkV p kn rn g K R j)) (R i) (K i) = X at *
            generalize nv (rkV p kn rn g K R i) = W14 at *
            have e14' : (W14 != 14) = true := by simp only [bne, e14]; rfl
            go_wp2_with fail
            go_quiet ((go_at_call 57; exact Calls.quiet_of_same (kS2 _ (hrr.below (by first | exact Below.refl _ _ | exact below_dr (Below.refl _ _) _)))))
            have hbq : Below w8.heap.size w8 (w8.drewN nq) := below_dr (Below.refl _ _) nq
            have u2 := (HA.out.on hbq).c2
            have hBw9 := stepA hBw hbq
            have hI9 : IP (w8.drewN nq) lb p (fun j => nv (rkV p kn rn g K R j)) := HI2.out.below hbq HI2.out.lt
            have hown9 := hown.below hbq
            have hB9 := hB.trans (hbq.mono hbase)
            have hbase9 : w5.heap.size ≤ (w8.drewN nq).heap.size := hbase
            obtain ⟨xb, xo, rfl, xl, hc3⟩ := (hA.below hBw9).out (by omega)
            have y3 := hc3 i hlt
            have hrow := (hA.below hBw9).row i hlt
            clear u0 u1 u3 y0 y1 y2 hc3 hA kS2 hrr hbq hown hB hBw hbase HA HW2 HI2
            generalize w8.drewN nq = w9 at *
            generalize A i = Z at *
            generalize C i = Y at *
            generalize K i = M at *
            go_wp2_with fail
            refine (kM2 _ _ hrow hI9.il).mono ?_
            rintro e w10 ⟨rfl, hb10⟩
            have hown10 := hown9.below hb10
            have hB10 := hB9.trans (hb10.mono hbase9)
            have hbase10 : w5.heap.size ≤ w10.heap.size := Nat.le_trans hbase9 hb10.size
            clear kM2 hrow hI9 hown9 hB9 hb10 y3 u2 hBw9 hbase9
            go_wp2_with (at_builtin; refine wpList_append_own _ rfl _ _ 41 rfl w5.heap.size 3 i0 (.int .i64 0) 1 8 Tryd.underlying41 hi hz0 hz1 hz2 rfl (by decide) _ _ _ rfl (World.ownsRow.alloc hown10 _) ⟨w10.heap.size, 0, none⟩ 1 1 [.int .i64 X] rfl rfl (cell_one_new _ _ _) (fun x hx => by simp at hx; subst hx; rfl) (by unfold maxLen; omega) (by omega) (by simp; omega) ?_; intro v' w6 hown' hgrow3 _)
            have hB11 := (hB10.alloc hbase10 (.cells #[.int .i64 X] 3)).grown hgrow3 (by simp; omega) (fun q hq => (World.ownsRow.lt hown10 q hq).1)
            exact ⟨⟨i + 1, by omega, by go_num, HOw.out _ _ _ HXs.out hown', hB11⟩, by simp [intOf]; omega⟩
          · have HXs : Hid ((-1 : Int) = stF p kn rn g K R i) := by
              show (-1 : Int) = _
              symm
              refine HSf2.out fun h9 => hskip ⟨h9.1, h9.2.1, ?_⟩
              have := HRe2.out h9.2.1
              rw [decide_eq_false h9.2.2] at this
              exact this
            have hsplit : G = false ∨ (G = true ∧ (nv (rkV p kn rn g K R i) == 14) = true) ∨ (G = true ∧ (nv (rkV p kn rn g K R i) == 14) = false ∧ I = true) := by
              cases G with
              | false => exact .inl rfl
              | true =>
                cases e : (nv (rkV p kn rn g K R i) == 14) with
                | true => exact .inr (.inl ⟨rfl, rfl⟩)
                | false =>
                  refine .inr (.inr ⟨rfl, rfl, ?_⟩)
                  cases I with
                  | true => rfl
                  | false =>
                    exfalso
                    refine hskip ⟨rfl, ?_, rfl⟩
                    by_cases h9 : 0 ≤ rkV p kn rn g K R i
                    · exact h9
                    · rw [HN14.out.2 h9] at e; cases e
            clear HN14 HRe2 HNe2 HSf2 hskip kM
            generalize nv (rkV p kn rn g K R i) = W14 at *
            have hfin : ∀ nq, Own (w8.drewN nq) w5.heap.size (.slice sa i sc) i (stF p kn rn g K R) ∧ Below w5.heap.size W6 (w8.drewN nq) ∧ w5.heap.size ≤ (w8.drewN nq).heap.size := fun nq => ⟨hown.below (below_dr (Below.refl _ _) nq), hB.trans ((below_dr (Below.refl _ _) nq : Below w8.heap.size w8 (w8.drewN nq)).mono hbase), hbase⟩
            have HFin : Hid (∀ nq, Own (w8.drewN nq) w5.heap.size (.slice sa i sc) i (stF p kn rn g K R) ∧ Below w5.heap.size W6 (w8.drewN nq) ∧ w5.heap.size ≤ (w8.drewN nq).heap.size) := hfin
            clear hfin HA HW2 HI2
            have hsplit2 : G = false ∨ (G = true ∧ (W14 == 14) = true ∧ (W14 != 14) = false) ∨ (G = true ∧ (W14 == 14) = false ∧ (W14 != 14) = true ∧ I = true) := by
              rcases hsplit with h9 | ⟨h9, e14⟩ | ⟨h9, e14, h8⟩
              · exact .inl h9
              · exact .inr (.inl ⟨h9, e14, by simp only [bne, e14]; rfl⟩)
              · exact .inr (.inr ⟨h9, e14, by simp only [bne, e14]; rfl, h8⟩)
            clear hsplit
            rcases hsplit2 with rfl | ⟨rfl, e14, e15⟩ | ⟨rfl, e14, e15, rfl⟩
            all_goals
              go_wp2_with fail
              first | go_quiet (fail) | go_quiet ((go_at_call 57; exact Calls.quiet_of_same (kS2 _ (hrr.below (by first | exact Below.refl _ _ | exact below_dr (Below.refl _ _) _)))))
              obtain ⟨hown9, hB9, hbase9⟩ := HFin.out nq
              clear HFin u0 u1 u3 y0 y1 y2 kS2 hrr hown hB hBw hbase
              generalize w8.drewN nq = w9 at *
              go_wp2_with (at_builtin; refine wpList_append_own _ rfl _ _ 41 rfl w5.heap.size 3 i0 (.int .i64 0) 1 8 Tryd.underlying41 hi hz0 hz1 hz2 rfl (by decide) _ _ _ rfl (World.ownsRow.alloc hown9 _) ⟨w9.heap.size, 0, none⟩ 1 1 [.int .i64 (-1 : Int)] rfl rfl (cell_one_new _ _ _) (fun x hx => by simp at hx; subst hx; rfl) (by unfold maxLen; omega) (by omega) (by simp; omega) ?_; intro v' w6 hown' hgrow3 _)
              have hB11 := (hB9.alloc hbase9 (.cells #[.int .i64 (-1 : Int)] 3)).grown hgrow3 (by simp; omega) (fun q hq => (World.ownsRow.lt hown9 q hq).1)
              exact ⟨⟨i + 1, by omega, by go_num, HOw.out _ _ _ HXs.out hown', hB11⟩, by simp [intOf]; omega⟩
        · have hpi : i = p := by omega
          subst hpi
          obtain ⟨sa, sc, rfl⟩ := hown.shape
          have HOg : Hid (Own wr w5.heap.size (.slice sa i sc) i (gl (fnL (stF i kn rn g K R) i))) := hown.congr fun j hj => (fnL_get _ hj).symm
          clear HSf HNe HRe HB kM kS
          go_wp2
          go_ret2
          exact ⟨ansPb_own HOg.out (fnL_len _ _) (by omega) (HE.out.trans HN.out), hBw⟩
end Go.Proofs.YtapodfkoknmhdaaDoor
