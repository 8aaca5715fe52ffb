/- Which boards are good, as the program looks at them. -/
import Derived.Test.YtapodfkoknmhdaaDoorQWhImp
import Derived.Test.YtapodfkoknmhdaaDoorQWhGbS
namespace Go.Proofs.YtapodfkoknmhdaaDoor
open Go.RowKit
/-- the number that stands last ahead of place k -/
def lstF (F : Nat → Int) (k : Nat) : Int := if k = 0 then -1 else F (k - 1)
set_option maxHeartbeats 2000000 in
theorem iRising (a : Option Addr) (L c : Nat) (F : Nat → Int) (p : Nat) (w : World) (hL : L ≤ 1048576) (ha : IL w a L F) :
    Calls Tryd.prog 77 #[.slice a L c, .int .i64 (p : Int)] w fun e w' => e = .returned (.bool (rwOk F p L)) ∧ w' = w := by
  have HNo : Hid (∀ j, j < L → ¬ (0 ≤ F j ∧ F j < (p : Int) ∧ (j = 0 ∨ F (j - 1) < F j)) → rwOk F p L = false) := fun j hj h => rwOk_no hj h
  have HMk : Hid ((∀ j, j < L → 0 ≤ F j ∧ F j < (p : Int) ∧ (j = 0 ∨ F (j - 1) < F j)) → rwOk F p L = true) := fun h => rwOk_mk h
  generalize rwOk F p L = Q at *
  go_enter Tryd.func77, Tryd.ntmps77
  go_wp2
  go_loopw [5, 10] (fun u v wr => ∃ k : Nat, k ≤ L ∧ u = .int .i64 (lstF F k) ∧ v = .int .i64 (k : Int) ∧ Hid (∀ j, j < k → 0 ≤ F j ∧ F j < (p : Int) ∧ (j = 0 ∨ F (j - 1) < F j)) ∧ wr = w) (fun _ v _ => L - (intOf v).toNat)
  case atStart => exact ⟨0, Nat.zero_le _, rfl, rfl, fun j hj => absurd hj (Nat.not_lt_zero _), rfl⟩
  case round =>
    obtain ⟨k, hk, rfl, rfl, HJ, hw⟩ := hrel
    have hw' := hw.symm
    clear hw
    subst hw'
    by_cases hlt : k < L
    · obtain ⟨b1, o1, rfl, l1, hc1⟩ := ha (by omega)
      have y1 := hc1 k hlt
      have j0 : (0 : Int) ≤ (k : Int) := by omega
      have j1 : (k : Int) < (L : Int) := by omega
      clear hc1 ha
      have HN2 : Hid (¬ (0 ≤ F k ∧ F k < (p : Int) ∧ (k = 0 ∨ F (k - 1) < F k)) → Q = false) := HNo.out k hlt
      have HA : Hid (lstF F (k + 1) = F k) := (rfl : lstF F (k + 1) = F k)
      have HP : Hid (lstF F k = (if k = 0 then -1 else F (k - 1)) ∧ (0 < k → 0 ≤ F (k - 1))) := ⟨rfl, fun h => (HJ.out (k - 1) (by omega)).1⟩
      have HG : Hid ((0 ≤ F k ∧ F k < (p : Int) ∧ (k = 0 ∨ F (k - 1) < F k)) → ∀ t, t < k + 1 → 0 ≤ F t ∧ F t < (p : Int) ∧ (t = 0 ∨ F (t - 1) < F t)) := fun h t ht => by
        by_cases e : t = k
        · subst e; exact h
        · exact HJ.out t (by omega)
      clear HNo HMk HJ
      generalize F k = X at *
      generalize lstF F k = Y at *
      by_cases q0 : X ≤ Y
      · have hq : Q = false := HN2.out (by
          have := HP.out
          split at this <;> omega)
        subst hq
        clear HN2 HP HG HA
        go_wp2
        go_ret
        exact ⟨rfl, rfl⟩
      by_cases q1 : (p : Int) ≤ X
      · have hq : Q = false := HN2.out (by omega)
        subst hq
        clear HN2 HP HG HA
        go_wp2
        go_ret
        exact ⟨rfl, rfl⟩
      have HJ2 := HG.out (by
        have := HP.out
        split at this <;> omega)
      have HJ3 : Hid (∀ t, t < k + 1 → 0 ≤ F t ∧ F t < (p : Int) ∧ (t = 0 ∨ F (t - 1) < F t)) := HJ2
      clear HN2 HP HG HJ2
      go_wp2
      exact ⟨⟨k + 1, by omega, by rw [HA.out], by go_num, HJ3, trivial⟩, by simp [intOf]; omega⟩
    · have : k = L := by omega
      subst this
      have hq : Q = true := HMk.out HJ.out
      subst hq
      go_wp2
      go_ret
      exact ⟨rfl, rfl⟩
set_option maxRecDepth 20000 in
set_option maxHeartbeats 4000000 in
theorem iGoodBoard (a : Option Addr) (n c : Nat) (b : Option Addr) (m d : Nat) (x : Option Addr) (p q : Nat) (f : Nat → ByteArray) (g : Nat → Bool) (K : Nat → Nat) (R : Nat → Nat → Int) (w : World) (hn : n ≤ 1048576) (hm : m ≤ 1048576) (hp : p ≤ 1048576) (hf : ∀ i, i < n → (f i).size ≤ 1048576) (hK : ∀ i, i < p → K i ≤ 1048576) (h : BD w a n f b m g x p K R) (hT : U8 w) :
    Calls Tryd.prog 33 #[bdv a n c b m d x p q] w fun e w' => e = .returned (.bool (gbB n f m p K R)) ∧ Below w.heap.size w w' := by
  have hb0 : Below w.heap.size w (w.alloc (bdO a n c b m d x p q 38)) := (Below.refl _ _).alloc (Nat.le_refl _) _
  have bA := bx_new (w := w) (bdL a n c b m d x p q) 38 rfl
  have HT : Hid (U8 w) := hT
  clear hT
  have x0 := bA.c0
  have x1 := bA.c1
  have x2 := bA.c2
  by_cases h1 : n < 1
  · rw [gbB_sizes (by omega)]
    have j1 : (n : Int) < 1 := by omega
    go_enter Tryd.func33, Tryd.ntmps33
    go_wp2
    go_ret
    exact ⟨rfl, hb0⟩
  have j1 : ¬ (n : Int) < 1 := by omega
  by_cases h2 : 14 < n
  · rw [gbB_sizes (by omega)]
    have j2 : (14 : Int) < (n : Int) := by omega
    go_enter Tryd.func33, Tryd.ntmps33
    go_wp2
    go_ret
    exact ⟨rfl, hb0⟩
  have j2 : ¬ (14 : Int) < (n : Int) := by omega
  by_cases h3 : m = n
  case neg =>
    rw [gbB_sizes (by omega)]
    have j3 : ((m : Int) == (n : Int)) = false := by simp; omega
    go_enter Tryd.func33, Tryd.ntmps33
    go_wp2
    go_ret
    exact ⟨rfl, hb0⟩
  subst h3
  by_cases h4 : p = m
  case neg =>
    rw [gbB_sizes (by omega)]
    have j4 : ((p : Int) == (m : Int)) = false := by simp; omega
    go_enter Tryd.func33, Tryd.ntmps33
    go_wp2
    go_ret
    exact ⟨rfl, hb0⟩
  subst h4
  have HM : Hid ((∀ i, i < p → plOk f K R p i = true) → gbB p f p p K R = true) := fun h => gbB_mk (by omega) (by omega) h
  have HF : Hid (∀ i, i < p → plOk f K R p i = false → gbB p f p p K R = false) := fun i hi h => gbB_place hi h
  generalize gbB p f p p K R = Q at *
  have kN := fun i w2 (hi : i < p) (h : U8 w2) => iName (f i) w2 (hf i hi) h
  obtain ⟨A, C, hA⟩ := h.nx
  have hS := h.nm
  go_enter Tryd.func33, Tryd.ntmps33
  go_wp2
  clear x0 x1 x2
  go_loopw [32] (fun v wr => ∃ i : Nat, i ≤ p ∧ v = .int .i64 (i : Int) ∧ Hid (∀ j, j < i → plOk f K R p j = true) ∧ Hid (Bx wr w.heap.size (bdL a p c b p d x p q)) ∧ Below w.heap.size w wr) (fun v _ => p - (intOf v).toNat)
  case atStart => exact ⟨0, Nat.zero_le _, rfl, fun j hj => absurd hj (Nat.not_lt_zero _), bA, hb0⟩
  case round =>
    obtain ⟨i, hi, rfl, HS, HB, hB⟩ := hrel
    clear bA hb0
    by_cases hlt : i < p
    · have x2 := HB.out.c2
      obtain ⟨sb, so, rfl, sl, hc1⟩ := (hS.below hB) (by omega)
      have y1 := hc1 i hlt
      have hA2 := hA.below hB
      have hKi := hK i hlt
      have kN2 := fun w2 h => kN i w2 hlt h
      have HU : Hid (U8 wr) := HT.out.below hB
      have i0 : (0 : Int) ≤ (i : Int) := by omega
      have i1 : (i : Int) < (p : Int) := by omega
      have HF1 : Hid ((decide ((f i).size = 0) || nameB (bt (f i)) (f i).size) = false → Q = false) := fun h => HF.out i hlt (by unfold plOk; rw [h]; rfl)
      have HF2 : Hid (rwOk (R i) p (K i) = false → Q = false) := fun h => HF.out i hlt (by unfold plOk; rw [h]; exact Bool.and_false _)
      have HS2 : Hid ((decide ((f i).size = 0) || nameB (bt (f i)) (f i).size) = true → rwOk (R i) p (K i) = true → ∀ j, j < i + 1 → plOk f K R p j = true) := fun h h' j hj => by
        by_cases e : j = i
        · subst e; unfold plOk; rw [h, h']; rfl
        · exact HS.out j (by omega)
      have kR := fun c w2 h => iRising (A i) (K i) c (R i) p w2 hKi h
      clear hc1 HS HM HF kN hA
      generalize nameB (bt (f i)) (f i).size = N at *
      generalize f i = s at *
      generalize rwOk (R i) p (K i) = V at *
      have hz : s.toList = [] ↔ s.size = 0 := tl_nil s
      by_cases e0 : s.size = 0
      · have hs0 : s.toList = [] := hz.mpr e0
        have HS4 : Hid (V = true → ∀ j, j < i + 1 → plOk f K R p j = true) := HS2.out (by rw [decide_eq_true e0]; rfl)
        have hrow := hA2.row i hlt
        obtain ⟨xb, xo, rfl, xl, hc2⟩ := hA2.out (by omega)
        have y2 := hc2 i hlt
        clear HS2 HF1 hz kN2 e0 hA2 hc2
        generalize A i = Z at *
        generalize K i = L at *
        generalize C i = Y at *
        go_wp2_with fail
        refine (kR _ _ hrow).mono ?_
        rintro e w2 ⟨rfl, hw2⟩
        have hs2 := hw2.symm
        clear hw2 kR
        subst hs2
        cases V with
        | false =>
          have hq : Q = false := HF2.out rfl
          subst hq
          go_wp2
          go_ret
          exact ⟨rfl, hB⟩
        | true =>
          have HS5 : Hid (∀ j, j < i + 1 → plOk f K R p j = true) := HS4.out rfl
          clear HS4
          go_wp2
          exact ⟨⟨i + 1, by omega, by go_num, HS5, HB, hB⟩, by simp [intOf]; omega⟩
      · have hs0 : ¬ s.toList = [] := fun h => e0 (hz.mp h)
        cases N with
        | false =>
          have hq : Q = false := HF1.out (by rw [decide_eq_false e0]; rfl)
          subst hq
          clear HS2 HF1 hz e0 hA2 HF2 kR
          go_wp2_with fail
          refine (kN2 _ HU.out).mono ?_
          rintro e w2 ⟨rfl, hb2⟩
          have hB2 := stepA hB hb2
          clear kN2
          go_wp2
          go_ret
          exact ⟨rfl, hB2⟩
        | true =>
          have HS4 : Hid (V = true → ∀ j, j < i + 1 → plOk f K R p j = true) := HS2.out (by simp)
          clear HS2 HF1 hz e0
          go_wp2_with fail
          refine (kN2 _ HU.out).mono ?_
          rintro e w2 ⟨rfl, hb2⟩
          have hB2 := stepA hB hb2
          have HB2 : Hid (Bx w2 w.heap.size (bdL (some ⟨sb, so, none⟩) p c b p d x p q)) := HB.out.on hb2
          have x2' := HB2.out.c2
          have hA3 := hA2.below hb2
          have hrow := hA3.row i hlt
          obtain ⟨xb, xo, rfl, xl, hc2⟩ := hA3.out (by omega)
          have y2 := hc2 i hlt
          clear kN2 hb2 hA2 hA3 hc2 HB x2 hB y1
          generalize A i = Z at *
          generalize K i = L at *
          generalize C i = Y at *
          go_wp2_with fail
          refine (kR _ _ hrow).mono ?_
          rintro e w3 ⟨rfl, hw2⟩
          have hs2 := hw2.symm
          clear hw2 kR
          subst hs2
          cases V with
          | false =>
            have hq : Q = false := HF2.out rfl
            subst hq
            go_wp2
            go_ret
            exact ⟨rfl, hB2⟩
          | true =>
            have HS5 : Hid (∀ j, j < i + 1 → plOk f K R p j = true) := HS4.out rfl
            clear HS4
            go_wp2
            exact ⟨⟨i + 1, by omega, by go_num, HS5, HB2, hB2⟩, by simp [intOf]; omega⟩
    · have : i = p := by omega
      subst this
      have hq : Q = true := HM.out HS.out
      subst hq
      go_wp2
      go_ret
      exact ⟨rfl, hB⟩
end Go.Proofs.YtapodfkoknmhdaaDoor
