/- Which boards are good, as the model says it. -/
import Derived.Test.YtapodfkoknmhdaaDoorQWhMtM
import Derived.Test.YtapodfkoknmhdaaDoorQWhBd
namespace Go.Proofs.YtapodfkoknmhdaaDoor
open Go.RowKit
theorem tl_nil (s : ByteArray) : s.toList = [] ↔ s.size = 0 := by
  rw [ByteArray.toList_eq, Array.toList_eq_nil_iff]
  exact (Array.size_eq_zero_iff (xs := s.data)).symm
set_option maxRecDepth 20000 in
set_option maxHeartbeats 4000000 in
theorem sGoodBoard (a : Option Addr) (n c : Nat) (b : Option Addr) (m d : Nat) (x : Option Addr) (p q : Nat) (f : Nat → ByteArray) (g : Nat → Bool) (K : Nat → Nat) (R : Nat → Nat → Int) (w : World) (hn : n ≤ 1048576) (hm : m ≤ 1048576) (hp : p ≤ 1048576) (hf : ∀ i, i < n → (f i).size ≤ 1048576) (hK : ∀ i, i < p → K i ≤ 1048576) (h : BD w a n f b m g x p K R) :
    Calls Tryd.prog 31 #[bdv a n c b m d x p q] w fun e w' => e = .returned (.bool (gbB n f m p K R)) ∧ Below w.heap.size w w' := by
  have hb0 : Below w.heap.size w (w.alloc (bdO a n c b m d x p q 38)) := (Below.refl _ _).alloc (Nat.le_refl _) _
  have bA := bx_new (w := w) (bdL a n c b m d x p q) 38 rfl
  have x0 := bA.c0
  have x1 := bA.c1
  have x2 := bA.c2
  by_cases h1 : n < 1
  · rw [gbB_sizes (by omega)]
    have j1 : (n : Int) < 1 := by omega
    go_enter Tryd.func31, Tryd.ntmps31
    go_wp2
    go_ret
    exact ⟨rfl, hb0⟩
  have j1 : ¬ (n : Int) < 1 := by omega
  by_cases h2 : 14 < n
  · rw [gbB_sizes (by omega)]
    have j2 : (14 : Int) < (n : Int) := by omega
    go_enter Tryd.func31, Tryd.ntmps31
    go_wp2
    go_ret
    exact ⟨rfl, hb0⟩
  have j2 : ¬ (14 : Int) < (n : Int) := by omega
  by_cases h3 : m = n
  case neg =>
    rw [gbB_sizes (by omega)]
    have j3 : ((m : Int) == (n : Int)) = false := by simp; omega
    go_enter Tryd.func31, Tryd.ntmps31
    go_wp2
    go_ret
    exact ⟨rfl, hb0⟩
  subst h3
  by_cases h4 : p = m
  case neg =>
    rw [gbB_sizes (by omega)]
    have j4 : ((p : Int) == (m : Int)) = false := by simp; omega
    go_enter Tryd.func31, Tryd.ntmps31
    go_wp2
    go_ret
    exact ⟨rfl, hb0⟩
  subst h4
  have HT : Hid ((∀ i, i < p → plOk f K R p i = true) → gbB p f p p K R = true) := fun h => gbB_mk (by omega) (by omega) h
  have HF : Hid (∀ i, i < p → plOk f K R p i = false → gbB p f p p K R = false) := fun i hi h => gbB_place hi h
  generalize gbB p f p p K R = Q at *
  have kN := fun i w2 (hi : i < p) => sName (f i) w2 (hf i hi)
  obtain ⟨A, C, hA⟩ := h.nx
  have hS := h.nm
  go_enter Tryd.func31, Tryd.ntmps31
  go_wp2
  clear x0 x1 x2
  go_loopw [34] (fun v wr => ∃ i : Nat, i ≤ p ∧ v = .int .i64 (i : Int) ∧ Hid (∀ j, j < i → plOk f K R p j = true) ∧ Hid (Bx wr w.heap.size (bdL a p c b p d x p q)) ∧ Below w.heap.size w wr) (fun v _ => p - (intOf v).toNat)
  case atStart => exact ⟨0, Nat.zero_le _, rfl, fun j hj => absurd hj (Nat.not_lt_zero _), bA, hb0⟩
  case round =>
    obtain ⟨i, hi, rfl, HS, HB, hB⟩ := hrel
    clear bA hb0
    by_cases hlt : i < p
    · have x2 := HB.out.c2
      obtain ⟨sb, so, rfl, sl, hc1⟩ := (hS.below hB) (by omega)
      have y1 := hc1 i hlt
      obtain ⟨xb, xo, rfl, xl, hc2⟩ := (hA.below hB).out (by omega)
      have y2 := hc2 i hlt
      have hrow := (hA.below hB).row i hlt
      have hKi := hK i hlt
      have kN2 := fun w2 => kN i w2 hlt
      have i0 : (0 : Int) ≤ (i : Int) := by omega
      have i1 : (i : Int) < (p : Int) := by omega
      have HF1 : Hid ((decide ((f i).size = 0) || nameB (bt (f i)) (f i).size) = false → Q = false) := fun h => HF.out i hlt (by unfold plOk; rw [h]; rfl)
      have HF2 : Hid (rwOk (R i) p (K i) = false → Q = false) := fun h => HF.out i hlt (by unfold plOk; rw [h]; exact Bool.and_false _)
      have HS2 : Hid ((decide ((f i).size = 0) || nameB (bt (f i)) (f i).size) = true → rwOk (R i) p (K i) = true → ∀ j, j < i + 1 → plOk f K R p j = true) := fun h h' j hj => by
        by_cases e : j = i
        · subst e; unfold plOk; rw [h, h']; rfl
        · exact HS.out j (by omega)
      clear hc1 hc2 HS HT HF kN
      generalize R i = F at *
      generalize A i = Z at *
      generalize K i = L at *
      generalize C i = Y at *
      generalize nameB (bt (f i)) (f i).size = N at *
      generalize f i = s at *
      have hz : s.toList = [] ↔ s.size = 0 := tl_nil s
      by_cases e0 : s.size = 0
      · have hs0 : s.toList = [] := hz.mpr e0
        have HS4 : Hid (rwOk F p L = true → ∀ j, j < i + 1 → plOk f K R p j = true) := HS2.out (by rw [decide_eq_true e0]; rfl)
        clear HS2 HF1 hz kN2 e0
        have HS2 := HS4
        clear HS4
        go_wp2_with fail
        go_loopw [52] (fun v wr2 => ∃ j : Nat, j ≤ L ∧ v = .int .i64 (j : Int) ∧ Hid (∀ t, t < j → 0 ≤ F t ∧ F t < (p : Int) ∧ (t = 0 ∨ F (t - 1) < F t)) ∧ wr2 = wr) (fun v _ => L - (intOf v).toNat)
        case atStart => exact ⟨0, Nat.zero_le _, rfl, fun t ht => absurd ht (Nat.not_lt_zero _), rfl⟩
        case round =>
          obtain ⟨j, hj, rfl, HJ, hw⟩ := hrel
          have hw' := hw.symm
          clear hw
          subst hw'
          by_cases hlj : j < L
          · obtain ⟨rb, ro, rfl, rl, hc3⟩ := hrow (by omega)
            have z1 := hc3 j hlj
            have k0 : (0 : Int) ≤ (j : Int) := by omega
            have k1 : (j : Int) < (L : Int) := by omega
            have HNo : Hid (¬ (0 ≤ F j ∧ F j < (p : Int) ∧ (j = 0 ∨ F (j - 1) < F j)) → Q = false) := fun h => HF2.out (rwOk_no hlj h)
            have HGo : Hid ((0 ≤ F j ∧ F j < (p : Int) ∧ (j = 0 ∨ F (j - 1) < F j)) → ∀ t, t < j + 1 → 0 ≤ F t ∧ F t < (p : Int) ∧ (t = 0 ∨ F (t - 1) < F t)) := fun h t ht => by
              by_cases e : t = j
              · subst e; exact h
              · exact HJ.out t (by omega)
            by_cases hj0 : j = 0
            · subst hj0
              have z3 : wr.cell? ⟨rb, ro, none⟩ = some (.int .i64 (F 0)) := hc3 0 hlj
              have k6 : (0 : Int) < (L : Int) := by omega
              clear hc3 HJ HF2 z1 k0 k1
              by_cases q0 : F 0 < 0
              · have hq : Q = false := HNo.out (by omega)
                subst hq
                clear HNo HGo
                go_wp2
                go_ret
                exact ⟨rfl, hB⟩
              by_cases q1 : (p : Int) ≤ F 0
              · have hq : Q = false := HNo.out (by omega)
                subst hq
                clear HNo HGo
                go_wp2
                go_ret
                exact ⟨rfl, hB⟩
              have HJ2 : Hid (∀ t, t < 0 + 1 → 0 ≤ F t ∧ F t < (p : Int) ∧ (t = 0 ∨ F (t - 1) < F t)) := HGo.out ⟨by omega, by omega, .inl rfl⟩
              clear HNo HGo
              go_wp2
              exact ⟨⟨0 + 1, by omega, by go_num, HJ2, trivial⟩, by simp [intOf]; omega⟩
            · have z2 := hc3 (j - 1) (by omega)
              have k2 : (0 : Int) < (j : Int) := by omega
              have k3 : (0 : Int) ≤ (j : Int) - 1 := by omega
              have k4 : (j : Int) - 1 < (L : Int) := by omega
              have k5 : ((j : Int) - 1).toNat = j - 1 := by omega
              clear hc3 HJ HF2
              generalize hX : F j = X at *
              generalize hW : F (j - 1) = W at *
              by_cases q0 : X < 0
              · have hq : Q = false := HNo.out (by omega)
                subst hq
                clear HNo HGo
                go_wp2
                go_ret
                exact ⟨rfl, hB⟩
              by_cases q1 : (p : Int) ≤ X
              · have hq : Q = false := HNo.out (by omega)
                subst hq
                clear HNo HGo
                go_wp2
                go_ret
                exact ⟨rfl, hB⟩
              by_cases q2 : X ≤ W
              · have hq : Q = false := HNo.out (by omega)
                subst hq
                clear HNo HGo
                go_wp2
                go_ret
                exact ⟨rfl, hB⟩
              have HJ2 : Hid (∀ t, t < j + 1 → 0 ≤ F t ∧ F t < (p : Int) ∧ (t = 0 ∨ F (t - 1) < F t)) := HGo.out ⟨by omega, by omega, .inr (by omega)⟩
              clear HNo HGo hX hW
              go_wp2
              exact ⟨⟨j + 1, by omega, by go_num, HJ2, trivial⟩, by simp [intOf]; omega⟩
          · have hjl : j = L := by omega
            subst hjl
            have HS3 : Hid (∀ j, j < i + 1 → plOk f K R p j = true) := HS2.out (rwOk_mk HJ.out)
            clear HJ HF2 HS2
            go_wp2
            exact ⟨⟨i + 1, by omega, by go_num, HS3, HB, hB⟩, by simp [intOf]; omega⟩
      · have hs0 : ¬ s.toList = [] := fun h => e0 (hz.mp h)
        have hs1 : s.toList.isEmpty = false := List.isEmpty_eq_false_iff.mpr hs0
        cases N with
        | false =>
          have hq : Q = false := HF1.out (by rw [decide_eq_false e0]; rfl)
          subst hq
          clear HS2 HF1 HF2 hz
          go_wp2_with fail
          refine (kN2 _).mono ?_
          rintro e w2 ⟨rfl, hw2⟩
          have hs2 := hw2.symm
          clear hw2 kN2
          subst hs2
          go_wp2
          go_ret
          exact ⟨rfl, hB⟩
        | true =>
          have HS4 : Hid (rwOk F p L = true → ∀ j, j < i + 1 → plOk f K R p j = true) := HS2.out (by simp)
          clear HS2 HF1 hz
          have HS2 := HS4
          clear HS4
          go_wp2_with fail
          refine (kN2 _).mono ?_
          rintro e w2 ⟨rfl, hw2⟩
          have hs2 := hw2.symm
          clear hw2 kN2
          subst hs2
          go_wp2_with fail
          go_loopw [52] (fun v wr2 => ∃ j : Nat, j ≤ L ∧ v = .int .i64 (j : Int) ∧ Hid (∀ t, t < j → 0 ≤ F t ∧ F t < (p : Int) ∧ (t = 0 ∨ F (t - 1) < F t)) ∧ wr2 = wr) (fun v _ => L - (intOf v).toNat)
          case atStart => exact ⟨0, Nat.zero_le _, rfl, fun t ht => absurd ht (Nat.not_lt_zero _), rfl⟩
          case round =>
            obtain ⟨j, hj, rfl, HJ, hw⟩ := hrel
            have hw' := hw.symm
            clear hw
            subst hw'
            by_cases hlj : j < L
            · obtain ⟨rb, ro, rfl, rl, hc3⟩ := hrow (by omega)
              have z1 := hc3 j hlj
              have k0 : (0 : Int) ≤ (j : Int) := by omega
              have k1 : (j : Int) < (L : Int) := by omega
              have HNo : Hid (¬ (0 ≤ F j ∧ F j < (p : Int) ∧ (j = 0 ∨ F (j - 1) < F j)) → Q = false) := fun h => HF2.out (rwOk_no hlj h)
              have HGo : Hid ((0 ≤ F j ∧ F j < (p : Int) ∧ (j = 0 ∨ F (j - 1) < F j)) → ∀ t, t < j + 1 → 0 ≤ F t ∧ F t < (p : Int) ∧ (t = 0 ∨ F (t - 1) < F t)) := fun h t ht => by
                by_cases e : t = j
                · subst e; exact h
                · exact HJ.out t (by omega)
              by_cases hj0 : j = 0
              · subst hj0
                have z3 : wr.cell? ⟨rb, ro, none⟩ = some (.int .i64 (F 0)) := hc3 0 hlj
                have k6 : (0 : Int) < (L : Int) := by omega
                clear hc3 HJ HF2 z1 k0 k1
                by_cases q0 : F 0 < 0
                · have hq : Q = false := HNo.out (by omega)
                  subst hq
                  clear HNo HGo
                  go_wp2
                  go_ret
                  exact ⟨rfl, hB⟩
                by_cases q1 : (p : Int) ≤ F 0
                · have hq : Q = false := HNo.out (by omega)
                  subst hq
                  clear HNo HGo
                  go_wp2
                  go_ret
                  exact ⟨rfl, hB⟩
                have HJ2 : Hid (∀ t, t < 0 + 1 → 0 ≤ F t ∧ F t < (p : Int) ∧ (t = 0 ∨ F (t - 1) < F t)) := HGo.out ⟨by omega, by omega, .inl rfl⟩
                clear HNo HGo
                go_wp2
                exact ⟨⟨0 + 1, by omega, by go_num, HJ2, trivial⟩, by simp [intOf]; omega⟩
              · have z2 := hc3 (j - 1) (by omega)
                have k2 : (0 : Int) < (j : Int) := by omega
                have k3 : (0 : Int) ≤ (j : Int) - 1 := by omega
                have k4 : (j : Int) - 1 < (L : Int) := by omega
                have k5 : ((j : Int) - 1).toNat = j - 1 := by omega
                clear hc3 HJ HF2
                generalize hX : F j = X at *
                generalize hW : F (j - 1) = W at *
                by_cases q0 : X < 0
                · have hq : Q = false := HNo.out (by omega)
                  subst hq
                  clear HNo HGo
                  go_wp2
                  go_ret
                  exact ⟨rfl, hB⟩
                by_cases q1 : (p : Int) ≤ X
                · have hq : Q = false := HNo.out (by omega)
                  subst hq
                  clear HNo HGo
                  go_wp2
                  go_ret
                  exact ⟨rfl, hB⟩
                by_cases q2 : X ≤ W
                · have hq : Q = false := HNo.out (by omega)
                  subst hq
                  clear HNo HGo
                  go_wp2
                  go_ret
                  exact ⟨rfl, hB⟩
                have HJ2 : Hid (∀ t, t < j + 1 → 0 ≤ F t ∧ F t < (p : Int) ∧ (t = 0 ∨ F (t - 1) < F t)) := HGo.out ⟨by omega, by omega, .inr (by omega)⟩
                clear HNo HGo hX hW
                go_wp2
                exact ⟨⟨j + 1, by omega, by go_num, HJ2, trivial⟩, by simp [intOf]; omega⟩
            · have hjl : j = L := by omega
              subst hjl
              have HS3 : Hid (∀ j, j < i + 1 → plOk f K R p j = true) := HS2.out (rwOk_mk HJ.out)
              clear HJ HF2 HS2
              go_wp2
              exact ⟨⟨i + 1, by omega, by go_num, HS3, HB, hB⟩, by simp [intOf]; omega⟩
    · have hip : i = p := by omega
      subst hip
      have hq : Q = true := HT.out HS.out
      subst hq
      go_wp2
      go_ret
      exact ⟨rfl, hB⟩
end Go.Proofs.YtapodfkoknmhdaaDoor
