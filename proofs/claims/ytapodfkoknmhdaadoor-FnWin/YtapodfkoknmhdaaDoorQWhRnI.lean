/- Whether a list of places is a run, as the program looks at it. -/
import Derived.Test.YtapodfkoknmhdaaDoorQWhCnI
namespace Go.Proofs.YtapodfkoknmhdaaDoor
open Go.RowKit
theorem run_cut1 (t e : TypeId) (i : TypeInfo) (sz : Nat) (ht : Tryd.prog.underlying t = some (.slice e)) (hi : Tryd.prog.info? e = some i) (hsz : i.size = sz) (a : Option Addr) (len cap : Nat) (h1 : 1 ≤ len) (hlc : len ≤ cap) (w : World) :
    (Instr.slice t (.slice a len cap) (some (.int .i64 1)) none none).run Tryd.prog w = .ok (.slice (if cap - 1 = 0 then a else a.map (·.add (1 * sz))) (len - 1) (cap - 1)) w := by
  subst hsz
  have h2 : (1 : Int) ≤ (len : Int) := by omega
  by_cases hc : cap - 1 = 0
  · obtain rfl : cap = 1 := by omega
    simp [Instr.slice, Instr.sliceBounds, Instr.sliceBound, run_underlying ht, sizeOf, typeInfo, hi, asIntOf, h2]
  · have hc1 : ¬ cap = 1 := by omega
    simp [Instr.slice, Instr.sliceBounds, Instr.sliceBound, run_underlying ht, sizeOf, typeInfo, hi, asIntOf, h2, hc, hc1]
theorem il_cut1 {w : World} {a : Option Addr} {M c : Nat} {F : Nat → Int} (h : IL w a (M + 1) F) (hc : M + 1 ≤ c) : IL w (if c - 1 = 0 then a else a.map (·.add (1 * 1))) M (fun i => F (i + 1)) := fun h0 => by
  obtain ⟨b, off, rfl, hb, hx⟩ := h (by omega)
  rw [if_neg (by omega)]
  refine ⟨b, off + 1, rfl, hb, fun i hi => ?_⟩
  have := hx (i + 1) (by omega)
  rw [show off + 1 + i = off + (i + 1) by omega]
  exact this
/-- a run of one place or more, of 60 at most -/
def rnB (n : Nat) (K : Nat → Nat) (R : Nat → Nat → Int) (P : Nat → Int) (L : Nat) : Bool := decide (1 ≤ L ∧ L ≤ 60) && ptOk n K R P L
set_option maxRecDepth 20000 in
set_option maxHeartbeats 4000000 in
theorem iRun (a : Option Addr) (n c : Nat) (b : Option Addr) (m d : Nat) (x : Option Addr) (q : Nat) (K : Nat → Nat) (R : Nat → Nat → Int) (ta : Option Addr) (L tc : Nat) (P : Nat → Int) (w : World) (hn : n ≤ 14) (hL : L ≤ 1048576) (hLc : L ≤ tc) (hK : ∀ i, i < n → K i ≤ 1048576) (hx : RR w x n K R) (hR : ∀ i, i < n → ∀ j, j < K i → 0 ≤ R i j ∧ R i j < (n : Int)) (ht : IL w ta L P) :
    Calls Tryd.prog 62 #[bdv a n c b m d x n q, .slice ta L tc] w fun e w' => e = .returned (.bool (rnB n K R P L)) ∧ Below w.heap.size w w' := by
  have hb0 : Below w.heap.size w (w.alloc (bdO a n c b m d x n q 38)) := (Below.refl _ _).alloc (Nat.le_refl _) _
  have bA := bx_new (w := w) (bdL a n c b m d x n q) 38 rfl
  obtain ⟨i0, hi, hzz⟩ := Option.map_eq_some_iff.1 infoI
  simp only [Prod.mk.injEq] at hzz
  obtain ⟨_, hz1, _⟩ := hzz
  by_cases h0 : L = 0
  · subst h0
    have hr : rnB n K R P 0 = false := rfl
    rw [hr]
    go_enter Tryd.func62, Tryd.ntmps62
    go_wp2_with fail
    obtain ⟨w8, hw8⟩ : ∃ w8, w8 = w.alloc (bdO a n c b m d x n q 38) := ⟨_, rfl⟩
    rw [← hw8] at hb0 ⊢
    go_quiet (fail)
    go_wp2_with fail
    go_ret
    exact ⟨rfl, below_dr hb0 _⟩
  have e0 : ((L : Int) == 0) = false := by simp; omega
  by_cases h6 : 60 < L
  · have hr : rnB n K R P L = false := by unfold rnB; rw [decide_eq_false (by omega)]; rfl
    rw [hr]
    have e6 : decide ((60 : Int) < (L : Int)) = true := decide_eq_true (by omega)
    have e6' : (60 : Int) < (L : Int) := by omega
    go_enter Tryd.func62, Tryd.ntmps62
    go_wp2_with fail
    obtain ⟨w8, hw8⟩ : ∃ w8, w8 = w.alloc (bdO a n c b m d x n q 38) := ⟨_, rfl⟩
    rw [← hw8] at hb0 ⊢
    go_quiet (fail)
    go_wp2_with fail
    go_ret
    exact ⟨rfl, below_dr hb0 _⟩
  have e6 : decide ((60 : Int) < (L : Int)) = false := decide_eq_false (by omega)
  have e6' : ¬ (60 : Int) < (L : Int) := by omega
  have x0 := bA.c0
  have hm8 := ht.below hb0
  obtain ⟨tb, to', rfl, tl, hc1⟩ := hm8 (by omega)
  have y0 : (w.alloc (bdO a n c b m d x n q 38)).cell? ⟨tb, to', none⟩ = some (.int .i64 (P 0)) := hc1 0 (by omega)
  have l0 : (0 : Int) < (L : Int) := by omega
  have HP : Hid (rnB n K R P L = ptOk n K R P L) := by
    show rnB n K R P L = _
    unfold rnB; rw [decide_eq_true (by omega)]; rfl
  have HN : Hid (∀ i, i < L → stOk n K R P i = false → ptOk n K R P L = false) := fun i hi h => ptOk_no hi h
  have HM : Hid ((∀ i, i < L → stOk n K R P i = true) → ptOk n K R P L = true) := fun h => ptOk_mk h
  have H0 : Hid (stOk n K R P 0 = nbB (P 0) n) := by
    show stOk n K R P 0 = _
    unfold stOk nbB; simp
  have HX : Hid (RR w x n K R) := hx
  have HR : Hid (∀ i, i < n → ∀ j, j < K i → 0 ≤ R i j ∧ R i j < (n : Int)) := hR
  have HK : Hid (∀ i, i < n → K i ≤ 1048576) := hK
  rw [HP.out]
  have kN := fun w2 => iNumS (P 0) a n c w2
  clear hc1 hx hR hK HP
  generalize ptOk n K R P L = Q at *
  go_enter Tryd.func62, Tryd.ntmps62
  go_wp2_with fail
  obtain ⟨w8, hw8⟩ : ∃ w8, w8 = w.alloc (bdO a n c b m d x n q 38) := ⟨_, rfl⟩
  rw [← hw8] at hb0 bA x0 y0 hm8 tl ⊢
  clear hw8
  cases hN : nbB (P 0) n with
  | false =>
    rw [hN] at kN
    have hq : Q = false := HN.out 0 (by omega) (H0.out.trans hN)
    subst hq
    clear HN HM H0 HX HR HK hN hm8
    generalize P 0 = X at *
    go_quiet ((go_at_call 106; exact Calls.quiet_of_same (kN _)))
    go_wp2_with fail
    go_ret
    exact ⟨rfl, below_dr hb0 _⟩
  | true =>
    rw [hN] at kN
    have h00 : stOk n K R P 0 = true := H0.out.trans hN
    clear H0 hN
    generalize hP0 : P 0 = X at y0 kN
    go_quiet ((go_at_call 106; exact Calls.quiet_of_same (kN _)))
    have hb9 : Below w8.heap.size w8 (w8.drewN nq) := below_dr (Below.refl _ _) nq
    have hB9 := stepA hb0 hb9
    have bA9 := bA.on hb9
    have ht9 := hm8.below hb9
    clear kN y0 x0 bA hm8 tl hb0 hb9
    generalize w8.drewN nq = w9 at *
    obtain ⟨M, rfl⟩ : ∃ M, L = M + 1 := ⟨L - 1, by omega⟩
    rw [show ((M + 1 : Nat) : Int) = (M : Int) + 1 by omega]
    have hrc := fun w => run_cut1 41 3 i0 1 Tryd.underlying41 hi hz1 (some ⟨tb, to', none⟩) (M + 1) tc (by omega) hLc w
    have htc := il_cut1 ht9 hLc
    simp only [Nat.add_sub_cancel] at hrc
    generalize (if tc - 1 = 0 then (some ⟨tb, to', none⟩ : Option Addr) else (some ⟨tb, to', none⟩ : Option Addr).map (·.add (1 * 1))) = TA at *
    go_wp2_with fail
    clear hrc
    go_loopw [27] (fun v wr => ∃ k : Nat, k ≤ M ∧ v = .int .i64 (k : Int) ∧ Hid (∀ j, j < k + 1 → stOk n K R P j = true) ∧ Below w9.heap.size w9 wr) (fun v _ => M - (intOf v).toNat)
    case atStart => exact ⟨0, Nat.zero_le _, rfl, (fun j hj => by rw [show j = 0 by omega]; exact h00 : ∀ j, j < 0 + 1 → stOk n K R P j = true), Below.refl _ _⟩
    case round =>
      obtain ⟨k, hk, rfl, HS, hB⟩ := hrel
      by_cases hlt : k < M
      · obtain ⟨cb, co, rfl, cl, hc2⟩ := (htc.below hB) (by omega)
        have y2 := hc2 k hlt
        obtain ⟨tb', to'', ee, tl, hc1⟩ := (ht9.below hB) (by omega)
        cases ee
        have y3 := hc1 k (by omega)
        have bR := bA9.on hB
        have x2 := bR.c2
        have hU := stOk_in (HS.out k (by omega))
        have i0' : (0 : Int) ≤ (k : Int) := by omega
        have i1' : (k : Int) < (M : Int) := by omega
        have i2' : (k : Int) < (M : Int) + 1 := by omega
        have HD : Hid (stOk n K R P (k + 1) = (decide (0 ≤ P (k + 1)) && (decide (P (k + 1) < (n : Int)) && hsB (R (P k).toNat) (K (P k).toNat) (P (k + 1))))) := by
          show stOk n K R P (k + 1) = _
          unfold stOk; simp
        have HN1 : Hid (stOk n K R P (k + 1) = false → Q = false) := HN.out (k + 1) (by omega)
        have HS2 : Hid (stOk n K R P (k + 1) = true → ∀ j, j < k + 1 + 1 → stOk n K R P j = true) := fun h j hj => by
          by_cases e : j = k + 1
          · rw [e]; exact h
          · exact HS.out j (by omega)
        clear hc2 hc1 HS HN HM h00 bR
        obtain ⟨A, C, hA⟩ := HX.out
        have hBw := hB9.trans (hB.mono hB9.size)
        generalize hX1 : P (k + 1) = X1 at *
        generalize P k = U at *
        generalize stOk n K R P (k + 1) = O at *
        obtain ⟨xb, xo, rfl, xl, hc3⟩ := (hA.below hBw).out (by omega)
        have y7 := hc3 U.toNat (by omega)
        have hrow := (hA.below hBw).row U.toNat (by omega)
        have hKi := HK.out U.toNat (by omega)
        have HRi : Hid (∀ j, j < K U.toNat → 0 ≤ R U.toNat j ∧ R U.toNat j < (n : Int)) := HR.out U.toNat (by omega)
        have u0 := hU.1
        have u1 := hU.2
        clear hc3 hU HR HK hA
        generalize R U.toNat = F at *
        generalize A U.toNat = Z at *
        generalize K U.toNat = M2 at *
        generalize C U.toNat = Y at *
        have kC := fun w2 h => iContI Z M2 Y F X1 w2 hKi h
        have HO : Hid (O = hsB F M2 X1) := by
          show O = hsB F M2 X1
          rw [HD.out]
          cases hh : hsB F M2 X1 with
          | false => simp
          | true =>
            unfold hsB at hh
            obtain ⟨j, hj, rfl⟩ := of_decide_eq_true hh
            have := HRi.out j hj
            rw [decide_eq_true this.1, decide_eq_true this.2]; rfl
        clear HD HRi
        generalize hsB F M2 X1 = B at *
        obtain ⟨wa, hwa⟩ : ∃ wa, wa = wr := ⟨wr, rfl⟩
        subst hwa
        have HO' := HO.out
        subst HO'
        cases O with
        | false =>
          have hq : Q = false := HN1.out rfl
          subst hq
          clear HN1 HS2
          go_wp2_with fail
          go_quiet ((go_at_call 105; exact Calls.quiet_of_same (kC _ (hrow.below (by first | exact Below.refl _ _ | exact below_dr (Below.refl _ _) _)))))
          go_wp2_with fail
          go_ret
          exact ⟨rfl, below_dr hBw _⟩
        | true =>
          have HS3 : Hid (∀ j, j < k + 1 + 1 → stOk n K R P j = true) := HS2.out rfl
          clear HN1 HS2
          go_wp2_with fail
          go_quiet ((go_at_call 105; exact Calls.quiet_of_same (kC _ (hrow.below (by first | exact Below.refl _ _ | exact below_dr (Below.refl _ _) _)))))
          go_wp2
          exact ⟨⟨k + 1, by omega, by go_num, HS3, below_dr hB _⟩, by simp [intOf]; omega⟩
      · have hke : k = M := by omega
        subst hke
        have hq : Q = true := HM.out HS.out
        subst hq
        have hBw := hB9.trans (hB.mono hB9.size)
        go_wp2
        go_ret
        exact ⟨rfl, hBw⟩
end Go.Proofs.YtapodfkoknmhdaaDoor
