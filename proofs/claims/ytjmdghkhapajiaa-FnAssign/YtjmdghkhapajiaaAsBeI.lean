/- BestAssign, as the program takes it. -/
import Derived.Test.YtjmdghkhapajiaaAsBeL
import Derived.Test.YtjmdghkhapajiaaAsGp
import Derived.BigQuiet
import Derived.Deep.Cut
namespace Go.Proofs.Ytjmdghkhapajiaa
open Go.RowKit
/-- a list, a number and whether they are told -/
def AnsT3 (w w' : World) (e : Ending) (N : Nat) (G : Nat → Int) (R : Int) (Q : Bool) : Prop := ∃ a c, e = .returned (.tuple #[.slice a N c, .int .i64 R, .bool Q]) ∧ LQ w' w.heap.size w'.heap.size a N G
theorem ansT3_nil (w w' : World) (G : Nat → Int) (R : Int) (Q : Bool) : AnsT3 w w' (.returned (.tuple #[.slice none 0 0, .int .i64 R, .bool Q])) 0 G R Q := ⟨none, 0, rfl, lq_none _ _ _ _ _⟩
/-- the table's offers are those of what is left -/
theorem of_table {n : Nat} {K : Nat → Nat} {F : Nat → Nat → Int} (gp : GP n K F) {i : Nat} (hi : i < n) : ∀ t, t < n → ofT (F i) (bwM F n i) (lsM F n) t = ofT (F i) (bwM F n i) (lsL F n (n - (i + 1))) t := fun t ht => by
  obtain ⟨h1, h2⟩ := bw_all gp i (by omega)
  unfold ofT
  by_cases c : (bwM F n i).testBit t = true
  · rw [if_pos c, if_pos c]
  · have c2 : (bwM F n i).testBit t = false := by simpa using c
    have h3 := (pc_up _ t (lt64 gp.hi h1) (by have := gp.hi; omega) c2).1
    rw [if_neg c, if_neg c]
    unfold lsM
    rw [h3, h2]
set_option maxHeartbeats 8000000 in
set_option maxRecDepth 20000 in
theorem iBest_no (a : Option Addr) (n c : Nat) (K : Nat → Nat) (F : Nat → Nat → Int) (w : World) (hn : n ≤ 1048576) (hK : ∀ i, i < n → K i ≤ 1048576) (h : RR w a n K F) (hg : gpB n K F = false) :
    Calls Try.prog 10 #[.slice a n c] w fun e w' => AnsT3 w w' e 0 (fun _ => 0) 0 false ∧ Below w.heap.size w w' := by
  have kB := iGoodP a n c K F w hn hK h
  rw [hg] at kB
  go_enter Try.func10, Try.ntmps10
  go_wp2_with (first | (go_at_call 22; refine kB.mono ?_; rintro e w1 ⟨rfl, hb⟩; clear kB) | fail)
  go_ret3
  exact ⟨ansT3_nil _ _ _ _ _, hb⟩
set_option maxHeartbeats 8000000 in
set_option maxRecDepth 20000 in
theorem iBest_in (a : Option Addr) (n c : Nat) (K : Nat → Nat) (F : Nat → Nat → Int) (w : World) (hn : n ≤ 1048576) (hK : ∀ i, i < n → K i ≤ 1048576) (h : RR w a n K F) (hg : gpB n K F = true) :
    Calls Try.prog 10 #[.slice a n c] w fun e w' => AnsT3 w w' e n (fun i => (bwT F n i : Int)) (lsL F n n 0) true ∧ Below w.heap.size w w' := by
  obtain ⟨i0', hi, hzz⟩ := Option.map_eq_some_iff.1 infoI
  simp only [Prod.mk.injEq] at hzz
  obtain ⟨hz0, hz1, hz2⟩ := hzz
  have kB := iGoodP a n c K F w hn hK h
  rw [hg] at kB
  have gp := gpB_t hg
  have hn6 := gp.hi
  have hn1 := gp.lo
  obtain ⟨A, C, hA⟩ := h
  clear hg hK hn
  go_enter Try.func10, Try.ntmps10
  go_wp2_with fail
  refine kB.mono ?_
  rintro e w1 ⟨rfl, hb1⟩
  clear kB
  go_wp2_with fail
  refine (rests_any a n c A K C F w1 gp (hA.below hb1)).mono ?_
  rintro e w2 ⟨⟨Rb, rfl, hRl, hP2⟩, hb2⟩
  have hb12 := stepA hb1 hb2
  have hs1 := hb1.size
  have hs2 := hb2.size
  obtain ⟨N, hN⟩ : ∃ N : Nat, N = 2 ^ n := ⟨_, rfl⟩
  have hN1 : 1 ≤ N := by rw [hN]; exact Nat.two_pow_pos n
  rw [← hN] at hP2 ⊢
  have HN : Hid (N = 2 ^ n) := hN
  clear hN
  obtain ⟨wm, hrun, hown, hgrow⟩ := run_make_own (P := Try.prog) w2 w2.heap.size 24 3 i0' _ 1 Try.underlying24 hi hz0 hz1 .i64 .i64 n (by rw [hz2]; omega) (by unfold maxLen; omega) (Nat.le_refl _)
  have hBm : Below w2.heap.size w2 wm := (Below.refl _ w2).grown hgrow (Nat.le_refl _) (fun q hq => by cases hq)
  have HO0 : Hid (Own wm w2.heap.size (.slice (some ⟨w2.heap.size, 0, none⟩) 0 n) 0 (fun i => (bwT F n i : Int))) := hown
  have HP0 : Hid (IP wm Rb N (lsM F n)) := hP2.below hBm hP2.lt
  have HB0 : Hid (Below w.heap.size w wm) := stepA hb12 hBm
  have HZ0 : Hid (w2.heap.size ≤ wm.heap.size) := hBm.size
  have hRlt : Rb < w2.heap.size := hP2.lt
  have hRw : w.heap.size ≤ Rb := by omega
  clear hown hgrow hBm hP2 hb12 hb1 hb2 hRl
  go_wp2_with fail
  clear hrun
  generalize hW2 : w2.heap.size = Z2 at *
  clear hW2
  go_loopw [6, 7, 21] (fun v x i wr => ∃ k : Nat, k ≤ n ∧ i = .int .i64 (k : Int) ∧ x = .int .i64 ((bwM F n k : Nat) : Int) ∧ Own wr Z2 v k (fun i => (bwT F n i : Int)) ∧ IP wr Rb N (lsM F n) ∧ Z2 ≤ wr.heap.size ∧ Below w.heap.size w wr) (fun _ _ i _ => n - (intOf i).toNat)
  case atStart => exact ⟨0, Nat.zero_le _, rfl, rfl, HO0.out, HP0.out, HZ0.out, HB0.out⟩
  case round =>
    obtain ⟨k, hk, rfl, rfl, hown, hP, hZr, hB⟩ := hrel
    clear HO0 HP0 HB0 HZ0
    have i0 : (0 : Int) ≤ (k : Int) := by omega
    have hsz := hB.size
    by_cases hlt : k < n
    · have i1 : (k : Int) < (n : Int) := by omega
      obtain ⟨m1, m2⟩ := bw_all gp k hk
      have m3 := lt64 hn6 m1
      obtain ⟨s1, s2, s3⟩ := bw_step gp hlt
      obtain ⟨pb, po, rfl, pl_, x0⟩ := ll_at1 (hA.below hB) hlt
      have hrow := (hA.below hB).row k hlt
      have hKk := gp.len k hlt
      rw [hKk] at x0 hrow
      have hbd : ∀ t, t < n → (bwM F n k).testBit t = false → bwM F n k ||| 2 ^ t < N ∧ 0 ≤ lsM F n (bwM F n k ||| 2 ^ t) ∧ lsM F n (bwM F n k ||| 2 ^ t) ≤ 1000000 := fun t ht c2 => by
        have h1 := pc_up _ t m3 (by omega) c2
        have h2 := or_lt (t := t) m1 ht
        have h3 := ls_bd gp (n - (k + 1)) _ h2 (by omega)
        unfold lsM
        rw [h1.1, m2]
        exact ⟨by have := HN.out; omega, h3.1, by omega⟩
      have kO := fun a cc w (h1 : IL w a n (F k)) (h2 : IL w (some ⟨Rb, 0, none⟩) N (lsM F n)) => offers_any a n cc (F k) (bwM F n k) (some ⟨Rb, 0, none⟩) N N (lsM F n) w hn6 m3 h1 h2 (fun t ht => gp.bd k t hlt ht) hbd
      have kC := fun a cc lo hi w (h : VQ w lo hi a n (fun t => ofv (ofT (F k) (bwM F n k) (lsM F n) t))) => cheap_any a n cc lo hi (ofT (F k) (bwM F n k) (lsM F n)) w (by omega) h
      have e9 : chK (ofT (F k) (bwM F n k) (lsM F n)) n = bwT F n k := ch_congr (of_table gp hlt)
      rw [e9] at kC
      have hor := or_bit (bwM F n k) (bwT F n k) m3 (by omega)
      have hwr := bit_in (bwT F n k) (by omega)
      have HMs : Hid (bwM F n (k + 1) = bwM F n k ||| 2 ^ bwT F n k) := rfl
      have HBt : Hid ((fun i => (bwT F n i : Int)) k = (bwT F n k : Int)) := rfl
      generalize A k = Ak at *
      generalize C k = Ck at *
      generalize hMk : bwM F n k = Mk at *
      clear hMk
      obtain ⟨B, hBe⟩ : ∃ B, B = bwT F n k := ⟨_, rfl⟩
      rw [← hBe] at kC hor hwr HMs HBt s1 s2
      have j1 : (0 : Int) ≤ (B : Int) := by omega
      have j2 : (B : Int) < (n : Int) := by omega
      have j3 : (B : Int) < 6 := by omega
      clear hA s2 s3 m1 m2 e9 hBe hKk hbd
      generalize hYe : Mk ||| 2 ^ B = Y at *
      clear hYe
      go_upto_region 8 with fail
      go_wp2_with fail
      refine (kO _ _ _ hrow hP.il).mono ?_
      rintro e w3 ⟨⟨oa, oc, rfl, hvq⟩, hb3⟩
      go_wp2_with fail
      refine (kC _ _ _ _ _ hvq).mono ?_
      rintro e w5 ⟨rfl, hb4⟩
      have hb5 := stepA hb3 hb4
      have hown5 := hown.below hb5
      have hP5 := hP.below hb5 hP.lt
      have hB5 := stepA hB hb5
      have hsz5 := hb5.size
      have hZl := hP.lt
      have hZ5 := hB5.size
      clear kO kC hrow hvq hb3 hb4 hown hP x0
      skip
      go_upto_region 9 with fail
      go_wp2_with (at_builtin; refine wpList_append_own _ rfl _ _ 24 rfl Z2 3 i0' (.int .i64 0) 1 8 Try.underlying24 hi hz0 hz1 hz2 rfl (by decide) _ _ _ rfl (World.ownsRow.alloc hown5 _) ⟨w5.heap.size, 0, none⟩ 1 1 [.int .i64 (B : Int)] rfl rfl (cell_one_new _ _ _) (fun x hx => by simp at hx; subst hx; rfl) (by unfold maxLen; omega) (by omega) (by simp; omega) ?_; intro vN w6 hown6 hgrow6 hlies6)
      have hgB : Below Z2 w5 w6 := ((Below.refl Z2 w5).alloc (by omega) (.cells #[.int .i64 (B : Int)] 3)).grown hgrow6 (by simp; omega) (fun q hq => (World.ownsRow.lt hown5 q hq).1)
      exact ⟨⟨k + 1, by omega, by go_num, by rw [HMs.out], by unfold Own; rw [vL_succ, HBt.out]; exact hown6, hP5.below hgB hRlt, Nat.le_trans (by omega) hgB.size, hB5.trans (hgB.mono (by omega))⟩, by simp [intOf]; omega⟩
    · have hkn : k = n := by omega
      subst hkn
      have i1 : ¬ (k : Int) < (k : Int) := by omega
      obtain ⟨sa, sc, rfl⟩ := hown.shape
      have y0 := hP.c 0 (by omega)
      have HR : Hid (lsM F k 0 = lsL F k k 0) := by show lsM F k 0 = _; unfold lsM; rw [show pcN 0 = 0 by simp [pcN], Nat.sub_zero]
      rw [HR.out] at y0
      have j0 : (0 : Int) < (N : Int) := by omega
      have HL : Hid (LQ wr w.heap.size wr.heap.size sa k (fun i => (bwT F k i : Int))) := hown.lq.wide (by omega) (Nat.le_refl _)
      clear hown hP hA
      go_upto_region 12 with fail
      go_quiet (fail)
      go_wp2
      go_ret3
      exact ⟨⟨sa, sc, rfl, HL.out.on (below_dr (Below.refl _ _) _)⟩, below_dr hB _⟩
end Go.Proofs.Ytjmdghkhapajiaa
