/- DuesOf, as the model takes it. -/
import Derived.Test.YtkgjcfcakfdopaaAsDuI
import Derived.Test.YtkgjcfcakfdopaaAsWhoS
import Derived.BigQuiet
import Derived.Deep.Cut
namespace Go.Proofs.Ytkgjcfcakfdopaa
open Go.RowKit
set_option maxHeartbeats 8000000 in
set_option maxRecDepth 20000 in
theorem sDues_no (a : Option Addr) (n c : Nat) (K : Nat → Nat) (F : Nat → Nat → Int) (b : Option Addr) (m d : Nat) (g : Nat → Int) (w : World) (hn : n ≤ 1048576) (hK : ∀ i, i < n → K i ≤ 1048576) (hm : m ≤ 1048576) (h : RR w a n K F) (h2 : IL w b m g) (hga : gaB n m K F g = false) :
    Calls Try.prog 30 #[.slice a n c, .slice b m d] w fun e w' => AnsTb w w' e 0 (fun _ => 0) false ∧ Below w.heap.size w w' := by
  have kB := sGoodP a n c K F w hn hK h
  cases e : gpB n K F with
  | false =>
    rw [e] at kB
    go_enter Try.func30, Try.ntmps30
    go_wp2_with (first | (go_at_call 20; refine kB.mono ?_; rintro e w1 ⟨rfl, hb⟩; clear kB) | fail)
    go_ret2
    exact ⟨ansTb_nil _ _ _ _, hb⟩
  | true =>
    rw [e] at kB
    have hw0 : whB n m g = false := by unfold gaB at hga; rw [e] at hga; simpa using hga
    have kW := fun w (h2 : IL w b m g) => sWho b m d n g w hn hm h2
    rw [hw0] at kW
    clear hw0 hga e
    go_enter Try.func30, Try.ntmps30
    go_wp2_with (first | (go_at_call 20; refine kB.mono ?_; rintro e w1 ⟨rfl, hb⟩; clear kB) | (go_at_call 41; refine (kW _ (h2.below hb)).mono ?_; rintro e w3 ⟨rfl, hb3⟩; clear kW) | fail)
    go_ret2
    exact ⟨ansTb_nil _ _ _ _, stepA hb hb3⟩
set_option maxHeartbeats 8000000 in
set_option maxRecDepth 20000 in
theorem sDues_in (a : Option Addr) (n c : Nat) (K : Nat → Nat) (F : Nat → Nat → Int) (b : Option Addr) (m d : Nat) (g : Nat → Int) (w : World) (hn : n ≤ 1048576) (hK : ∀ i, i < n → K i ≤ 1048576) (hm : m ≤ 1048576) (h : RR w a n K F) (h2 : IL w b m g) (hga : gaB n m K F g = true) :
    Calls Try.prog 30 #[.slice a n c, .slice b m d] w fun e w' => DuA n F g w w' e ∧ Below w.heap.size w w' := by
  have kB := sGoodP a n c K F w hn hK h
  have e : gpB n K F = true := by unfold gaB at hga; simp only [Bool.and_eq_true] at hga; exact hga.1
  have e2 : whB n m g = true := by unfold gaB at hga; simp only [Bool.and_eq_true] at hga; exact hga.2
  have kW := fun w (h2 : IL w b m g) => sWho b m d n g w hn hm h2
  rw [e] at kB
  rw [e2] at kW
  clear e e2
  obtain ⟨A, C, hA⟩ := h
  have ga := gaB_t hga
  have hmn2 := ga.len.symm
  subst hmn2
  have hn6 := ga.gp.hi
  clear hga
  have hmk := run_make_row' (P := Try.prog) 24 3 (.int .i64 0) 8 Try.underlying24 infoI rfl .i64 .i64 n (by omega) (by omega)
  go_enter Try.func30, Try.ntmps30
  go_wp2_with fail
  refine kB.mono ?_
  rintro e w1 ⟨rfl, hb1⟩
  clear kB
  go_wp2_with fail
  refine (kW _ (h2.below hb1)).mono ?_
  rintro e w3 ⟨rfl, hb3⟩
  have hb := stepA hb1 hb3
  clear kW hb1 hb3
  have HI0 : Hid (IP (w3.alloc (.cells (madeCells #[.int .i64 0] n) 3)) w3.heap.size n (duD F g n 0)) := row_zero0 (World.rowIs_made w3 (.int .i64 0) n 3)
  have hBm : Below w.heap.size w (w3.alloc (.cells (madeCells #[.int .i64 0] n) 3)) := hb.alloc hb.size _
  have hDb : w.heap.size ≤ w3.heap.size := hb.size
  go_wp2_with fail
  clear hmk hb
  generalize w3.alloc (.cells (madeCells #[.int .i64 0] n) 3) = w2 at HI0 hBm ⊢
  generalize w3.heap.size = Db at HI0 hDb ⊢
  obtain ⟨w0, hw0⟩ : ∃ x, x = w := ⟨w, rfl⟩
  subst hw0
  have hI2 := h2
  clear h2
  go_loopw [8] (fun i wr => ∃ r : Nat, r ≤ n + 1 ∧ i = .int .i64 (r : Int) ∧ Hid (∀ s, s < r → duQ F g n s = true) ∧ IP wr Db n (duD F g n r) ∧ Below w0.heap.size w0 wr) (fun i _ => n + 1 - (intOf i).toNat)
  case atStart => exact ⟨0, Nat.zero_le _, rfl, fun s hs => absurd hs (Nat.not_lt_zero _), HI0.out, hBm⟩
  case round =>
    obtain ⟨r, hr1, rfl, HE, hP0, hB⟩ := hrel
    clear HI0 hBm
    have ir0 : (0 : Int) ≤ (r : Int) := by omega
    by_cases hr : r ≤ n
    · have ir1 : (r : Int) ≤ (n : Int) := by omega
      obtain ⟨w, hw⟩ : ∃ x, x = wr := ⟨wr, rfl⟩
      subst hw
      have hD := du_bd ga r hr
      have HR0 : Hid (3600000 * (r : Int) ≤ 30000000) := by show 3600000 * (r : Int) ≤ 30000000; omega
      have hL := HR0.out
      generalize 3600000 * (r : Int) = L at hD hL
      have HP0 : Hid (IP w Db n (duD F g n r)) := hP0
      clear hP0
      generalize hDeq : duD F g n r = D at HP0 hD
      go_wp2_with fail
      go_loopw [9, 34] (fun x i wr => ∃ k : Nat, k ≤ n ∧ i = .int .i64 (k : Int) ∧ x = .bool (rndQ F g n D k) ∧ IP wr Db n (rndD F g n D k) ∧ Only Db w wr) (fun _ i _ => n - (intOf i).toNat)
      case atStart => exact ⟨0, Nat.zero_le _, rfl, rfl, HP0.out, Only.refl _ _⟩
      case round =>
        obtain ⟨k, hk, rfl, rfl, hP, hO⟩ := hrel
        clear HP0
        have i0 : (0 : Int) ≤ (k : Int) := by omega
        by_cases hlt : k < n
        · have i1 : (k : Int) < (n : Int) := by omega
          obtain ⟨w9, hw9⟩ : ∃ x, x = wr := ⟨wr, rfl⟩
          subst hw9
          have hBa := hB.trans (hO.below.mono hDb)
          obtain ⟨gb, go_, rfl, gl_, gc0⟩ := il_at1 hI2 (i := k) (by omega)
          obtain ⟨pb, po, rfl, pl_, pc0⟩ := ll_at1 hA hlt
          have hg := ga.bd k hlt
          have hKk := ga.gp.len k hlt
          obtain ⟨t, ht⟩ : ∃ t : Nat, g k = (t : Int) := ⟨(g k).toNat, by omega⟩
          have htn : t < n := by omega
          obtain ⟨rb, ro, hAk, rl_, rc0⟩ := hA.row k hlt (by omega)
          rw [hKk] at rc0
          rw [hAk, hKk] at pc0
          rw [ht] at gc0
          have x0 := (hBa.cell (p := ⟨gb, go_ + k, none⟩) gl_).trans gc0
          have x1 := (hBa.cell (p := ⟨pb, po + k, none⟩) pl_).trans pc0
          have i3 : (0 : Int) ≤ (t : Int) := by omega
          have i4 : (t : Int) < (n : Int) := by omega
          have hD1 := rndD_bd ga hD k hk
          have HEq : Hid (rndQ F g n D (k + 1) = rowQ F g k (rndD F g n D k) (rndQ F g n D k) n) := rfl
          have HEd : Hid (rndD F g n D (k + 1) = rowD F g k (rndD F g n D k) n) := rfl
          have HP1 : Hid (IP w9 Db n (rndD F g n D k)) := hP
          have hn6 := ga.gp.hi
          generalize C k = Ck at *
          generalize hq1 : rndQ F g n D k = q1 at HEq ⊢
          generalize hd1 : rndD F g n D k = D1 at HEq HEd HP1 hD1
          clear hg hKk hAk gc0 hP hq1 hd1
          go_wp2_with fail
          clear x0 x1
          obtain ⟨wa, hwa⟩ : ∃ x, x = w9 := ⟨w9, rfl⟩
          subst hwa
          go_loopw [9, 12] (fun x i wr => ∃ b : Nat, b ≤ n ∧ i = .int .i64 (b : Int) ∧ x = .bool (rowQ F g k D1 q1 b) ∧ IP wr Db n (rowD F g k D1 b) ∧ Only Db wa wr) (fun _ i _ => n - (intOf i).toNat)
          case atStart => exact ⟨0, Nat.zero_le _, rfl, rfl, HP1.out, Only.refl _ _⟩
          case round =>
            obtain ⟨b, hb, rfl, rfl, hP2, hO2⟩ := hrel
            clear HP1
            have i5 : (0 : Int) ≤ (b : Int) := by omega
            by_cases hbl : b < n
            · have i6 : (b : Int) < (n : Int) := by omega
              have hBw := hBa.trans (hO2.below.mono hDb)
              have hbd := rowD_bd ga hlt hD1 b hb
              have v1 := hbd b hbl
              have v2 := hbd t htn
              have v3 := ga.gp.bd k b hlt hbl
              have v4 := ga.gp.bd k t hlt htn
              have y0 := (hBw.cell (p := ⟨pb, po + k, none⟩) pl_).trans pc0
              have y1 := (hBw.cell (p := ⟨rb, ro + b, none⟩) rl_).trans (rc0 b hbl)
              have y2 := (hBw.cell (p := ⟨rb, ro + t, none⟩) rl_).trans (rc0 t htn)
              have z1 := hP2.c b hbl
              have z2 := hP2.c t htn
              have z3 := hP2.fz t
              have HQ : Hid (rowQ F g k D1 q1 (b + 1) = (rowQ F g k D1 q1 b || loB F g k b (rowD F g k D1 b))) := rfl
              have HD : Hid (rowD F g k D1 (b + 1) = lwD F g k b (rowD F g k D1 b)) := rfl
              have HLo : Hid (loB F g k b (rowD F g k D1 b) = decide (F k b + rowD F g k D1 b b - F k t < rowD F g k D1 b t)) := by show loB F g k b _ = _; unfold loB moS; rw [ht]; rfl
              have HLw : Hid (loB F g k b (rowD F g k D1 b) = true → lwD F g k b (rowD F g k D1 b) = put (rowD F g k D1 b) t (F k b + rowD F g k D1 b b - F k t)) := fun h => by show lwD F g k b _ = _; unfold lwD; rw [if_pos h]; unfold moS; rw [ht]; rfl
              have HLn : Hid (loB F g k b (rowD F g k D1 b) = false → lwD F g k b (rowD F g k D1 b) = rowD F g k D1 b) := fun h => by show lwD F g k b _ = _; unfold lwD; rw [if_neg (by rw [h]; decide)]
              generalize F k b = X at v3 y1 HLo HLw
              generalize F k t = Z at v4 y2 HLo HLw
              obtain ⟨D2, hD2⟩ : ∃ D2, D2 = rowD F g k D1 b := ⟨_, rfl⟩
              rw [← hD2] at v1 v2 z1 z2 HQ HD HLo HLw HLn hP2
              have HS : Hid (∀ v : Int, IP (wr.setCell ⟨Db, t, none⟩ (.int .i64 v)) Db n (put D2 t v)) := fun v => hP2.set htn v
              have HS2 : Hid (∀ v : Value, Only Db wa (wr.setCell ⟨Db, t, none⟩ v)) := fun v => hO2.set t v
              have HPn : Hid (IP wr Db n D2) := hP2
              generalize hY : D2 b = Y at v1 z1 HLo HLw
              generalize hU : D2 t = U at v2 z2 HLo
              clear hbd hY hU hD2 hP2 hD1 ga hBw hA hI2 rc0 pc0 hBa ht
              by_cases gl : X + Y - Z < U
              · have HL1 : Hid (loB F g k b D2 = true) := HLo.out.trans (decide_eq_true gl)
                have HX := HLw.out HL1.out
                have HX2 : Hid (rowD F g k D1 (b + 1) = put D2 t (X + Y - Z)) := HD.out.trans HX
                have HQ2 : Hid (rowQ F g k D1 q1 (b + 1) = true) := by show rowQ F g k D1 q1 (b + 1) = true; rw [HQ.out, HL1.out, Bool.or_true]
                clear HLo HLw HLn HX HQ HD HL1
                go_upto_region 15 with fail
                go_quiet (fail)
                have HS3 : Hid (IP ((wr.drewN nq).setCell ⟨Db, t, none⟩ (.int .i64 (X + Y - Z))) Db n (put D2 t (X + Y - Z))) := ip_drew HPn.out nq htn _
                have HS4 : Hid (Only Db wa ((wr.drewN nq).setCell ⟨Db, t, none⟩ (.int .i64 (X + Y - Z)))) := (only_dr hO2 nq).set t _
                have m1 := cell_dr wr nq z2
                have m2 := fz_dr wr nq z3
                generalize wr.drewN nq = w10 at HS3 HS4 m1 m2 ⊢
                rw [show Y + X - Z = X + Y - Z by omega]
                go_wp2
                exact ⟨⟨b + 1, by omega, by go_num, by rw [HQ2.out], by rw [HX2.out]; exact HS3.out, HS4.out⟩, by simp [intOf]; omega⟩
              · have HL1 : Hid (loB F g k b D2 = false) := HLo.out.trans (decide_eq_false gl)
                have HX2 : Hid (rowD F g k D1 (b + 1) = D2) := HD.out.trans (HLn.out HL1.out)
                have HQ2 : Hid (rowQ F g k D1 q1 (b + 1) = rowQ F g k D1 q1 b) := by show rowQ F g k D1 q1 (b + 1) = _; rw [HQ.out, HL1.out, Bool.or_false]
                clear HLo HLw HLn HQ HD HL1
                go_upto_region 15 with fail
                go_quiet (fail)
                have HS3 : Hid (IP (wr.drewN nq) Db n D2) := ip_dr HPn.out nq
                have HS4 : Hid (Only Db wa (wr.drewN nq)) := only_dr hO2 nq
                have m1 := cell_dr wr nq z2
                generalize wr.drewN nq = w10 at HS3 HS4 m1 ⊢
                rw [show Y + X - Z = X + Y - Z by omega]
                go_wp2
                exact ⟨⟨b + 1, by omega, by go_num, by rw [HQ2.out], by rw [HX2.out]; exact HS3.out, HS4.out⟩, by simp [intOf]; omega⟩
            · have hbn : b = n := by omega
              subst hbn
              clear hA hI2
              go_wp2
              exact ⟨⟨k + 1, by omega, by go_num, by rw [HEq.out], by rw [HEd.out]; exact hP2, hO.trans hO2⟩, by simp [intOf]; omega⟩
        · have hkn : k = n := by omega
          subst hkn
          have HEd : Hid (duD F g k (r + 1) = rndD F g k (duD F g k r) k) := rfl
          have HQ : Hid (duQ F g k r = rndQ F g k (duD F g k r) k) := rfl
          rw [hDeq] at HEd HQ
          have hBn := hB.trans (hO.below.mono hDb)
          rw [← HEd.out] at hP
          clear hA hI2 hD HR0 hDeq
          generalize rndQ F g k D k = q at HQ ⊢
          cases q with
          | false =>
            go_wp2
            go_ret2
            exact ⟨.inl ⟨r, hr, HE.out, HQ.out, some ⟨Db, 0, none⟩, k, rfl, lq_of hP hDb hP.lt⟩, hBn⟩
          | true =>
            have HE2 : Hid (∀ s, s < r + 1 → duQ F g k s = true) := fun s hs => by
              by_cases e : s = r
              · subst e; exact HQ.out
              · exact HE.out s (by omega)
            clear HE HQ
            go_wp2
            exact ⟨⟨r + 1, by omega, by go_num, HE2, hP, hBn⟩, by simp [intOf]; omega⟩
    · have ir1 : ¬ (r : Int) ≤ (n : Int) := by omega
      have HE2 : Hid (∀ s, s ≤ n → duQ F g n s = true) := fun s hs => HE.out s (by omega)
      clear HE hP0 hA hI2
      go_wp2
      go_ret2
      exact ⟨.inr ⟨HE2.out, ansTb_nil _ _ _ _⟩, hB⟩
end Go.Proofs.Ytkgjcfcakfdopaa
