/- Whether a path meets a wish, as the model says it. -/
import Derived.Test.YtacnegfmdckpbabDoorWhMtM
import Derived.Test.YtacnegfmdckpbabDoorWhGbS
namespace Go.Proofs.YtacnegfmdckpbabDoor
open Go.RowKit
set_option maxRecDepth 20000 in
set_option maxHeartbeats 8000000 in
theorem sWishMet (a : Option Addr) (n c : Nat) (b : Option Addr) (m d : Nat) (x : Option Addr) (p q : Nat) (f : Nat → ByteArray) (g : Nat → Bool) (K : Nat → Nat) (R : Nat → Nat → Int)
    (ra : Option Addr) (rn rc : Nat) (re : Nat → ByteArray) (aa : Option Addr) (an ac : Nat) (av : Nat → ByteArray) (ta : Option Addr) (L tc : Nat) (P : Nat → Int) (w : World)
    (hn : n ≤ 1048576) (hm : m ≤ 1048576) (hp : p ≤ 1048576) (hf : ∀ i, i < n → (f i).size ≤ 1048576) (hK : ∀ i, i < p → K i ≤ 1048576)
    (hrn : rn ≤ 1048576) (han : an ≤ 1048576) (hrc : rn ≤ rc) (hac : an ≤ ac) (hre : ∀ i, i < rn → (re i).size ≤ 1048576) (hav : ∀ i, i < an → (av i).size ≤ 1048576) (hL : L ≤ 1048576)
    (h : BD w a n f b m g x p K R) (hr : SL w ra rn re) (ha : SL w aa an av) (ht : IL w ta L P) :
    Calls Tryd.prog 22 #[bdv a n c b m d x p q, wsv ra rn rc aa an ac, .slice ta L tc] w fun e w' => e = .returned (.tuple #[.bool (mtV n f m p K R rn re an av P L).1, .bool (mtV n f m p K R rn re an av P L).2]) ∧ Below w.heap.size w w' := by
  have kG := fun w h => sGoodBoard a n c b m d x p q f g K R w hn hm hp hf hK h
  have kW := fun w h h' => sGood ra aa rn rc an ac re av w hrn han hrc hac hre hav h h'
  have hb0 : Below w.heap.size w ((w.alloc (bdO a n c b m d x p q 34)).alloc (wsO ra rn rc aa an ac 36)) := ((Below.refl _ _).alloc (Nat.le_refl _) _).alloc (by simp) _
  have bA := (bx_new (w := w) (bdL a n c b m d x p q) 34 rfl).alloc (wsO ra rn rc aa an ac 36)
  have bB := bx_new (w := w.alloc (bdO a n c b m d x p q 34)) (b := w.heap.size + 1) (wsL ra rn rc aa an ac) 36 (by simp)
  have x0 := bA.c0
  have x1 := bA.c1
  have x2 := bA.c2
  have x3 := bB.c0
  have x4 := bB.c1
  have HV : Hid (mtV n f m p K R rn re an av P L = if gbB n f m p K R = true ∧ (namB re rn && namB av an) = true ∧ 1 ≤ L ∧ L ≤ 60 ∧ ptOk n K R P L = true then (mtR f rn re an av P L 0, true) else (false, false)) := rfl
  have HP : Hid (gbB n f m p K R = true → 1 ≤ n ∧ n ≤ 14 ∧ m = n ∧ p = n ∧ ∀ i, i < n → plOk f K R n i = true) := fun h => gbB_parts h
  generalize mtV n f m p K R rn re an av P L = V at *
  generalize gbB n f m p K R = A at *
  generalize (namB re rn && namB av an) = B at *
  cases A with
  | false =>
    have hV : V = (false, false) := by rw [HV.out, if_neg (by simp)]
    subst hV
    clear HV HP kW
    go_enter Tryd.func22, Tryd.ntmps22
    go_wp2_with fail
    refine (kG _ (h.below hb0)).mono ?_
    rintro e w1 ⟨rfl, hb1⟩
    have hB1 := stepA hb0 hb1
    clear x0 x1 x2 x3 x4
    go_wp2
    go_ret2
    exact ⟨rfl, hB1⟩
  | true =>
  obtain ⟨n1, n14, e1, e2, -⟩ := HP.out rfl
  clear HP
  subst m
  subst p
  cases B with
  | false =>
    have hV : V = (false, false) := by rw [HV.out, if_neg (by simp)]
    subst hV
    clear HV
    go_enter Tryd.func22, Tryd.ntmps22
    go_wp2_with fail
    refine (kG _ (h.below hb0)).mono ?_
    rintro e w1 ⟨rfl, hb1⟩
    have hB1 := stepA hb0 hb1
    have y3 := (bB.on hb1).c0
    have y4 := (bB.on hb1).c1
    clear x0 x1 x2 x3 x4
    go_wp2_with fail
    refine (kW _ (hr.below hB1) (ha.below hB1)).mono ?_
    rintro e w2 ⟨rfl, hb2⟩
    have hB2 := stepA hB1 hb2
    go_wp2
    go_ret2
    exact ⟨rfl, hB2⟩
  | true =>
    by_cases l1 : L < 1
    · have hV : V = (false, false) := by rw [HV.out, if_neg (by omega)]
      subst hV
      have j1 : (L : Int) < 1 := by omega
      clear HV
      go_enter Tryd.func22, Tryd.ntmps22
      go_wp2_with fail
      refine (kG _ (h.below hb0)).mono ?_
      rintro e w1 ⟨rfl, hb1⟩
      have hB1 := stepA hb0 hb1
      have bA1 := bA.on hb1
      have bB1 := bB.on hb1
      have y3 := bB1.c0
      have y4 := bB1.c1
      clear x0 x1 x2 x3 x4 bA bB hb0 hb1
      go_wp2_with fail
      refine (kW _ (hr.below hB1) (ha.below hB1)).mono ?_
      rintro e w2 ⟨rfl, hb2⟩
      have hB2 := stepA hB1 hb2
      have bA2 := bA1.on hb2
      have bB2 := bB1.on hb2
      clear bA1 bB1 hB1 hb2 y3 y4 kG kW
      go_wp2
      go_ret2
      exact ⟨rfl, hB2⟩
    have j1 : ¬ (L : Int) < 1 := by omega
    by_cases l2 : 60 < L
    · have hV : V = (false, false) := by rw [HV.out, if_neg (by omega)]
      subst hV
      have j2 : (60 : Int) < (L : Int) := by omega
      clear HV
      go_enter Tryd.func22, Tryd.ntmps22
      go_wp2_with fail
      refine (kG _ (h.below hb0)).mono ?_
      rintro e w1 ⟨rfl, hb1⟩
      have hB1 := stepA hb0 hb1
      have bA1 := bA.on hb1
      have bB1 := bB.on hb1
      have y3 := bB1.c0
      have y4 := bB1.c1
      clear x0 x1 x2 x3 x4 bA bB hb0 hb1
      go_wp2_with fail
      refine (kW _ (hr.below hB1) (ha.below hB1)).mono ?_
      rintro e w2 ⟨rfl, hb2⟩
      have hB2 := stepA hB1 hb2
      have bA2 := bA1.on hb2
      have bB2 := bB1.on hb2
      clear bA1 bB1 hB1 hb2 y3 y4 kG kW
      go_wp2
      go_ret2
      exact ⟨rfl, hB2⟩
    have j2 : ¬ (60 : Int) < (L : Int) := by omega
    have HNo : Hid (∀ i, i < L → stOk n K R P i = false → V = (false, false)) := fun i hi h9 => by
      rw [HV.out, if_neg]
      rintro ⟨-, -, -, -, h8⟩
      rw [ptOk_no hi h9] at h8
      cases h8
    have HYes : Hid ((∀ i, i < L → stOk n K R P i = true) → V = (mtR f rn re an av P L 0, true)) := fun h9 => by
      rw [HV.out, if_pos ⟨rfl, rfl, by omega, by omega, ptOk_mk h9⟩]
    clear HV
    obtain ⟨A, C, hA⟩ := h.nx
    have hS := h.nm
    have kI := fun (y : ByteArray) w (h9 : SL w aa an av) => sIn aa an ac av y w han h9
    have kJ := fun (y : ByteArray) w (h9 : SL w ra rn re) => sIn ra rn rc re y w hrn h9
    go_enter Tryd.func22, Tryd.ntmps22
    go_wp2_with fail
    refine (kG _ (h.below hb0)).mono ?_
    rintro e w1 ⟨rfl, hb1⟩
    have hB1 := stepA hb0 hb1
    have bA1 := bA.on hb1
    have bB1 := bB.on hb1
    have y3 := bB1.c0
    have y4 := bB1.c1
    clear x0 x1 x2 x3 x4 bA bB hb0 hb1
    go_wp2_with fail
    refine (kW _ (hr.below hB1) (ha.below hB1)).mono ?_
    rintro e w2 ⟨rfl, hb2⟩
    have hB2 := stepA hB1 hb2
    have bA2 := bA1.on hb2
    have bB2 := bB1.on hb2
    clear bA1 bB1 hB1 hb2 y3 y4 kG kW
    go_wp2
    go_loopw [35] (fun v wr => ∃ i : Nat, i ≤ L ∧ v = .int .i64 (i : Int) ∧ Hid (∀ j, j < i → stOk n K R P j = true) ∧ Hid (Bx wr w.heap.size (bdL a n c b n d x n q)) ∧ Hid (Bx wr (w.heap.size + 1) (wsL ra rn rc aa an ac)) ∧ Below w.heap.size w wr) (fun v _ => L - (intOf v).toNat)
    case atStart => exact ⟨0, Nat.zero_le _, rfl, fun j hj => absurd hj (Nat.not_lt_zero _), bA2, bB2, hB2⟩
    case round =>
      obtain ⟨i, hi, rfl, HS, HA, HB, hB⟩ := hrel
      clear bA2 bB2 hB2
      by_cases hlt : i < L
      · clear kI kJ HYes
        have x0 := HA.out.c0
        have x2 := HA.out.c2
        obtain ⟨tb, to_, rfl, tl, hc1⟩ := (ht.below hB) (by omega)
        have y1 := hc1 i hlt
        have i0 : (0 : Int) ≤ (i : Int) := by omega
        have i1 : (i : Int) < (L : Int) := by omega
        have HD : Hid (stOk n K R P i = (decide (0 ≤ P i) && (decide (P i < (n : Int)) && (decide (i = 0) || hsB (R (P (i - 1)).toNat) (K (P (i - 1)).toNat) (P i))))) := rfl
        have HN1 : Hid (stOk n K R P i = false → V = (false, false)) := fun h9 => HNo.out i hlt h9
        have HS2 : Hid (stOk n K R P i = true → ∀ j, j < i + 1 → stOk n K R P j = true) := fun h9 j hj => by
          by_cases e : j = i
          · subst e; exact h9
          · exact HS.out j (by omega)
        clear HNo
        by_cases q0 : P i < 0
        · have hV : V = (false, false) := HN1.out (by rw [HD.out, decide_eq_false (by omega)]; rfl)
          subst hV
          clear HN1 HS2 HD HS hc1
          go_wp2
          go_ret2
          exact ⟨rfl, hB⟩
        by_cases q1 : (n : Int) ≤ P i
        · have hV : V = (false, false) := HN1.out (by rw [HD.out, decide_eq_false (p := P i < (n : Int)) (by omega)]; simp)
          subst hV
          clear HN1 HS2 HD HS hc1
          go_wp2
          go_ret2
          exact ⟨rfl, hB⟩
        by_cases i2 : i = 0
        · subst i2
          have HS3 : Hid (∀ j, j < 0 + 1 → stOk n K R P j = true) := HS2.out (by rw [HD.out, decide_eq_true (p := 0 ≤ P 0) (by omega), decide_eq_true (p := P 0 < (n : Int)) (by omega)]; rfl)
          have y5 : wr.cell? ⟨tb, to_, none⟩ = some (.int .i64 (P 0)) := hc1 0 hlt
          have i5 : (0 : Int) < (L : Int) := by omega
          clear HN1 HS2 HD HS hc1 y1 i0 i1
          go_wp2
          exact ⟨⟨0 + 1, by omega, by go_num, HS3, HA, HB, hB⟩, by simp [intOf]; omega⟩
        have i2' : ((i : Int) == 0) = false := by simp; omega
        have y6 := hc1 (i - 1) (by omega)
        have hU := stOk_in (HS.out (i - 1) (by omega))
        have i3 : (0 : Int) ≤ (i : Int) - 1 := by omega
        have i4 : (i : Int) - 1 < (L : Int) := by omega
        have i5 : ((i : Int) - 1).toNat = i - 1 := by omega
        have HD2 : Hid (stOk n K R P i = hsB (R (P (i - 1)).toNat) (K (P (i - 1)).toNat) (P i)) := by
          show stOk n K R P i = _
          rw [HD.out, decide_eq_true (p := 0 ≤ P i) (by omega), decide_eq_true (p := P i < (n : Int)) (by omega), decide_eq_false i2]; rfl
        clear HD HS hc1
        generalize P (i - 1) = U at *
        generalize P i = X at *
        generalize stOk n K R P i = O at *
        obtain ⟨xb, xo, rfl, xl, hc2⟩ := (hA.below hB).out (by omega)
        have y7 := hc2 U.toNat (by omega)
        have hrow := (hA.below hB).row U.toNat (by omega)
        have hKi := hK U.toNat (by omega)
        have u0 := hU.1
        have u1 := hU.2
        clear hc2 hU
        generalize R U.toNat = F at *
        generalize A U.toNat = Z at *
        generalize K U.toNat = M at *
        generalize C U.toNat = Y at *
        obtain ⟨w8, hw8⟩ : ∃ w8, w8 = wr := ⟨wr, rfl⟩
        subst hw8
        go_wp2_with fail
        go_quiet (fail)
        go_wp2_with fail
        go_loopw [10, 61] (fun o v wr => ∃ j : Nat, j ≤ M ∧ v = .int .i64 (j : Int) ∧ o = .bool (hsB F j X) ∧ Below w8.heap.size w8 wr) (fun _ v _ => M - (intOf v).toNat)
        case atStart => exact ⟨0, Nat.zero_le _, rfl, by rw [hsB_zero], by first | exact below_dr (Below.refl _ _) _ | exact Below.refl _ _ | exact (Below.refl _ _).drew⟩
        case round =>
          obtain ⟨j, hj, rfl, rfl, hw⟩ := hrel
          by_cases hlj : j < M
          · obtain ⟨rb, ro, rfl, rl, hc3⟩ := (hrow.below hw) (by omega)
            have z1 := hc3 j hlj
            have k0 : (0 : Int) ≤ (j : Int) := by omega
            have k1 : (j : Int) < (M : Int) := by omega
            have HE : Hid (hsB F (j + 1) X = (hsB F j X || decide (F j = X))) := hsB_step F j X
            clear hc3 HD2 HN1 HS2 y1 y6 y7 x0 x2
            generalize hsB F j X = o at *
            generalize F j = G at *
            cases o with
            | true =>
              have ho : hsB F (j + 1) X = true := by rw [HE.out]; rfl
              go_wp2
              exact ⟨⟨j + 1, by omega, by go_num, by rw [ho], hw⟩, by simp [intOf]; omega⟩
            | false =>
              by_cases e : G = X
              · have ho : hsB F (j + 1) X = true := by rw [HE.out, decide_eq_true e]; rfl
                have e' : (G == X) = true := by simpa using e
                go_wp2
                exact ⟨⟨j + 1, by omega, by go_num, by first | (rw [ho]; done) | (rw [ho]; rfl) | (rw [ho, e']) | (rw [ho]; simp [e]), hw⟩, by simp [intOf]; omega⟩
              · have ho : hsB F (j + 1) X = false := by rw [HE.out, decide_eq_false e]; rfl
                have e' : (G == X) = false := by simpa using e
                go_wp2
                exact ⟨⟨j + 1, by omega, by go_num, by first | (rw [ho]; done) | (rw [ho]; rfl) | (rw [ho, e']) | (rw [ho]; simp [e]), hw⟩, by simp [intOf]; omega⟩
          · have hjM : j = M := by omega
            subst hjM
            have hB8 := stepA hB hw
            have HA8 : Hid (Bx wr w.heap.size (bdL a n c b n d (some ⟨xb, xo, none⟩) n q)) := HA.out.on hw
            have HB8 : Hid (Bx wr (w.heap.size + 1) (wsL ra rn rc aa an ac)) := HB.out.on hw
            rw [← HD2.out]
            clear HA HB hB hw hrow HD2 y1 y6 y7 x0 x2
            cases O with
            | false =>
              have hV : V = (false, false) := HN1.out rfl
              subst hV
              clear HN1 HS2
              go_wp2
              go_ret2
              exact ⟨rfl, hB8⟩
            | true =>
              have HS3 : Hid (∀ j, j < i + 1 → stOk n K R P j = true) := HS2.out rfl
              clear HN1 HS2
              go_wp2
              exact ⟨⟨i + 1, by omega, by go_num, HS3, HA8, HB8, hB8⟩, by simp [intOf]; omega⟩
      · have hiL : i = L := by omega
        subst hiL
        have hV : V = (mtR f rn re an av P i 0, true) := HYes.out HS.out
        obtain ⟨T0, hT0⟩ : ∃ T0, T0 = mtR f rn re an av P i 0 := ⟨_, rfl⟩
        rw [← hT0] at hV
        subst hV
        have HT0 : Hid (mtR f rn re an av P i 0 = T0) := hT0.symm
        clear hT0
        have HI : Hid (∀ j, j < i → 0 ≤ P j ∧ P j < (n : Int)) := fun j hj => stOk_in (HS.out j hj)
        clear HS HNo HYes hA
        obtain ⟨w8, hw8⟩ : ∃ w8, w8 = wr := ⟨wr, rfl⟩
        subst hw8
        go_wp2_with fail
        go_loopw [77] (fun v wr => ∃ k : Nat, k ≤ i ∧ v = .int .i64 (k : Int) ∧ Hid (mtR f rn re an av P (i - k) k = T0) ∧ Hid (Bx wr w.heap.size (bdL a n c b n d x n q)) ∧ Hid (Bx wr (w.heap.size + 1) (wsL ra rn rc aa an ac)) ∧ Below w.heap.size w wr) (fun v _ => i - (intOf v).toNat)
        case atStart => exact ⟨0, Nat.zero_le _, rfl, HT0, HA, HB, hB⟩
        case round =>
          obtain ⟨k, hk, rfl, HM, HA9, HB9, hB9⟩ := hrel
          clear HA HB hB
          by_cases hlk : k < i
          · have x0 := HA9.out.c0
            have x3 := HB9.out.c0
            have x4 := HB9.out.c1
            obtain ⟨tb, to_, rfl, tl, hc1⟩ := (ht.below hB9) (by omega)
            have y1 := hc1 k hlk
            have i0 : (0 : Int) ≤ (k : Int) := by omega
            have i1 : (k : Int) < (i : Int) := by omega
            have hX := HI.out k hlk
            have HM2 : Hid (T0 = if inS av (f (P k).toNat) an = true then false else if inS re (f (P k).toNat) rn = true then true else mtR f rn re an av P (i - (k + 1)) (k + 1)) := by
              show T0 = _
              rw [← HM.out, show i - k = (i - (k + 1)) + 1 by omega]
              rfl
            clear hc1 HM HI
            clear HT0
            generalize hNx : mtR f rn re an av P (i - (k + 1)) (k + 1) = T at *
            generalize P k = X at *
            obtain ⟨sb, so, rfl, sl, hc2⟩ := (hS.below hB9) (by omega)
            have y2 := hc2 X.toNat (by omega)
            have u0 := hX.1
            have u1 := hX.2
            have kI2 := fun w2 (h9 : SL w2 aa an av) => kI (f X.toNat) w2 h9
            have kJ2 := fun w2 (h9 : SL w2 ra rn re) => kJ (f X.toNat) w2 h9
            have hav9 := ha.below hB9
            have hre9 := hr.below hB9
            clear hc2 hX kI kJ
            generalize inS av (f X.toNat) an = I at *
            generalize inS re (f X.toNat) rn = J at *
            generalize f X.toNat = s at *
            cases I with
            | true =>
              have hV : T0 = false := by rw [HM2.out]; rfl
              subst hV
              clear HM2 kJ2
              go_wp2_with fail
              go_quiet ((go_at_call 47; exact Calls.quiet_of_same (kI2 _ (hav9.below (by first | exact Below.refl _ _ | exact below_dr (Below.refl _ _) _)))))
              go_wp2
              go_ret2
              exact ⟨rfl, below_dr hB9 _⟩
            | false =>
              cases J with
              | true =>
                have hV : T0 = true := by rw [HM2.out]; rfl
                subst hV
                clear HM2
                go_wp2_with fail
                go_quiet ((go_at_call 47; exact Calls.quiet_of_same (kI2 _ (hav9.below (by first | exact Below.refl _ _ | exact below_dr (Below.refl _ _) _)))))
                have hb10 : Below wr.heap.size wr (wr.drewN nq) := below_dr (Below.refl _ _) nq
                have hre10 := hre9.below hb10
                have HA10 : Hid (Bx (wr.drewN nq) w.heap.size (bdL (some ⟨sb, so, none⟩) n c b n d x n q)) := HA9.out.on hb10
                have HB10 : Hid (Bx (wr.drewN nq) (w.heap.size + 1) (wsL ra rn rc aa an ac)) := HB9.out.on hb10
                have hB10 := stepA hB9 hb10
                have x5 := HA10.out.c0
                have x6 := HB10.out.c0
                have y5 : (wr.drewN nq).cell? ⟨sb, so + X.toNat, none⟩ = some (.string s) := (hb10.cell (p := ⟨sb, so + X.toNat, none⟩) sl).trans y2
                clear x0 x3 x4 y1 y2 hb10
                generalize wr.drewN nq = w10 at *
                go_wp2_with fail
                go_quiet ((go_at_call 47; exact Calls.quiet_of_same (kJ2 _ (hre10.below (below_dr (Below.refl _ _) _)))))
                go_wp2
                go_ret2
                exact ⟨rfl, below_dr hB10 _⟩
              | false =>
                have hV : T0 = T := by rw [HM2.out]; rfl
                subst hV
                clear HM2
                go_wp2_with fail
                go_quiet ((go_at_call 47; exact Calls.quiet_of_same (kI2 _ (hav9.below (by first | exact Below.refl _ _ | exact below_dr (Below.refl _ _) _)))))
                have hb10 : Below wr.heap.size wr (wr.drewN nq) := below_dr (Below.refl _ _) nq
                have hre10 := hre9.below hb10
                have HA10 : Hid (Bx (wr.drewN nq) w.heap.size (bdL (some ⟨sb, so, none⟩) n c b n d x n q)) := HA9.out.on hb10
                have HB10 : Hid (Bx (wr.drewN nq) (w.heap.size + 1) (wsL ra rn rc aa an ac)) := HB9.out.on hb10
                have hB10 := stepA hB9 hb10
                have x5 := HA10.out.c0
                have x6 := HB10.out.c0
                have y5 : (wr.drewN nq).cell? ⟨sb, so + X.toNat, none⟩ = some (.string s) := (hb10.cell (p := ⟨sb, so + X.toNat, none⟩) sl).trans y2
                clear x0 x3 x4 y1 y2 hb10
                generalize wr.drewN nq = w10 at *
                go_wp2_with fail
                go_quiet ((go_at_call 47; exact Calls.quiet_of_same (kJ2 _ (hre10.below (below_dr (Below.refl _ _) _)))))
                go_wp2
                exact ⟨⟨k + 1, by omega, by go_num, hNx, HA10.out.on (below_dr (Below.refl _ _) _), HB10.out.on (below_dr (Below.refl _ _) _), below_dr hB10 _⟩, by simp [intOf]; omega⟩
          · have hke : k = i := by omega
            subst hke
            have x3 := HB9.out.c0
            have hT : T0 = decide (rn = 0) := by
              rw [← HM.out, Nat.sub_self]
              rfl
            have hz : decide (rn = 0) = ((rn : Int) == 0) := by
              by_cases e : rn = 0
              · subst e; rfl
              · rw [decide_eq_false e]; symm; simpa using e
            rw [hz] at hT
            clear HM HI kI kJ HT0 hz
            subst hT
            go_wp2
            go_ret2
            exact ⟨rfl, hB9⟩
end Go.Proofs.YtacnegfmdckpbabDoor
