/- HandOver, as the model goes (tools/gen_hos.py). -/
import Derived.Test.YtjmdghkhapajiaaHoM
import Derived.Test.YtjmdghkhapajiaaAsGpS
import Derived.Test.YtjmdghkhapajiaaAsWhoS
import Derived.Test.YtjmdghkhapajiaaHoB
import Derived.BigQuiet
import Derived.Deep.Cut
namespace Go.Proofs.Ytjmdghkhapajiaa
open Go.RowKit
/-- the rows below k, as the model lays them -/
def hoN (G H k i : Nat) : Nat := if i < k ∧ i ≠ G then (if i = H then 2 else 1) else 0
theorem hoN_skip (G H i : Nat) : hoN G H G i = hoN G H (G + 1) i := by
  unfold hoN
  by_cases c : i < G ∧ i ≠ G
  · rw [if_pos c, if_pos (show i < G + 1 ∧ i ≠ G from ⟨by omega, c.2⟩)]
  · rw [if_neg c, if_neg (by omega)]
theorem hoN_step {G H s : Nat} (e : s ≠ G) (v : Nat) (hv : v = if s = H then 2 else 1) (i : Nat) : (if i = s then v else hoN G H s i) = hoN G H (s + 1) i := by
  unfold hoN
  by_cases c : i = s
  · subst c; rw [if_pos rfl, if_pos (show i < i + 1 ∧ i ≠ G from ⟨by omega, e⟩), hv]
  · rw [if_neg c]
    by_cases c2 : i < s ∧ i ≠ G
    · rw [if_pos c2, if_pos (show i < s + 1 ∧ i ≠ G from ⟨by omega, c2.2⟩)]
    · rw [if_neg c2, if_neg (by omega)]
theorem hoN_end {G H n i : Nat} (hi : i < n) (hne : H ≠ G) : hoN G H n i = hoK G H i := by
  unfold hoN hoK
  by_cases c : i = G
  · subst c; rw [if_pos rfl, if_neg (by omega)]
  · rw [if_pos ⟨hi, c⟩, if_neg c]
def two (X Y : Int) (j : Nat) : Int := if j = 0 then X else Y
theorem own_two (w : World) (base : Nat) (hb : base ≤ w.heap.size) (X Y : Int) : Own (w.alloc (.cells #[.int .i64 X, .int .i64 Y] 3)) base (.slice (some ⟨w.heap.size, 0, none⟩) 2 2) 2 (two X Y) :=
  ⟨by rw [vL_len], .inr ⟨w.heap.size, 2, #[.int .i64 X, .int .i64 Y], rfl, hb, (by show (w.heap.push _)[w.heap.size]? = _; simp), Nat.le_refl _, by unfold maxLen; omega, rfl, rfl⟩⟩
set_option maxHeartbeats 4000000 in
set_option maxRecDepth 20000 in
theorem sHand_no (a x : Option Addr) (n c q r : Nat) (K : Nat → Nat) (F : Nat → Nat → Int) (g : Nat → Int) (go : Int) (w : World) (hn : n ≤ 1048576) (hK : ∀ i, i < n → K i ≤ 1048576) (hq : q ≤ 1048576) (h : RR w a n K F) (h2 : IL w x q g) (hb : hoB n q K F g go = false) :
    Calls Try.prog 17 #[.slice a n c, .slice x q r, .int .i64 go] w fun e w' => AnsRb w w' e 0 (fun _ => 0) (fun _ _ => 0) false ∧ Below w.heap.size w w' := by
  have kB := sGoodP a n c K F w hn hK h
  cases e : gpB n K F with
  | false =>
    rw [e] at kB
    clear hb e
    go_enter Try.func17, Try.ntmps17
    go_wp2_with (first | (go_at_call 20; refine kB.mono ?_; rintro e w1 ⟨rfl, hb⟩; clear kB) | fail)
    go_ret2
    exact ⟨ansRb_nil _ _ _ _ _, hb⟩
  | true =>
    rw [e] at kB
    have kW := fun w (h2 : IL w x q g) => sWho x q r n g w hn hq h2
    have gp := gpB_t e
    cases e2 : whB n q g with
    | false =>
      rw [e2] at kW
      clear hb e e2
      go_enter Try.func17, Try.ntmps17
      go_wp2_with (first | (go_at_call 20; refine kB.mono ?_; rintro e w1 ⟨rfl, hb⟩; clear kB) | (go_at_call 41; refine (kW _ (h2.below hb)).mono ?_; rintro e w3 ⟨rfl, hb3⟩; clear kW) | fail)
      go_ret2
      exact ⟨ansRb_nil _ _ _ _ _, stepA hb hb3⟩
    | true =>
      rw [e2] at kW
      have hb5 : ¬ (0 ≤ go ∧ go < (n : Int) ∧ 2 ≤ n) := by
        intro h9
        unfold hoB gaB at hb
        rw [e, e2, decide_eq_true h9.1, decide_eq_true h9.2.1, decide_eq_true h9.2.2] at hb
        cases hb
      clear hb e e2
      by_cases c0 : n < 2
      · have c1 : (n : Int) < 2 := by omega
        clear hb5
        go_enter Try.func17, Try.ntmps17
        go_wp2_with (first | (go_at_call 20; refine kB.mono ?_; rintro e w1 ⟨rfl, hb⟩; clear kB) | (go_at_call 41; refine (kW _ (h2.below hb)).mono ?_; rintro e w3 ⟨rfl, hb3⟩; clear kW) | fail)
        go_ret2
        exact ⟨ansRb_nil _ _ _ _ _, stepA hb hb3⟩
      have c1 : ¬ (n : Int) < 2 := by omega
      by_cases c2 : go < 0
      · clear hb5
        go_enter Try.func17, Try.ntmps17
        go_wp2_with (first | (go_at_call 20; refine kB.mono ?_; rintro e w1 ⟨rfl, hb⟩; clear kB) | (go_at_call 41; refine (kW _ (h2.below hb)).mono ?_; rintro e w3 ⟨rfl, hb3⟩; clear kW) | fail)
        go_ret2
        exact ⟨ansRb_nil _ _ _ _ _, stepA hb hb3⟩
      have c3 : (n : Int) ≤ go := by omega
      clear hb5
      go_enter Try.func17, Try.ntmps17
      go_wp2_with (first | (go_at_call 20; refine kB.mono ?_; rintro e w1 ⟨rfl, hb⟩; clear kB) | (go_at_call 41; refine (kW _ (h2.below hb)).mono ?_; rintro e w3 ⟨rfl, hb3⟩; clear kW) | fail)
      go_ret2
      exact ⟨ansRb_nil _ _ _ _ _, stepA hb hb3⟩
set_option maxHeartbeats 16000000 in
set_option maxRecDepth 20000 in
theorem sHand_in (a x : Option Addr) (n c r : Nat) (K : Nat → Nat) (F : Nat → Nat → Int) (g : Nat → Int) (G : Nat) (w : World) (hn : n ≤ 1048576) (hK : ∀ i, i < n → K i ≤ 1048576) (h : RR w a n K F) (h2 : IL w x n g) (hga : gaB n n K F g = true) (hG : G < n) (hn2 : 2 ≤ n) :
    Calls Try.prog 17 #[.slice a n c, .slice x n r, .int .i64 (G : Int)] w fun e w' => AnsRb w w' e n (hoK G (hoH n F (g G).toNat G)) (hoR g G (hoH n F (g G).toNat G)) true ∧ Below w.heap.size w w' := by
  have kB := sGoodP a n c K F w hn hK h
  have e : gpB n K F = true := by unfold gaB at hga; simp only [Bool.and_eq_true] at hga; exact hga.1
  have e2 : whB n n g = true := by unfold gaB at hga; simp only [Bool.and_eq_true] at hga; exact hga.2
  have kW := fun w (h2 : IL w x n g) => sWho x n r n g w hn hn h2
  rw [e] at kB
  rw [e2] at kW
  clear e e2
  have ga := gaB_t hga
  have gp := ga.gp
  have hn6 := gp.hi
  obtain ⟨t, ht⟩ : ∃ t : Nat, g G = (t : Int) := ⟨(g G).toNat, by have := (ga.bd G hG).1; omega⟩
  have htn : t < n := by have := (ga.bd G hG).2; omega
  have hHlt : hoH n F t G < n := chK_lt _ n (by omega)
  have hHne : hoH n F t G ≠ G := hoH_ne F t G n (by omega)
  have hend : mbK F t G n = ((hoH n F t G : Nat) : Int) := mbK_end hn2
  rw [ht, Int.toNat_natCast]
  obtain ⟨A, C, hA⟩ := h
  obtain ⟨xb, xo, rfl, xlt, -⟩ := il_at1 h2 hG
  have hmk := run_make_row' (P := Try.prog) 23 24 (.slice none 0 0) 24 Try.underlying23 infoII rfl .i64 .i64 n (by omega) (by omega)
  have j0 : (0 : Int) ≤ (G : Int) := by omega
  have j1 : (G : Int) < (n : Int) := by omega
  have j2 : ¬ (n : Int) < 2 := by omega
  have t0 : (0 : Int) ≤ (t : Int) := by omega
  have t1 : (t : Int) < (n : Int) := by omega
  clear hga hK hn
  go_enter Try.func17, Try.ntmps17
  go_upto_region 4 with (first | (go_at_call 20; refine kB.mono ?_; rintro e w1 ⟨rfl, hb⟩; clear kB) | (go_at_call 41; refine (kW _ (h2.below hb)).mono ?_; rintro e w2 ⟨rfl, hb3⟩; clear kW) | fail)
  have hB2 := stepA hb hb3
  have hsz2 := hB2.size
  clear hb hb3
  have hA2 := hA.below hB2
  have h22 := h2.below hB2
  have z0 := il_c h22 (i := G) hG
  rw [ht] at z0
  have xl2 : xb < w2.heap.size := Nat.lt_of_lt_of_le xlt hsz2
  go_upto_region 5 with fail
  go_wp2_with fail
  go_loopw [9, 40] (fun b i wr => ∃ k : Nat, k ≤ n ∧ i = .int .i64 (k : Int) ∧ b = .int .i64 (mbK F t G k) ∧ Below w2.heap.size w2 wr) (fun _ i _ => n - (intOf i).toNat)
  case atStart => exact ⟨0, Nat.zero_le _, rfl, rfl, Below.refl _ _⟩
  case round =>
    obtain ⟨k, hk, rfl, rfl, hB⟩ := hrel
    have i0 : (0 : Int) ≤ (k : Int) := by omega
    by_cases hlt : k < n
    · have i1 : (k : Int) < (n : Int) := by omega
      clear hmk hend hHlt hHne
      have hA3 := hA2.below hB
      have y0 := (hB.cell (p := ⟨xb, xo + G, none⟩) xl2).trans z0
      obtain ⟨pb, po, rfl, pl_, x0⟩ := ll_at1 hA3 hlt
      obtain ⟨rb, ro, ra, rl_, x1⟩ := il_at1 (by have := hA3.row k hlt; rw [gp.len k hlt] at this; exact this) htn
      rw [gp.len k hlt, ra] at x0
      by_cases e : k = G
      · have e1 : ((k : Int) != (G : Int)) = false := by simp; omega
        have HM : Hid (mbK F t G (k + 1) = mbK F t G k) := by subst e; exact mbK_gone F t k
        clear e ra hA3 ht
        generalize mbK F t G k = X at *
        go_upto_region 8 with fail
        go_quiet (fail)
        go_wp2
        exact ⟨⟨k + 1, by omega, by go_num, by rw [HM.out], below_dr hB _⟩, by simp [intOf]; omega⟩
      · have e1 : ((k : Int) != (G : Int)) = true := by simp; omega
        by_cases em : mbK F t G k < 0
        · have HM : Hid (mbK F t G (k + 1) = (k : Int)) := mbK_first e em
          have e3 : decide (mbK F t G k < 0) = true := decide_eq_true em
          clear e ra hA3 ht
          generalize mbK F t G k = X at *
          go_upto_region 8 with fail
          go_quiet (fail)
          go_wp2
          exact ⟨⟨k + 1, by omega, by go_num, by rw [HM.out], below_dr hB _⟩, by simp [intOf]; omega⟩
        · obtain ⟨b, hb, hbn, hst⟩ := mbK_nat hk em
          have HM : Hid (mbK F t G (k + 1) = if F k t < F b t then (k : Int) else (b : Int)) := hst rfl e
          have e3 : decide ((b : Int) < 0) = false := decide_eq_false (by omega)
          obtain ⟨sb, so, sa, sl_, x2⟩ := il_at1 (by have := hA3.row b hbn; rw [gp.len b hbn] at this; exact this) htn
          have x3 := ll_c hA3 hbn
          rw [gp.len b hbn, sa] at x3
          have b0 : (0 : Int) ≤ (b : Int) := by omega
          have b1 : (b : Int) < (n : Int) := by omega
          rw [hb]
          clear e ra sa hA3 ht hst hb em
          generalize F k t = X at *
          generalize F b t = Y at *
          generalize C k = Ck at *
          generalize C b = Cb at *
          by_cases ec : X < Y
          · have ec1 : decide (X < Y) = true := decide_eq_true ec
            have HM2 : Hid (mbK F t G (k + 1) = (k : Int)) := HM.out.trans (if_pos ec)
            clear HM
            go_upto_region 8 with fail
            go_quiet (fail)
            go_wp2
            exact ⟨⟨k + 1, by omega, by go_num, by rw [HM2.out], below_dr hB _⟩, by simp [intOf]; omega⟩
          · have ec1 : decide (X < Y) = false := decide_eq_false ec
            have HM2 : Hid (mbK F t G (k + 1) = (b : Int)) := HM.out.trans (if_neg ec)
            clear HM
            go_upto_region 8 with fail
            go_quiet (fail)
            go_wp2
            exact ⟨⟨k + 1, by omega, by go_num, by rw [HM2.out], below_dr hB _⟩, by simp [intOf]; omega⟩
    · have hkn : k = n := by omega
      subst hkn
      have i1 : ¬ (k : Int) < (k : Int) := by omega
      obtain ⟨H, hH⟩ : ∃ H, hoH k F t G = H := ⟨_, rfl⟩
      have HH : Hid (hoH k F t G = H) := hH
      rw [hend]
      rw [hH] at hHlt hHne ⊢
      clear hend hH
      obtain ⟨w3, hw3⟩ : ∃ x, x = wr := ⟨_, rfl⟩
      subst hw3
      have hsz3 := hB.size
      have z3 := (hB.cell (p := ⟨xb, xo + G, none⟩) xl2).trans z0
      have xl3 : xb < w3.heap.size := Nat.lt_of_lt_of_le xl2 hsz3
      have h23 := h22.below hB
      have hBw := hB2.trans (hB.mono hsz2)
      clear hA2 hA h22 h2 z0 xl2 hB hB2 xlt hsz2 ga gp
      have HFa : Hid (FsY (w3.alloc (.cells (madeCells #[.slice none 0 0] k) 24)) (w3.heap.size + 1) w3.heap.size k (hoN G H 0) (hoR g G H)) := FsY.con ⟨_, _, fs_made w3 k (hoR g G H)⟩ (fun i _ => by unfold hoN; simp) (fun _ _ _ _ => rfl)
      have hBa : Below w3.heap.size w3 (w3.alloc (.cells (madeCells #[.slice none 0 0] k) 24)) := (Below.refl _ _).alloc (Nat.le_refl _) _
      go_upto_region 12 with fail
      clear hmk
      obtain ⟨gb, hgbe⟩ : ∃ gb, gb = w3.heap.size := ⟨_, rfl⟩
      have hgb : w3.heap.size ≤ gb := Nat.le_of_eq hgbe.symm
      have HG0 : Hid (gb < (w3.alloc (.cells (madeCells #[.slice none 0 0] k) 24)).heap.size) := by rw [hgbe]; show w3.heap.size < _; simp
      rw [← hgbe] at HFa
      generalize w3.alloc (.cells (madeCells #[.slice none 0 0] k) 24) = w4 at *
      rw [← hgbe]
      clear hgbe
      go_wp2_with fail
      go_loopw [79] (fun i wr => ∃ s : Nat, s ≤ k ∧ i = .int .i64 (s : Int) ∧ Hid (FsY wr (gb + 1) gb k (hoN G H s) (hoR g G H)) ∧ gb < wr.heap.size ∧ Below w3.heap.size w3 wr) (fun i _ => k - (intOf i).toNat)
      case atStart => exact ⟨0, Nat.zero_le _, rfl, HFa, HG0.out, hBa⟩
      case round =>
        obtain ⟨s, hsn, rfl, HF, hgl, hB⟩ := hrel
        clear HFa hBa HG0
        have i2 : (0 : Int) ≤ (s : Int) := by omega
        by_cases hs : s < k
        · have i3 : (s : Int) < (k : Int) := by omega
          have x0 := il_c (h23.below hB) (i := s) hs
          by_cases e : s = G
          · have e1 : ((s : Int) == (G : Int)) = true := by simp; omega
            have HFn : Hid (FsY wr (gb + 1) gb k (hoN G H (s + 1)) (hoR g G H)) := HF.out.con (fun i _ => by subst e; exact hoN_skip s H i) (fun _ _ _ _ => rfl)
            clear HF ht e
            generalize g s = X at *
            go_wp2
            exact ⟨⟨s + 1, by omega, by go_num, HFn, hgl, hB⟩, by simp [intOf]; omega⟩
          · have e1 : ((s : Int) == (G : Int)) = false := by simp; omega
            obtain ⟨A1, C1, hFs⟩ := HF.out
            have hal : Below wr.heap.size wr (wr.alloc (.cells #[.int .i64 (g s)] 3)) := (Below.refl _ _).alloc (Nat.le_refl _) _
            have hFp := hFs.put hs hal (Nat.le_refl _) (own_one wr (gb + 1) (by omega) (g s))
            have hh1 := (hFs.on hal).head
            have hc1 := hh1.cell hs
            have hf1 := hh1.frozen s
            have hB9 : Below w3.heap.size w3 ((wr.alloc (.cells #[.int .i64 (g s)] 3)).setCell ⟨gb, s, none⟩ (.slice (some ⟨wr.heap.size, 0, none⟩) 1 1)) := (hB.alloc hB.size _).setCell (p := ⟨gb, s, none⟩) hgb _
            have hg9 : gb < ((wr.alloc (.cells #[.int .i64 (g s)] 3)).setCell ⟨gb, s, none⟩ (.slice (some ⟨wr.heap.size, 0, none⟩) 1 1)).heap.size := by simp; omega
            have HF9 : Hid (FsY ((wr.alloc (.cells #[.int .i64 (g s)] 3)).setCell ⟨gb, s, none⟩ (.slice (some ⟨wr.heap.size, 0, none⟩) 1 1)) (gb + 1) gb k (fun i => if i = s then 1 else hoN G H s i) (fun i => if i = s then fun _ => g s else hoR g G H i)) := ⟨_, _, hFp⟩
            rw [World.setCell_alloc_past _ _ _ _ hgl] at HF9 hB9 hg9
            go_upto_region 17 with fail
            clear HF hFs hFp hh1 hal hc1 hf1 x0
            generalize (wr.setCell ⟨gb, s, none⟩ (.slice (some ⟨wr.heap.size, 0, none⟩) 1 1)).alloc (.cells #[.int .i64 (g s)] 3) = w6 at *
            have y6 := (hB9.cell (p := ⟨xb, xo + G, none⟩) xl3).trans z3
            by_cases eh : s = H
            · have e4 : ((s : Int) != (H : Int)) = false := by simp; omega
              obtain ⟨A2, C2, hFt⟩ := HF9.out
              by_cases ec : (t : Int) < g s
              · have ec1 : (t : Int) < g s := by omega
                have hal2 : Below w6.heap.size w6 (w6.alloc (.cells #[.int .i64 (t : Int), .int .i64 (g s)] 3)) := (Below.refl _ _).alloc (Nat.le_refl _) _
                have hFp2 := hFt.put hs hal2 (Nat.le_refl _) (own_two w6 (gb + 1) (by omega) (t : Int) (g s))
                have hh2 := (hFt.on hal2).head
                have hc2 := hh2.cell hs
                have hf2 := hh2.frozen s
                have hB8 : Below w3.heap.size w3 ((w6.alloc (.cells #[.int .i64 (t : Int), .int .i64 (g s)] 3)).setCell ⟨gb, s, none⟩ (.slice (some ⟨w6.heap.size, 0, none⟩) 2 2)) := (hB9.alloc hB9.size _).setCell (p := ⟨gb, s, none⟩) hgb _
                have hg8 : gb < ((w6.alloc (.cells #[.int .i64 (t : Int), .int .i64 (g s)] 3)).setCell ⟨gb, s, none⟩ (.slice (some ⟨w6.heap.size, 0, none⟩) 2 2)).heap.size := by simp; omega
                have HF8 : Hid (FsY ((w6.alloc (.cells #[.int .i64 (t : Int), .int .i64 (g s)] 3)).setCell ⟨gb, s, none⟩ (.slice (some ⟨w6.heap.size, 0, none⟩) 2 2)) (gb + 1) gb k (hoN G H (s + 1)) (hoR g G H)) := FsY.con ⟨_, _, hFp2⟩ (fun i _ => by
                  rw [← hoN_step (H := H) e 2 (by rw [if_pos eh]) i]
                  by_cases c9 : i = s
                  · rw [if_pos c9, if_pos c9]
                  · rw [if_neg c9, if_neg c9, if_neg c9]) (fun i j hi9 hj9 => by
                  by_cases c9 : i = s
                  · subst c9
                    rw [if_pos rfl]
                    rw [if_pos rfl] at hj9
                    unfold hoR two
                    rw [if_pos eh, ← eh, ht]
                    have : j = 0 ∨ j = 1 := by omega
                    rcases this with rfl | rfl
                    · simp; omega
                    · simp; omega
                  · rw [if_neg c9, if_neg c9])
                rw [World.setCell_alloc_past _ _ _ _ hg9] at HF8 hB8 hg8
                clear HF9 hFt hFp2 hh2 hal2 ht e eh
                generalize g s = X at *
                go_wp2
                exact ⟨⟨s + 1, by omega, by go_num, HF8, hg8, hB8⟩, by simp [intOf]; omega⟩
              · have ec1 : ¬ (t : Int) < g s := by omega
                have hal2 : Below w6.heap.size w6 (w6.alloc (.cells #[.int .i64 (g s), .int .i64 (t : Int)] 3)) := (Below.refl _ _).alloc (Nat.le_refl _) _
                have hFp2 := hFt.put hs hal2 (Nat.le_refl _) (own_two w6 (gb + 1) (by omega) (g s) (t : Int))
                have hh2 := (hFt.on hal2).head
                have hc2 := hh2.cell hs
                have hf2 := hh2.frozen s
                have hB8 : Below w3.heap.size w3 ((w6.alloc (.cells #[.int .i64 (g s), .int .i64 (t : Int)] 3)).setCell ⟨gb, s, none⟩ (.slice (some ⟨w6.heap.size, 0, none⟩) 2 2)) := (hB9.alloc hB9.size _).setCell (p := ⟨gb, s, none⟩) hgb _
                have hg8 : gb < ((w6.alloc (.cells #[.int .i64 (g s), .int .i64 (t : Int)] 3)).setCell ⟨gb, s, none⟩ (.slice (some ⟨w6.heap.size, 0, none⟩) 2 2)).heap.size := by simp; omega
                have HF8 : Hid (FsY ((w6.alloc (.cells #[.int .i64 (g s), .int .i64 (t : Int)] 3)).setCell ⟨gb, s, none⟩ (.slice (some ⟨w6.heap.size, 0, none⟩) 2 2)) (gb + 1) gb k (hoN G H (s + 1)) (hoR g G H)) := FsY.con ⟨_, _, hFp2⟩ (fun i _ => by
                  rw [← hoN_step (H := H) e 2 (by rw [if_pos eh]) i]
                  by_cases c9 : i = s
                  · rw [if_pos c9, if_pos c9]
                  · rw [if_neg c9, if_neg c9, if_neg c9]) (fun i j hi9 hj9 => by
                  by_cases c9 : i = s
                  · subst c9
                    rw [if_pos rfl]
                    rw [if_pos rfl] at hj9
                    unfold hoR two
                    rw [if_pos eh, ← eh, ht]
                    have : j = 0 ∨ j = 1 := by omega
                    rcases this with rfl | rfl
                    · simp; omega
                    · simp; omega
                  · rw [if_neg c9, if_neg c9])
                rw [World.setCell_alloc_past _ _ _ _ hg9] at HF8 hB8 hg8
                clear HF9 hFt hFp2 hh2 hal2 ht e eh
                generalize g s = X at *
                go_wp2
                exact ⟨⟨s + 1, by omega, by go_num, HF8, hg8, hB8⟩, by simp [intOf]; omega⟩
            · have e4 : ((s : Int) != (H : Int)) = true := by simp; omega
              have HFn : Hid (FsY w6 (gb + 1) gb k (hoN G H (s + 1)) (hoR g G H)) := HF9.out.con (fun i _ => hoN_step e 1 (by rw [if_neg eh]) i) (fun i j hi9 hj9 => by
                by_cases c9 : i = s
                · subst c9; rw [if_pos rfl, hoR_off g G H eh]
                · rw [if_neg c9])
              clear HF9 ht e eh
              generalize g s = X at *
              go_wp2
              exact ⟨⟨s + 1, by omega, by go_num, HFn, hg9, hB9⟩, by simp [intOf]; omega⟩
        · have hse : s = k := by omega
          subst hse
          have i3 : ¬ (s : Int) < (s : Int) := by omega
          have HRK : Hid (RK wr w.heap.size wr.heap.size (some ⟨gb, 0, none⟩) s (hoK G H) (hoR g G H)) := by
            obtain ⟨A9, C9, h9⟩ := HF.out.con (K' := hoK G H) (R' := hoR g G H) (fun i hi9 => hoN_end hi9 hHne) (fun _ _ _ _ => rfl)
            exact h9.rk (by have := hBw.size; omega)
          have hB11 := hBw.trans (hB.mono hBw.size)
          clear HF
          go_wp2
          go_ret2
          rw [HH.out]
          exact ⟨⟨_, _, rfl, HRK.out⟩, hB11⟩
end Go.Proofs.Ytjmdghkhapajiaa
