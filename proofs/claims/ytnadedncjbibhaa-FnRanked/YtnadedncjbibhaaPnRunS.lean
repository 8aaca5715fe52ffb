/- Chores played, as the model plays them: who is next, in numbers (tools/gen_pn3.py). -/
import Derived.Test.YtnadedncjbibhaaPnRn
import Derived.Deep.Cut
import Derived.Deep.CutRange
import Derived.BigRegion
namespace Go.Proofs.Ytnadedncjbibhaa
open Go.RowKit
/-- who is next behind one chore more, as the model finds it -/
def chN (ur : Bool) (Wh q C D : Int) (k : Nat) (t : Int) : Int := if C ≤ t ∧ (Wh < 0 ∨ (ur = true ∧ C + D < q)) then (k : Int) else Wh
theorem ch_step {ur : Bool} {F f : Nat → Int} {s : Pl} {t q : Int} {k : Nat} (hq : 0 ≤ chW (cmP F f s) (ugP ur F f s) t k → q = cmP F f s (chW (cmP F f s) (ugP ur F f s) t k).toNat + F ((chW (cmP F f s) (ugP ur F f s) t k).toNat * 3 + 2)) :
    chW (cmP F f s) (ugP ur F f s) t (k + 1) = chN ur (chW (cmP F f s) (ugP ur F f s) t k) q (cmP F f s k) (F (k * 3 + 2)) k t := by
  have b := chW_bd (cmP F f s) (ugP ur F f s) t k
  unfold chN
  by_cases h1 : cmP F f s k ≤ t
  · by_cases h2 : chW (cmP F f s) (ugP ur F f s) t k = -1
    · rw [chW_first h1 h2, if_pos ⟨h1, .inl (by omega)⟩]
    · have h3 : 0 ≤ chW (cmP F f s) (ugP ur F f s) t k := by omega
      have e := hq h3
      cases ur with
      | false =>
        rw [chW_stay h2 (by simp only [ugP]; simp; omega), if_neg (by rintro ⟨_, h | h⟩; omega; simp at h)]
      | true =>
        by_cases h4 : cmP F f s k + F (k * 3 + 2) < q
        · rw [chW_less h1 (by simp only [ugP, if_true]; omega), if_pos ⟨h1, .inr ⟨rfl, h4⟩⟩]
        · rw [chW_stay h2 (by simp only [ugP, if_true]; omega), if_neg (by rintro ⟨_, h | h⟩; omega; exact h4 h.2)]
  · rw [chW_late h1, if_neg (by rintro ⟨h, _⟩; exact h1 h)]
theorem chN_stay {ur : Bool} {Wh q C D t : Int} {k : Nat} (h : ¬ (C ≤ t ∧ (Wh < 0 ∨ (ur = true ∧ C + D < q)))) : chN ur Wh q C D k t = Wh := by unfold chN; rw [if_neg h]
theorem chN_take {ur : Bool} {Wh q C D t : Int} {k : Nat} (h : C ≤ t ∧ (Wh < 0 ∨ (ur = true ∧ C + D < q))) : chN ur Wh q C D k t = (k : Int) := by unfold chN; rw [if_pos h]
theorem st_none {ur : Bool} {n : Nat} {F f : Nat → Int} {s : Pl} {t : Int} (h : whP ur n F f s t < 0) : stP ur n F f s t = s := by unfold stP; rw [if_pos h]
theorem st_some {ur : Bool} {n j : Nat} {F f : Nat → Int} {s : Pl} {t : Int} (h : whP ur n F f s t = (j : Int)) : stP ur n F f s t = gvP F f s t j := by unfold stP; rw [if_neg (by omega), h]; rfl
theorem sm_go {w : World} {K n j : Nat} {F f : Nat → Int} {s : Pl} {t : Int} {v : Value} (hj : j < n) (hD : IP w K n s.dn) (hS : IP w (K + 1) n s.sp) (hW : IP w (K + 2) n s.wo) (hO : SlN w (K + 3) v s.m s.G t (j : Int)) (hfi : ¬ F (j * 3 + 1) ≤ s.sp j + 1) : Sm (w.setCell ⟨K + 1, j, none⟩ (.int .i64 (s.sp j + 1))) K n (gvP F f s t j) v := by
  have e : fiB F s j = false := decide_eq_false hfi
  have o := (Only.refl (K + 1) w).set j (.int .i64 (s.sp j + 1))
  refine ⟨?_, ?_, ?_, ?_⟩
  · show IP _ K n (if fiB F s j then _ else _)
    rw [e]; exact hD.only o (by omega)
  · show IP _ (K + 1) n (if fiB F s j then _ else _)
    rw [e]; exact hS.set hj _
  · show IP _ (K + 2) n (if fiB F s j then _ else _)
    rw [e]; exact hW.only o (by omega)
  · exact OwnL.only hO o (by omega)
/-- the job is done: the lists behind their stores, whatever lies between -/
theorem sm_fin {w wz : World} {K n j : Nat} {F f : Nat → Int} {s : Pl} {t : Int} {v : Value} (hO : SlN w (K + 3) v s.m s.G t (j : Int)) (hfi : F (j * 3 + 1) ≤ s.sp j + 1) (o : OnlyIn K (K + 3) w wz)
    (hD : IP wz K n (put s.dn j (s.dn j + 1))) (hS : IP wz (K + 1) n (put s.sp j 0)) (hW : IP wz (K + 2) n (put s.wo j (max (s.wo j) (t + 1 - cmP F f s j)))) : Sm wz K n (gvP F f s t j) v := by
  have e : fiB F s j = true := decide_eq_true hfi
  refine ⟨?_, ?_, ?_, ?_⟩
  · show IP _ K n (if fiB F s j then _ else _)
    rw [e]; exact hD
  · show IP _ (K + 1) n (if fiB F s j then _ else _)
    rw [e]; exact hS
  · show IP _ (K + 2) n (if fiB F s j then _ else _)
    rw [e]; exact hW
  · obtain ⟨hl, h0⟩ := hO
    refine ⟨hl, ?_⟩
    rcases h0 with h0 | ⟨g, cap, cur, h1, h2, h3, h4⟩
    · exact .inl h0
    · exact .inr ⟨g, cap, cur, h1, h2, (o.block g (.inr h2)).trans h3, h4⟩
theorem put_put (g : Nat → Int) (j : Nat) (x y : Int) (i : Nat) : put (put g j x) j y i = put g j y i := by
  by_cases e : i = j
  · subst e; rw [put_at, put_at]
  · rw [put_ne e, put_ne e, put_ne e]
theorem put_same {g : Nat → Int} {j : Nat} {x : Int} (h : x = g j) (i : Nat) : g i = put g j x i := by
  by_cases e : i = j
  · subst e; rw [put_at, h]
  · rw [put_ne e]
theorem sm_fin3 {W1 : World} {K n j : Nat} {F f : Nat → Int} {s : Pl} {t : Int} {v : Value} (hj : j < n) (hO : SlN W1 (K + 3) v s.m s.G t (j : Int)) (hfi : F (j * 3 + 1) ≤ s.sp j + 1) (hD : IP W1 K n s.dn) (hS : IP W1 (K + 1) n (put s.sp j (s.sp j + 1))) (hW : IP W1 (K + 2) n s.wo) (hlo : s.wo j < t + 1 - (f j + s.dn j * F (j * 3))) :
    Sm (((W1.setCell ⟨K + 2, j, none⟩ (.int .i64 (t + 1 - (f j + s.dn j * F (j * 3))))).setCell ⟨K + 1, j, none⟩ (.int .i64 0)).setCell ⟨K, j, none⟩ (.int .i64 (s.dn j + 1))) K n (gvP F f s t j) v := by
  have o2 : ∀ w x, Only (K + 2) w (w.setCell ⟨K + 2, j, none⟩ x) := fun w x => (Only.refl _ _).set j x
  have o1 : ∀ w x, Only (K + 1) w (w.setCell ⟨K + 1, j, none⟩ x) := fun w x => (Only.refl _ _).set j x
  have o0 : ∀ w x, Only K w (w.setCell ⟨K, j, none⟩ x) := fun w x => (Only.refl _ _).set j x
  refine sm_fin hO hfi (((OnlyIn.of (o2 _ _) (by omega) (by omega)).trans (OnlyIn.of (o1 _ _) (by omega) (by omega))).trans (OnlyIn.of (o0 _ _) (by omega) (by omega))) ?_ ?_ ?_
  · exact ((hD.only (o2 _ _) (by omega)).only (o1 _ _) (by omega)).set hj _
  · exact (((hS.only (o2 _ _) (by omega)).set hj 0).only (o0 _ _) (by omega)).congr fun i _ => put_put _ _ _ _ _
  · refine (((hW.set hj _).only (o1 _ _) (by omega)).only (o0 _ _) (by omega)).congr fun i _ => ?_
    rw [Int.max_eq_right (by unfold cmP; omega)]
    rfl
theorem sm_fin2 {W1 : World} {K n j : Nat} {F f : Nat → Int} {s : Pl} {t : Int} {v : Value} (hj : j < n) (hO : SlN W1 (K + 3) v s.m s.G t (j : Int)) (hfi : F (j * 3 + 1) ≤ s.sp j + 1) (hD : IP W1 K n s.dn) (hS : IP W1 (K + 1) n (put s.sp j (s.sp j + 1))) (hW : IP W1 (K + 2) n s.wo) (hlo : ¬ s.wo j < t + 1 - (f j + s.dn j * F (j * 3))) :
    Sm ((W1.setCell ⟨K + 1, j, none⟩ (.int .i64 0)).setCell ⟨K, j, none⟩ (.int .i64 (s.dn j + 1))) K n (gvP F f s t j) v := by
  have o1 : ∀ w x, Only (K + 1) w (w.setCell ⟨K + 1, j, none⟩ x) := fun w x => (Only.refl _ _).set j x
  have o0 : ∀ w x, Only K w (w.setCell ⟨K, j, none⟩ x) := fun w x => (Only.refl _ _).set j x
  refine sm_fin hO hfi ((OnlyIn.of (o1 _ _) (by omega) (by omega)).trans (OnlyIn.of (o0 _ _) (by omega) (by omega))) ?_ ?_ ?_
  · exact (hD.only (o1 _ _) (by omega)).set hj _
  · exact ((hS.set hj 0).only (o0 _ _) (by omega)).congr fun i _ => put_put _ _ _ _ _
  · refine ((hW.only (o1 _ _) (by omega)).only (o0 _ _) (by omega)).congr fun i _ => ?_
    exact put_same (Int.max_eq_left (by unfold cmP; omega)) i
set_option maxRecDepth 20000 in
set_option maxHeartbeats 8000000 in
theorem sRunIn (ur : Bool) (a b : Option Addr) (n c d : Nat) (F f : Nat → Int) (U : Nat) (w : World) (hv : gcV n F = true) (hf : gfK f n = true) (hU : U ≤ 2000) (h : IL w a (n * 3) F) (h2 : IL w b n f) :
    Calls Try.prog 38 #[.slice a n c, .slice b n d, .int .i64 (U : Int), .bool ur] w fun e w' => AnsRn w w' e (ruP ur n F f U).m (ruP ur n F f U).G n (ruP ur n F f U).wo true ∧ Below w.heap.size w w' := by
  have HV : Hid (gcV n F = true) := hv
  have HG : Hid (Gc n F) := gcV_gc hv
  have Hf : Hid (gfK f n = true) := hf
  have hn6 := HG.out.six
  clear hv hf
  have hmk := run_make_row' (P := Try.prog) 24 3 (.int .i64 0) 8 Try.underlying24 infoI rfl .i64 .i64 n (by omega) (by omega)
  have jn : ((n : Int) != (n : Int)) = false := by simp
  have ju0 : ¬ (U : Int) < 0 := by omega
  have ju1 : ¬ (2000 : Int) < (U : Int) := by omega
  go_enter Try.func38, Try.ntmps38
  go_wp2_with fail
  refine (sGoodC a n c F w h).mono ?_
  rintro e w1 ⟨rfl, hb1⟩
  rw [HV.out]
  go_upto_region 4 with fail
  go_loopw [45] (fun i wr => ∃ k : Nat, k ≤ n ∧ i = .int .i64 (k : Int) ∧ wr = w1) (fun i _ => n - (intOf i).toNat)
  case atStart => exact ⟨0, Nat.zero_le _, rfl, rfl⟩
  case round =>
    obtain ⟨k, hk, rfl, hwr⟩ := hrel
    subst hwr
    by_cases hlt : k < n
    · obtain ⟨gb, go_, rfl, gl_, hc⟩ := (h2.below hb1) (by omega)
      have x0 := hc k hlt
      obtain ⟨f0, f1⟩ := gfK_at hlt Hf.out
      have i0 : (0 : Int) ≤ (k : Int) := by omega
      have i1 : (k : Int) < (n : Int) := by omega
      clear hc HG HV Hf hmk
      generalize f k = X at *
      have g0 : ¬ X < 0 := by omega
      have g1 : ¬ 60 < X := by omega
      go_wp2
      go_roundw
      case rel => exact ⟨k + 1, by omega, by go_num, trivial⟩
      case measure => simp [intOf]; omega
    · have e : k = n := by omega
      subst e
      have i1 : ¬ (k : Int) < (k : Int) := by omega
      have HM0 : Hid (Sm _ wr.heap.size k ⟨fun _ => 0, fun _ => 0, fun _ => 0, 0, fun _ => 0⟩ (.slice none 0 0)) := made3 wr k
      have hB4 : Below w.heap.size w (((wr.alloc (.cells (madeCells #[.int .i64 0] k) 3)).alloc (.cells (madeCells #[.int .i64 0] k) 3)).alloc (.cells (madeCells #[.int .i64 0] k) 3)) := ((hb1.alloc hb1.size _).alloc (by rw [size_al]; have := hb1.size; omega) _).alloc (by rw [size_al, size_al]; have := hb1.size; omega) _
      have hz := hb1.size
      clear hb1
      go_upto_region 14 with fail
      clear hmk
      generalize ((wr.alloc (.cells (madeCells #[.int .i64 0] k) 3)).alloc (.cells (madeCells #[.int .i64 0] k) 3)).alloc (.cells (madeCells #[.int .i64 0] k) 3) = w4 at *
      generalize wr.heap.size = K at *
      obtain ⟨n, hnn⟩ : ∃ n, n = k := ⟨k, rfl⟩
      subst hnn
      go_loopw [16, 17] (fun v tt wr => ∃ t : Nat, t ≤ U ∧ tt = .int .i64 (t : Int) ∧ Hid (Sm wr K n (ruP ur n F f t) v) ∧ Below w.heap.size w wr) (fun _ tt _ => U - (intOf tt).toNat)
      case atStart => exact ⟨0, Nat.zero_le _, rfl, HM0, hB4⟩
      case round =>
        obtain ⟨t, ht, rfl, HM, hB⟩ := hrel
        clear HM0 hB4
        by_cases hltt : t < U
        · have i2 : (t : Int) < (U : Int) := by omega
          obtain ⟨s, hs⟩ : ∃ s, s = ruP ur n F f t := ⟨_, rfl⟩
          have HS : Hid (ruP ur n F f (t + 1) = stP ur n F f s (t : Int)) := by rw [hs]; exact (rfl : ruP ur n F f (t + 1) = stP ur n F f (ruP ur n F f t) (t : Int))
          have HP : Hid (Pk n F f s t) := by rw [hs]; exact pk_run ur HG.out Hf.out t (by omega)
          rw [← hs] at HM
          clear hs
          obtain ⟨w8, hw8⟩ : ∃ w8, w8 = wr := ⟨wr, rfl⟩
          subst hw8
          obtain ⟨v16, hv16⟩ : ∃ v, v = u16 := ⟨u16, rfl⟩
          subst hv16
          go_upto_region 19 with fail
          go_loopw [18, 19, 72] (fun who soon i wr => ∃ (k : Nat) (q : Int), k ≤ n ∧ i = .int .i64 (k : Int) ∧ who = .int .i64 (chW (cmP F f s) (ugP ur F f s) (t : Int) k) ∧ soon = .int .i64 q ∧ Hid (0 ≤ chW (cmP F f s) (ugP ur F f s) (t : Int) k → q = cmP F f s (chW (cmP F f s) (ugP ur F f s) (t : Int) k).toNat + F ((chW (cmP F f s) (ugP ur F f s) (t : Int) k).toNat * 3 + 2)) ∧ Below w8.heap.size w8 wr) (fun _ _ i _ => n - (intOf i).toNat)
          case atStart => exact ⟨0, 0, Nat.zero_le _, rfl, rfl, rfl, (fun h9 => absurd h9 (by simp [chW])), Below.refl _ _⟩
          case round =>
            obtain ⟨k, q, hk, rfl, rfl, rfl, HQ, hBk⟩ := hrel
            by_cases hlk : k < n
            · obtain ⟨gb, go_, ea, gl_, x0, x1, x2⟩ := il_three (h.below (stepA hB hBk)) hlk
              obtain ⟨fb, fo_, eb, fl_, hc⟩ := (h2.below (stepA hB hBk)) (by omega)
              have y0 := hc k hlk
              have z0 := (HM.out.below hBk).dn.c k hlk
              have zl := (HM.out.below hBk).dn.lt
              have i0 : (0 : Int) ≤ (k : Int) := by omega
              have i3 : (k : Int) < (n : Int) := by omega
              obtain ⟨c0, c1, c2, c3⟩ := cm_bd HG.out Hf.out HP.out (by omega) hlk
              have d1 := HG.out.d1 k hlk
              have d2 := HG.out.d2 k hlk
              have p2 := HG.out.p2 k hlk
              have n1 := HG.out.n1 k hlk
              obtain ⟨wb0, wb1⟩ := chW_bd (cmP F f s) (ugP ur F f s) (t : Int) k
              have HST := ch_step HQ.out
              have HC : Hid (cmP F f s k = f k + s.dn k * F (k * 3) ∧ F (k * 3 + 2) = F (k * 3 + 2)) := ⟨rfl, rfl⟩
              have HD : Hid (F (k * 3 + 2) = F (k * 3 + 2)) := rfl
              unfold cmP at c0 c1
              clear hc HG HV Hf HM HS HP
              subst ea
              subst eb
              generalize hWh : chW (cmP F f s) (ugP ur F f s) (t : Int) k = Wh at *
              generalize hCC : cmP F f s k = C at HC HST
              have HCC : Hid (cmP F f s k = C) := hCC
              generalize hDD : F (k * 3 + 2) = D at x2 d1 d2 HC HST
              have HDD : Hid (F (k * 3 + 2) = D) := hDD
              clear hWh hCC hDD HD
              generalize F (k * 3) = P at *
              generalize F (k * 3 + 1) = N at *
              generalize f k = FK at *
              generalize s.dn k = DN at *
              obtain ⟨hC1, -⟩ := HC.out
              subst hC1
              clear HC
              have HC : Hid (cmP F f s k = FK + DN * P ∧ F (k * 3 + 2) = D) := ⟨HCC.out, HDD.out⟩
              have HST : Hid (chW (cmP F f s) (ugP ur F f s) (t : Int) (k + 1) = chN ur Wh q (FK + DN * P) D k (t : Int)) := HST
              clear HCC HDD
              have hbt : Below wr.heap.size wr (wr.alloc (.cells #[.int .i64 P, .int .i64 N, .int .i64 D] 69)) := (Below.refl _ _).alloc (Nat.le_refl _) _
              have b3 := bx_new (w := wr) [.int .i64 P, .int .i64 N, .int .i64 D] 69 rfl
              have e0 := b3.c0
              have e2 := b3.c2
              have el := b3.lt
              have hB9 := stepA hBk hbt
              have y0' := (hbt.cell (p := ⟨fb, _, none⟩) fl_).trans y0
              have z0' := (hbt.cell (p := ⟨K, _, none⟩) zl).trans z0
              have hd0 : 1 ≤ D := by omega
              have hd1 : D ≤ 60 := by omega
              clear b3 hbt d1 d2 p2 n1
              go_upto_region 21 with fail
              clear x0 x1 x2 y0 z0
              generalize wr.alloc (.cells #[.int .i64 P, .int .i64 N, .int .i64 D] 69) = w9 at *
              generalize wr.heap.size = B9 at *
              go_region
              by_cases hct : FK + DN * P ≤ (t : Int)
              · have hct' : ¬ (t : Int) < FK + DN * P := by omega
                by_cases hwh : Wh < 0
                · have hwh' : ¬ (0 : Int) ≤ Wh := by omega
                  have HWn : Hid (chW (cmP F f s) (ugP ur F f s) (t : Int) (k + 1) = (k : Int)) := by have e := HST.out; rw [chN_take (by first | exact ⟨hct, .inl (by omega)⟩ | exact ⟨hct, .inr ⟨rfl, hcd⟩⟩)] at e; exact e
                  have HQ2 : Hid (0 ≤ chW (cmP F f s) (ugP ur F f s) (t : Int) (k + 1) → FK + DN * P + D = cmP F f s (chW (cmP F f s) (ugP ur F f s) (t : Int) (k + 1)).toNat + F ((chW (cmP F f s) (ugP ur F f s) (t : Int) (k + 1)).toNat * 3 + 2)) := by
                    rw [HWn.out, Int.toNat_natCast]
                    intro _
                    rw [HC.out.1, HC.out.2]
                  clear HST HQ HC
                  go_wp2
                  go_roundw
                  case rel => exact ⟨k + 1, FK + DN * P + D, by omega, by go_num, by rw [HWn.out], rfl, HQ2, hB9.drew⟩
                  case measure => simp [intOf]; omega
                · have hwh' : (0 : Int) ≤ Wh := by omega
                  cases ur with
                  | false =>
                    have HWn : Hid (chW (cmP F f s) (ugP false F f s) (t : Int) (k + 1) = Wh) := by have e := HST.out; rw [chN_stay (by first | omega | (rintro ⟨_, h9 | h9⟩ <;> first | omega | (simp at h9) | (exact hcd h9.2)))] at e; exact e
                    have HQ2 : Hid (0 ≤ chW (cmP F f s) (ugP false F f s) (t : Int) (k + 1) → q = cmP F f s (chW (cmP F f s) (ugP false F f s) (t : Int) (k + 1)).toNat + F ((chW (cmP F f s) (ugP false F f s) (t : Int) (k + 1)).toNat * 3 + 2)) := by rw [HWn.out]; exact HQ.out
                    clear HST HQ HC
                    go_wp2
                    go_roundw
                    case rel => exact ⟨k + 1, q, by omega, by go_num, by rw [HWn.out], rfl, HQ2, hB9.drew⟩
                    case measure => simp [intOf]; omega
                  | true =>
                    by_cases hcd : FK + DN * P + D < q
                    · have hcd' : ¬ q ≤ FK + DN * P + D := by omega
                      have HWn : Hid (chW (cmP F f s) (ugP true F f s) (t : Int) (k + 1) = (k : Int)) := by have e := HST.out; rw [chN_take (by first | exact ⟨hct, .inl (by omega)⟩ | exact ⟨hct, .inr ⟨rfl, hcd⟩⟩)] at e; exact e
                      have HQ2 : Hid (0 ≤ chW (cmP F f s) (ugP true F f s) (t : Int) (k + 1) → FK + DN * P + D = cmP F f s (chW (cmP F f s) (ugP true F f s) (t : Int) (k + 1)).toNat + F ((chW (cmP F f s) (ugP true F f s) (t : Int) (k + 1)).toNat * 3 + 2)) := by
                        rw [HWn.out, Int.toNat_natCast]
                        intro _
                        rw [HC.out.1, HC.out.2]
                      clear HST HQ HC
                      go_wp2
                      go_roundw
                      case rel => exact ⟨k + 1, FK + DN * P + D, by omega, by go_num, by rw [HWn.out], rfl, HQ2, hB9.drew⟩
                      case measure => simp [intOf]; omega
                    · have hcd' : q ≤ FK + DN * P + D := by omega
                      have HWn : Hid (chW (cmP F f s) (ugP true F f s) (t : Int) (k + 1) = Wh) := by have e := HST.out; rw [chN_stay (by first | omega | (rintro ⟨_, h9 | h9⟩ <;> first | omega | (simp at h9) | (exact hcd h9.2)))] at e; exact e
                      have HQ2 : Hid (0 ≤ chW (cmP F f s) (ugP true F f s) (t : Int) (k + 1) → q = cmP F f s (chW (cmP F f s) (ugP true F f s) (t : Int) (k + 1)).toNat + F ((chW (cmP F f s) (ugP true F f s) (t : Int) (k + 1)).toNat * 3 + 2)) := by rw [HWn.out]; exact HQ.out
                      clear HST HQ HC
                      go_wp2
                      go_roundw
                      case rel => exact ⟨k + 1, q, by omega, by go_num, by rw [HWn.out], rfl, HQ2, hB9.drew⟩
                      case measure => simp [intOf]; omega
              · have hct' : (t : Int) < FK + DN * P := by omega
                have HWn : Hid (chW (cmP F f s) (ugP ur F f s) (t : Int) (k + 1) = Wh) := by have e := HST.out; rw [chN_stay (by first | omega | (rintro ⟨_, h9 | h9⟩ <;> first | omega | (simp at h9) | (exact hcd h9.2)))] at e; exact e
                have HQ2 : Hid (0 ≤ chW (cmP F f s) (ugP ur F f s) (t : Int) (k + 1) → q = cmP F f s (chW (cmP F f s) (ugP ur F f s) (t : Int) (k + 1)).toNat + F ((chW (cmP F f s) (ugP ur F f s) (t : Int) (k + 1)).toNat * 3 + 2)) := by rw [HWn.out]; exact HQ.out
                clear HST HQ HC
                go_wp2
                go_roundw
                case rel => exact ⟨k + 1, q, by omega, by go_num, by rw [HWn.out], rfl, HQ2, hB9.drew⟩
                case measure => simp [intOf]; omega
            · have e : k = n := by omega
              subst e
              have i3 : ¬ (k : Int) < (k : Int) := by omega
              have HW : Hid (whP ur k F f s (t : Int) = chW (cmP F f s) (ugP ur F f s) (t : Int) k) := rfl
              obtain ⟨wb0, wb1⟩ := chW_bd (cmP F f s) (ugP ur F f s) (t : Int) k
              have HCM : Hid (0 ≤ chW (cmP F f s) (ugP ur F f s) (t : Int) k → cmP F f s (chW (cmP F f s) (ugP ur F f s) (t : Int) k).toNat ≤ (t : Int)) := fun h9 => chW_came h9
              have HM2 : Hid (Sm wr K k s v16) := HM.out.below hBk
              have hB8 := stepA hB hBk
              clear HQ HM hB hBk
              generalize chW (cmP F f s) (ugP ur F f s) (t : Int) k = Wh at *
              by_cases hwh : Wh < 0
              · have HR : Hid (Sm wr K k (ruP ur k F f (t + 1)) v16) := by rw [HS.out, st_none (by rw [HW.out]; exact hwh)]; exact HM2.out
                clear HG HV Hf HS HP HM2 HCM HW
                go_wp2
                go_roundw
                case rel => exact ⟨t + 1, by omega, by go_num, HR, hB8⟩
                case measure => simp [intOf]; omega
              · obtain ⟨j, rfl⟩ : ∃ j : Nat, Wh = (j : Int) := ⟨Wh.toNat, by omega⟩
                have hjn : j < k := by omega
                have hcm : cmP F f s j ≤ (t : Int) := by have := HCM.out (by omega); simpa using this
                have HN : Hid (ruP ur k F f (t + 1) = gvP F f s (t : Int) j) := by have e := HS.out; rw [st_some HW.out] at e; exact e
                obtain ⟨c0, c1, c2, c3⟩ := cm_bd HG.out Hf.out HP.out (by omega) hjn
                have s0 := HP.out.s0 j hjn
                have s1 := HP.out.s1 j hjn
                have w0 := HP.out.w0 j hjn
                have w1' := HP.out.w1 j hjn
                have d0 := HP.out.d0 j hjn
                have d1 := HP.out.d1 j hjn
                have n2 := HG.out.n2 j hjn
                have p2 := HG.out.p2 j hjn
                have hmt0 := HP.out.mt
                obtain ⟨i0', hi, hz0, hz1, hz2⟩ := infoSl
                have hKl := HM2.out.wo.lt
                obtain ⟨sa, sc, rfl⟩ := HM2.out.sl.shape
                have hO := HM2.out.sl
                generalize hMm : s.m = Mm at hO hmt0 ⊢
                generalize hGg : s.G = Gg at hO ⊢
                have HMm : Hid (s.m = Mm) := hMm
                have HGg : Hid (s.G = Gg) := hGg
                have HDN : Hid (IP wr K k s.dn) := HM2.out.dn
                have HSP : Hid (IP wr (K + 1) k s.sp) := HM2.out.sp
                have HWO : Hid (IP wr (K + 2) k s.wo) := HM2.out.wo
                clear hMm hGg HS HW HCM HM2 HP
                go_upto_region 28 with fail
                go_cut [139] from 118 to 139 (fun c_ wx => c_ = .bool (sxB Mm Gg (t : Int) (j : Int)) ∧ wx = wr)
                case first =>
                  by_cases hm : Mm = 0
                  · have HX : Hid (sxB Mm Gg (t : Int) (j : Int) = false) := sx_zero hm
                    have jm : ¬ (0 : Int) < (Mm : Int) := by omega
                    clear hm
                    go_wp2
                    go_meet
                    case rel => exact ⟨congrArg Value.bool HX.out.symm, rfl⟩
                  · obtain ⟨m0, rfl⟩ : ∃ m0, Mm = m0 + 1 := ⟨Mm - 1, by omega⟩
                    obtain ⟨g, cc, eg, hg, hcap, hPg⟩ := OwnL.at_ hO (by omega)
                    cases eg
                    have q1 := hPg.c (m0 * 3 + 1) (by omega)
                    have q2 := hPg.c (m0 * 3 + 2) (by omega)
                    have gl_ := hPg.lt
                    have jm : (0 : Int) < ((m0 + 1 : Nat) : Int) := by omega
                    have jw : IntKind.i64.wrap (((m0 + 1 : Nat) : Int) - 1) = (m0 : Int) := by rw [IntWalk.i64_in _ ⟨by omega, by omega⟩]; omega
                    have j0 : (0 : Int) ≤ (m0 : Int) := by omega
                    have j1 : (m0 : Int) < ((m0 + 1 : Nat) : Int) := by omega
                    cases ew : (Gg (m0 * 3 + 2) == (j : Int)) with
                    | false =>
                      have HX : Hid (sxB (m0 + 1) Gg (t : Int) (j : Int) = false) := sx_who ew
                      clear hPg hm hO
                      generalize Gg (m0 * 3 + 1) = A1 at *
                      generalize Gg (m0 * 3 + 2) = A2 at *
                      go_wp2
                      go_meet
                      case rel => exact ⟨congrArg Value.bool HX.out.symm, rfl⟩
                    | true =>
                      cases et : (Gg (m0 * 3 + 1) == (t : Int)) with
                      | false =>
                        have HX : Hid (sxB (m0 + 1) Gg (t : Int) (j : Int) = false) := sx_to et
                        clear hPg hm hO
                        generalize Gg (m0 * 3 + 1) = A1 at *
                        generalize Gg (m0 * 3 + 2) = A2 at *
                        go_wp2
                        go_meet
                        case rel => exact ⟨congrArg Value.bool HX.out.symm, rfl⟩
                      | true =>
                        have HX : Hid (sxB (m0 + 1) Gg (t : Int) (j : Int) = true) := sx_yes ew et
                        clear hPg hm hO
                        generalize Gg (m0 * 3 + 1) = A1 at *
                        generalize Gg (m0 * 3 + 2) = A2 at *
                        go_wp2
                        go_meet
                        case rel => exact ⟨congrArg Value.bool HX.out.symm, rfl⟩
                case rest =>
                  obtain ⟨rfl, hwc⟩ := hcut
                  subst hwc
                  obtain ⟨w7, hw7⟩ : ∃ x, x = wc := ⟨wc, rfl⟩
                  subst hw7
                  go_upto_if 139 with fail
                  go_cut [16] from 139 to 156 (fun s16 wx => SlN wx (K + 3) s16 Mm Gg (t : Int) (j : Int) ∧ Below (K + 3) w7 wx)
                  case first =>
                    cases hX : sxB Mm Gg (t : Int) (j : Int) with
                    | false =>
                      have HX : Hid (sxB Mm Gg (t : Int) (j : Int) = false) := hX
                      have hmt : Mm ≤ 2000 := by omega
                      clear hX
                      go_wp2_with (at_builtin; refine wpList_append_own _ rfl _ _ 27 rfl (K + 3) 66 i0' (scv 0 0 0) 3 24 Try.underlying27 hi hz0 hz1 hz2 rfl (by decide) _ _ _ rfl (World.ownsRow.alloc hO _) ⟨w7.heap.size, 0, none⟩ 1 1 [.int .i64 (t : Int), .int .i64 ((t : Int) + 1), .int .i64 (j : Int)] rfl rfl (new3 _ _ _ _ _) (fun x hx => by simp at hx; rcases hx with rfl | rfl | rfl <;> rfl) (by unfold maxLen; omega) (by omega) (by simp; omega) ?_; intro v' w12 hown' hgrow3 _)
                      go_meet
                      case rel => exact ⟨sln_more HX.out hown', ((Below.refl _ _).alloc (by omega) _).grown hgrow3 (by simp; omega) (fun q hq => (World.ownsRow.lt hO q hq).1)⟩
                    | true =>
                      obtain ⟨hm, ew, et⟩ := sx_inv hX
                      obtain ⟨m0, hm0⟩ : ∃ m0, Mm = m0 + 1 := ⟨Mm - 1, by omega⟩
                      have hm1 : Mm - 1 = m0 := by omega
                      rw [hm1] at ew et
                      obtain ⟨g, cc, eg, hg, hcap, hPg⟩ := OwnL.at_ hO hm
                      cases eg
                      have q1 := hPg.c (m0 * 3 + 1) (by omega)
                      rw [et] at q1
                      have fz1 := hPg.fz (m0 * 3 + 1)
                      have gl_ := hPg.lt
                      have jw : IntKind.i64.wrap ((Mm : Int) - 1) = (m0 : Int) := by rw [IntWalk.i64_in _ ⟨by omega, by omega⟩]; omega
                      have j0 : (0 : Int) ≤ (m0 : Int) := by omega
                      have j1 : (m0 : Int) < (Mm : Int) := by omega
                      have HX : Hid (sxB Mm Gg (t : Int) (j : Int) = true) := hX
                      have HO : Hid (OwnL w7 (K + 3) (.slice (some ⟨g, 0, none⟩) Mm sc) Mm Gg) := hO
                      have HM0 : Hid (Mm = m0 + 1) := hm0
                      clear hPg hm hO hX ew et hm0 hm1
                      go_wp2
                      go_meet
                      case rel => exact ⟨sln_long HM0.out HX.out HO.out, (Below.refl _ _).setCell (p := ⟨g, _, none⟩) hg _⟩
                  case rest =>
                    obtain ⟨hSL, hbx⟩ := hcut
                    have hBc : Below w.heap.size w wc := hB8.trans (hbx.mono (by omega))
                    have hD := HDN.out.below hbx (by omega)
                    have hSp := HSP.out.below hbx (by omega)
                    have hW := HWO.out.below hbx (by omega)
                    obtain ⟨gb, go_, ea, gl_, hcw⟩ := h (by omega)
                    obtain ⟨gb2, go2, ea2, gl3, x0, x1, x2⟩ := il_three (h.below hBc) hjn
                    obtain ⟨fb, fo_, eb, fl_, hcw2⟩ := h2 (by omega)
                    obtain ⟨fb2, fo2, eb2, fl3, hc⟩ := (h2.below hBc) (by omega)
                    subst ea
                    subst eb
                    cases ea2
                    cases eb2
                    clear hcw hcw2
                    have y0 := hc j hjn
                    have g1 := hSp.c j hjn
                    have g1f := hSp.fz j
                    have g0 := hD.c j hjn
                    have g0f := hD.fz j
                    have g2 := hW.c j hjn
                    have g2f := hW.fz j
                    have HSM : Hid (SlN wc (K + 3) u16 s.m s.G (t : Int) (j : Int)) := by rw [HMm.out, HGg.out]; exact hSL
                    have l0 := hD.lt
                    have l1 := hSp.lt
                    have l2 := hW.lt
                    have HD : Hid (IP wc K k s.dn) := hD
                    have HSp : Hid (IP wc (K + 1) k s.sp) := hSp
                    have HW : Hid (IP wc (K + 2) k s.wo) := hW
                    have i0 : (0 : Int) ≤ (j : Int) := by omega
                    have i4 : (j : Int) < (k : Int) := by omega
                    have f0 := (gfK_at hjn Hf.out).1
                    have f1 := (gfK_at hjn Hf.out).2
                    unfold cmP at c0 c1
                    clear hc hD hSp hW hbx hSL HDN HSP HWO HMm HGg HG HV Hf hO hmt0 hi hz0 hz1 hz2 hB8
                    have n1 : 1 ≤ F (j * 3 + 1) := by omega
                    have o1 := (Only.refl (K + 1) wc).set j (.int .i64 (s.sp j + 1))
                    have hW1 := (Below.refl (K + 1) wc).setCell (p := ⟨K + 1, j, none⟩) (Nat.le_refl _) (.int .i64 (s.sp j + 1))
                    have x0' := (hW1.cell (p := ⟨gb, _, none⟩) (show gb < K + 1 by omega)).trans x0
                    have x1' := (hW1.cell (p := ⟨gb, _, none⟩) (show gb < K + 1 by omega)).trans x1
                    have y0' := (hW1.cell (p := ⟨fb, _, none⟩) (show fb < K + 1 by omega)).trans y0
                    have P0 := HD.out.only o1 (by omega)
                    have P1 := HSp.out.set hjn (s.sp j + 1)
                    have P2 := HW.out.only o1 (by omega)
                    have hB1 := hBc.setCell (p := ⟨K + 1, j, none⟩) (show w.heap.size ≤ K + 1 by omega) (.int .i64 (s.sp j + 1))
                    have HO1 : Hid (SlN (wc.setCell ⟨K + 1, j, none⟩ (.int .i64 (s.sp j + 1))) (K + 3) u16 s.m s.G (t : Int) (j : Int)) := OwnL.only HSM.out o1 (by omega)
                    have HGO : Hid (¬ F (j * 3 + 1) ≤ s.sp j + 1 → Sm (wc.setCell ⟨K + 1, j, none⟩ (.int .i64 (s.sp j + 1))) K k (gvP F f s (t : Int) j) u16) := fun h9 => sm_go hjn HD.out HSp.out HW.out HSM.out h9
                    have l3 : K + 2 < (wc.setCell ⟨K + 1, j, none⟩ (.int .i64 (s.sp j + 1))).heap.size := P2.lt
                    clear hW1 HD HSp HW HSM o1
                    go_upto_region 32 with fail
                    clear x0 x1 x2 y0 g0 g0f g1 g1f g2 g2f l0 l1 l2
                    generalize wc.setCell ⟨K + 1, j, none⟩ (.int .i64 (s.sp j + 1)) = W1 at *
                    have g0 := P0.c j hjn
                    have g0f := P0.fz j
                    have g1 := P1.c j hjn
                    have g1f := P1.fz j
                    have g2 := P2.c j hjn
                    have g2f := P2.fz j
                    rw [put_at] at g1
                    have l0 : K < W1.heap.size := P0.lt
                    have l1 : K + 1 < W1.heap.size := P1.lt
                    have l2 : K + 1 + 1 < W1.heap.size := P2.lt
                    have gl2 : gb < W1.heap.size := by omega
                    have fl2 : fb < W1.heap.size := by omega
                    have HP0 : Hid (IP W1 K k s.dn) := P0
                    have HP1 : Hid (IP W1 (K + 1) k (put s.sp j (s.sp j + 1))) := P1
                    have HP2 : Hid (IP W1 (K + 2) k s.wo) := P2
                    clear P0 P1 P2
                    by_cases hfi : F (j * 3 + 1) ≤ s.sp j + 1
                    · have hfi' : ¬ s.sp j + 1 < F (j * 3 + 1) := by omega
                      clear HGO
                      by_cases hlo : s.wo j < (t : Int) + 1 - (f j + s.dn j * F (j * 3))
                      · have HR : Hid (Sm (((W1.setCell ⟨K + 2, j, none⟩ (.int .i64 ((t : Int) + 1 - (f j + s.dn j * F (j * 3))))).setCell ⟨K + 1, j, none⟩ (.int .i64 0)).setCell ⟨K, j, none⟩ (.int .i64 (s.dn j + 1))) K k (gvP F f s (t : Int) j) u16) := sm_fin3 hjn HO1.out hfi HP0.out HP1.out HP2.out hlo
                        clear HP0 HP1 HP2 HO1
                        generalize F (j * 3) = P at *
                        generalize F (j * 3 + 1) = N at *
                        generalize F (j * 3 + 2) = D at *
                        generalize f j = FJ at *
                        generalize s.sp j = SJ at *
                        generalize s.dn j = DJ at *
                        generalize s.wo j = WJ at *
                        have hlo' : WJ < (t : Int) + 1 - (FJ + DJ * P) := hlo
                        go_region
                        go_wp2_with fail
                        go_region
                        go_wp2
                        go_roundw
                        case rel => exact ⟨t + 1, by omega, by go_num, by show Sm _ _ _ _ _; rw [HN.out]; exact (HR.out.below (Below.refl _ _).drew).below (Below.refl _ _).drew, (((hB1.setCell (p := ⟨K + 2, j, none⟩) (show w.heap.size ≤ K + 2 by omega) _).setCell (p := ⟨K + 1, j, none⟩) (show w.heap.size ≤ K + 1 by omega) _).setCell (p := ⟨K, j, none⟩) (show w.heap.size ≤ K by omega) _).drew.drew⟩
                        case measure => simp [intOf]; omega
                      · have HR : Hid (Sm ((W1.setCell ⟨K + 1, j, none⟩ (.int .i64 0)).setCell ⟨K, j, none⟩ (.int .i64 (s.dn j + 1))) K k (gvP F f s (t : Int) j) u16) := sm_fin2 hjn HO1.out hfi HP0.out HP1.out HP2.out hlo
                        clear HP0 HP1 HP2 HO1
                        generalize F (j * 3) = P at *
                        generalize F (j * 3 + 1) = N at *
                        generalize F (j * 3 + 2) = D at *
                        generalize f j = FJ at *
                        generalize s.sp j = SJ at *
                        generalize s.dn j = DJ at *
                        generalize s.wo j = WJ at *
                        go_region
                        go_wp2_with fail
                        go_region
                        go_wp2
                        go_roundw
                        case rel => exact ⟨t + 1, by omega, by go_num, by show Sm _ _ _ _ _; rw [HN.out]; exact (HR.out.below (Below.refl _ _).drew).below (Below.refl _ _).drew, ((hB1.setCell (p := ⟨K + 1, j, none⟩) (show w.heap.size ≤ K + 1 by omega) _).setCell (p := ⟨K, j, none⟩) (show w.heap.size ≤ K by omega) _).drew.drew⟩
                        case measure => simp [intOf]; omega
                    · have hfi' : s.sp j + 1 < F (j * 3 + 1) := by omega
                      have HR : Hid (Sm W1 K k (gvP F f s (t : Int) j) u16) := HGO.out hfi
                      clear HP0 HP1 HP2 HO1 HGO
                      generalize F (j * 3) = P at *
                      generalize F (j * 3 + 1) = N at *
                      generalize s.sp j = SJ at *
                      go_region
                      go_wp2
                      go_roundw
                      case rel => exact ⟨t + 1, by omega, by go_num, by show Sm _ _ _ _ _; rw [HN.out]; exact HR.out.below (Below.refl _ _).drew, hB1.drew⟩
                      case measure => simp [intOf]; omega
        · have e : t = U := by omega
          subst e
          have i2 : ¬ (t : Int) < (t : Int) := by omega
          obtain ⟨sa, sc, rfl⟩ := HM.out.sl.shape
          clear HG Hf HV
          go_wp2
          go_ret3
          exact ⟨⟨_, _, _, _, K + 3, rfl, by omega, HM.out.wo.lt, HM.out.sl.lq, lq_of HM.out.wo (by omega) (by omega)⟩, hB⟩
end Go.Proofs.Ytnadedncjbibhaa
