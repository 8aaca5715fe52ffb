/- The plain spin, as the document's model reckons it. -/
import Derived.Test.YtnpbogabmnidcaaSpPlain
import Derived.Deep.CutRange
namespace Go.Proofs.Ytnpbogabmnidcaa
open Go.RowKit

theorem gcd_any {x y : Int} (hx : -4611686018427387904 ≤ x ∧ x ≤ 4611686018427387904) (hy : -4611686018427387904 ≤ y ∧ y ≤ 4611686018427387904) : -4611686018427387904 ≤ (Int.gcd x y : Int) ∧ (Int.gcd x y : Int) ≤ 4611686018427387904 := by
  by_cases h : x = 0
  · subst h
    rw [Int.gcd_zero_left]
    omega
  · have := Nat.gcd_le_left y.natAbs (show 0 < x.natAbs by omega)
    have e : Int.gcd x y = Nat.gcd x.natAbs y.natAbs := rfl
    rw [e]
    omega

set_option maxHeartbeats 4000000 in
theorem l4Plain_any (a b c d : Int) (w : World) (hn : noughtB a b c d = false) (ha : -4611686018427387904 ≤ a ∧ a ≤ 4611686018427387904) (hb : -4611686018427387904 ≤ b ∧ b ≤ 4611686018427387904) (hc : -4611686018427387904 ≤ c ∧ c ≤ 4611686018427387904) (hd : -4611686018427387904 ≤ d ∧ d ≤ 4611686018427387904) :
    Calls Try.prog 19 #[sp a b c d] w fun e w' => e = .returned (sp (Int.tdiv a (div4 a b c d)) (Int.tdiv b (div4 a b c d)) (Int.tdiv c (div4 a b c d)) (Int.tdiv d (div4 a b c d))) ∧ Below w.heap.size w w' := by
  obtain ⟨B0, B1, hB⟩ := boxes2 (Below.refl _ ((w.alloc (four a b c d 25)).alloc (four 0 0 0 0 25)))
  go_enter Try.func19, Try.ntmps19
  go_upto_region 1 with fail
  generalize (w.alloc (four a b c d 25)).alloc (four 0 0 0 0 25) = w1 at B0 B1 hB ⊢
  have BB0 := B0
  have BB1 := B1
  obtain ⟨k0, k1, k2, k3, k4, -, -, -, -⟩ := B0
  clear B1
  have c1 := fun n => l4Gcd_any a b (w1.drewN n) ha hb
  have c2 := fun n => l4Gcd_any c d (w1.drewN n) hc hd
  have c3 := fun n => l4Gcd_any (Int.gcd a b : Int) (Int.gcd c d : Int) (w1.drewN n) (gcd_any ha hb) (gcd_any hc hd)
  have hv := g4_in ha hb hc hd
  have hz := g4_ne hn
  have eg : (Int.gcd (Int.gcd a b : Int) (Int.gcd c d : Int) : Int) = g4 a b c d := rfl
  rw [eg] at c3
  obtain ⟨g, hg⟩ : ∃ g, g4 a b c d = g := ⟨_, rfl⟩
  have HG : Hid (g4 a b c d = g) := hg
  rw [hg] at c3 hv hz
  clear eg hg
  generalize (Int.gcd a b : Int) = x at c1 c3
  generalize (Int.gcd c d : Int) = y at c2 c3
  go_quiet (first | (go_at_call_of 25 a; exact Calls.quiet_of_same (c1 _)) | (go_at_call_of 25 c; exact Calls.quiet_of_same (c2 _)) | (go_at_call_of 25 x; exact Calls.quiet_of_same (c3 _)))
  clear c1 c2 c3
  have hb2 := below_dr (Below.refl w1.heap.size w1) nq
  generalize w1.drewN nq = w2 at hb2 ⊢
  have B0 := BB0.on hb2
  have B1 := BB1.on hb2
  have hB := below_on hB hb2
  clear k0 k1 k2 k3 k4 hb2 BB0 BB1
  have BB1 := B1
  cases za : (a == 0)
  · have hlead : lead a b c d = a := by simp_all [lead]
    by_cases hl : a < 0
    · have HD : Hid (div4 a b c d = -g) := by
        have : div4 a b c d = -g := by unfold div4; rw [hlead, if_pos hl, HG.out]
        exact this
      clear hlead
      obtain ⟨k0, k1, k2, k3, k4, -, -, -, -⟩ := B0
      obtain ⟨-, m1, m2, m3, m4, m5, m6, m7, m8⟩ := B1
      have hz2 : ¬ -g = 0 := by omega
      go_wp2_with fail
      go_region
      go_wp2
      (try simp only [Exit.inBlock, Exit.then])
      rw [quo_neg HD.out ha, quo_neg HD.out hb, quo_neg HD.out hc, quo_neg HD.out hd]
      have B9 := BB1.set (Int.tdiv a (div4 a b c d)) (Int.tdiv b (div4 a b c d)) (Int.tdiv c (div4 a b c d)) (Int.tdiv d (div4 a b c d))
      refine ret_box (Or.inl rfl) rfl rfl (B9.on (Below.refl _ _).drew) rfl ?_
      exact ⟨rfl, (below_four hB (by omega) _ _ _ _).drew⟩
    · have HD : Hid (div4 a b c d = g) := by
        have : div4 a b c d = g := by unfold div4; rw [hlead, if_neg hl, HG.out]
        exact this
      clear hlead
      obtain ⟨k0, k1, k2, k3, k4, -, -, -, -⟩ := B0
      obtain ⟨-, m1, m2, m3, m4, m5, m6, m7, m8⟩ := B1
      go_wp2_with fail
      go_region
      go_wp2
      (try simp only [Exit.inBlock, Exit.then])
      have hD := HD.out
      rw [hD]
      refine ret_box (Or.inl rfl) rfl rfl ((BB1.set _ _ _ _).on (Below.refl _ _).drew) rfl ?_
      refine ⟨?_, (below_four hB (by omega) _ _ _ _).drew⟩
      first
      | (rw [Int.tdiv_eq_ediv_of_nonneg (show 0 ≤ a by omega)])
      | (rw [Int.tdiv_eq_ediv_of_nonneg (show 0 ≤ b by omega)])
      | (rw [Int.tdiv_eq_ediv_of_nonneg (show 0 ≤ c by omega)])
      | (rw [Int.tdiv_eq_ediv_of_nonneg (show 0 ≤ d by omega)])
  · cases zb : (b == 0)
    · have hlead : lead a b c d = b := by simp_all [lead]
      by_cases hl : b < 0
      · have HD : Hid (div4 a b c d = -g) := by
          have : div4 a b c d = -g := by unfold div4; rw [hlead, if_pos hl, HG.out]
          exact this
        clear hlead
        obtain ⟨k0, k1, k2, k3, k4, -, -, -, -⟩ := B0
        obtain ⟨-, m1, m2, m3, m4, m5, m6, m7, m8⟩ := B1
        have hz2 : ¬ -g = 0 := by omega
        go_wp2_with fail
        go_region
        go_wp2
        (try simp only [Exit.inBlock, Exit.then])
        rw [quo_neg HD.out ha, quo_neg HD.out hb, quo_neg HD.out hc, quo_neg HD.out hd]
        have B9 := BB1.set (Int.tdiv a (div4 a b c d)) (Int.tdiv b (div4 a b c d)) (Int.tdiv c (div4 a b c d)) (Int.tdiv d (div4 a b c d))
        refine ret_box (Or.inl rfl) rfl rfl (B9.on (Below.refl _ _).drew) rfl ?_
        exact ⟨rfl, (below_four hB (by omega) _ _ _ _).drew⟩
      · have HD : Hid (div4 a b c d = g) := by
          have : div4 a b c d = g := by unfold div4; rw [hlead, if_neg hl, HG.out]
          exact this
        clear hlead
        obtain ⟨k0, k1, k2, k3, k4, -, -, -, -⟩ := B0
        obtain ⟨-, m1, m2, m3, m4, m5, m6, m7, m8⟩ := B1
        go_wp2_with fail
        go_region
        go_wp2
        (try simp only [Exit.inBlock, Exit.then])
        have hD := HD.out
        rw [hD]
        refine ret_box (Or.inl rfl) rfl rfl ((BB1.set _ _ _ _).on (Below.refl _ _).drew) rfl ?_
        refine ⟨?_, (below_four hB (by omega) _ _ _ _).drew⟩
        first
        | (rw [Int.tdiv_eq_ediv_of_nonneg (show 0 ≤ a by omega)])
        | (rw [Int.tdiv_eq_ediv_of_nonneg (show 0 ≤ b by omega)])
        | (rw [Int.tdiv_eq_ediv_of_nonneg (show 0 ≤ c by omega)])
        | (rw [Int.tdiv_eq_ediv_of_nonneg (show 0 ≤ d by omega)])
    · cases zc : (c == 0)
      · have hlead : lead a b c d = c := by simp_all [lead]
        by_cases hl : c < 0
        · have HD : Hid (div4 a b c d = -g) := by
            have : div4 a b c d = -g := by unfold div4; rw [hlead, if_pos hl, HG.out]
            exact this
          clear hlead
          obtain ⟨k0, k1, k2, k3, k4, -, -, -, -⟩ := B0
          obtain ⟨-, m1, m2, m3, m4, m5, m6, m7, m8⟩ := B1
          have hz2 : ¬ -g = 0 := by omega
          go_wp2_with fail
          go_region
          go_wp2
          (try simp only [Exit.inBlock, Exit.then])
          rw [quo_neg HD.out ha, quo_neg HD.out hb, quo_neg HD.out hc, quo_neg HD.out hd]
          have B9 := BB1.set (Int.tdiv a (div4 a b c d)) (Int.tdiv b (div4 a b c d)) (Int.tdiv c (div4 a b c d)) (Int.tdiv d (div4 a b c d))
          refine ret_box (Or.inl rfl) rfl rfl (B9.on (Below.refl _ _).drew) rfl ?_
          exact ⟨rfl, (below_four hB (by omega) _ _ _ _).drew⟩
        · have HD : Hid (div4 a b c d = g) := by
            have : div4 a b c d = g := by unfold div4; rw [hlead, if_neg hl, HG.out]
            exact this
          clear hlead
          obtain ⟨k0, k1, k2, k3, k4, -, -, -, -⟩ := B0
          obtain ⟨-, m1, m2, m3, m4, m5, m6, m7, m8⟩ := B1
          go_wp2_with fail
          go_region
          go_wp2
          (try simp only [Exit.inBlock, Exit.then])
          have hD := HD.out
          rw [hD]
          refine ret_box (Or.inl rfl) rfl rfl ((BB1.set _ _ _ _).on (Below.refl _ _).drew) rfl ?_
          refine ⟨?_, (below_four hB (by omega) _ _ _ _).drew⟩
          first
          | (rw [Int.tdiv_eq_ediv_of_nonneg (show 0 ≤ a by omega)])
          | (rw [Int.tdiv_eq_ediv_of_nonneg (show 0 ≤ b by omega)])
          | (rw [Int.tdiv_eq_ediv_of_nonneg (show 0 ≤ c by omega)])
          | (rw [Int.tdiv_eq_ediv_of_nonneg (show 0 ≤ d by omega)])
      · have hlead : lead a b c d = d := by simp_all [lead]
        by_cases hl : d < 0
        · have HD : Hid (div4 a b c d = -g) := by
            have : div4 a b c d = -g := by unfold div4; rw [hlead, if_pos hl, HG.out]
            exact this
          clear hlead
          obtain ⟨k0, k1, k2, k3, k4, -, -, -, -⟩ := B0
          obtain ⟨-, m1, m2, m3, m4, m5, m6, m7, m8⟩ := B1
          have hz2 : ¬ -g = 0 := by omega
          go_wp2_with fail
          go_region
          go_wp2
          (try simp only [Exit.inBlock, Exit.then])
          rw [quo_neg HD.out ha, quo_neg HD.out hb, quo_neg HD.out hc, quo_neg HD.out hd]
          have B9 := BB1.set (Int.tdiv a (div4 a b c d)) (Int.tdiv b (div4 a b c d)) (Int.tdiv c (div4 a b c d)) (Int.tdiv d (div4 a b c d))
          refine ret_box (Or.inl rfl) rfl rfl (B9.on (Below.refl _ _).drew) rfl ?_
          exact ⟨rfl, (below_four hB (by omega) _ _ _ _).drew⟩
        · have HD : Hid (div4 a b c d = g) := by
            have : div4 a b c d = g := by unfold div4; rw [hlead, if_neg hl, HG.out]
            exact this
          clear hlead
          obtain ⟨k0, k1, k2, k3, k4, -, -, -, -⟩ := B0
          obtain ⟨-, m1, m2, m3, m4, m5, m6, m7, m8⟩ := B1
          go_wp2_with fail
          go_region
          go_wp2
          (try simp only [Exit.inBlock, Exit.then])
          have hD := HD.out
          rw [hD]
          refine ret_box (Or.inl rfl) rfl rfl ((BB1.set _ _ _ _).on (Below.refl _ _).drew) rfl ?_
          refine ⟨?_, (below_four hB (by omega) _ _ _ _).drew⟩
          first
          | (rw [Int.tdiv_eq_ediv_of_nonneg (show 0 ≤ a by omega)])
          | (rw [Int.tdiv_eq_ediv_of_nonneg (show 0 ≤ b by omega)])
          | (rw [Int.tdiv_eq_ediv_of_nonneg (show 0 ≤ c by omega)])
          | (rw [Int.tdiv_eq_ediv_of_nonneg (show 0 ≤ d by omega)])
end Go.Proofs.Ytnpbogabmnidcaa
