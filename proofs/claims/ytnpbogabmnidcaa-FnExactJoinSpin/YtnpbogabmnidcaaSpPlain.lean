/- The plain spin, as the program reckons it. -/
import Derived.Test.YtnpbogabmnidcaaSpOrd
namespace Go.Proofs.Ytnpbogabmnidcaa
open Go.RowKit

/-- what all four are divided by -/
def g4 (a b c d : Int) : Int := (Int.gcd (Int.gcd a b : Int) (Int.gcd c d : Int) : Int)
def div4 (a b c d : Int) : Int := if lead a b c d < 0 then -g4 a b c d else g4 a b c d
def gUp (a b c d : Int) (k : Nat) : Int := ([a, b, c, d].take k).foldl (fun x y => (Int.gcd x y : Int)) 0

theorem gcd_in {x y : Int} (hx : 0 ≤ x ∧ x ≤ 4611686018427387904) (hy : -4611686018427387904 ≤ y ∧ y ≤ 4611686018427387904) : (0 : Int) ≤ (Int.gcd x y : Int) ∧ (Int.gcd x y : Int) ≤ 4611686018427387904 := by
  refine ⟨by omega, ?_⟩
  by_cases h : x = 0
  · subst h
    rw [Int.gcd_zero_left]
    omega
  · have := Nat.gcd_le_left y.natAbs (show 0 < x.natAbs by omega)
    have e : Int.gcd x y = Nat.gcd x.natAbs y.natAbs := rfl
    rw [e]
    omega
theorem gUp4 (a b c d : Int) : gUp a b c d 4 = g4 a b c d := by
  simp [gUp, g4, Int.gcd, Nat.gcd_assoc]
theorem g4_ne {a b c d : Int} (h : noughtB a b c d = false) : ¬ g4 a b c d = 0 := by
  intro e
  unfold g4 at e
  have e' : Int.gcd (Int.gcd a b : Int) (Int.gcd c d : Int) = 0 := by omega
  rw [Int.gcd_eq_zero_iff] at e'
  obtain ⟨h1, h2⟩ := e'
  have h1' : Int.gcd a b = 0 := by omega
  have h2' : Int.gcd c d = 0 := by omega
  rw [Int.gcd_eq_zero_iff] at h1' h2'
  simp [noughtB, h1', h2'] at h
theorem sgn_lt (x : Int) : sgn x < 0 ↔ x < 0 := by
  unfold sgn
  by_cases h0 : x < 0
  · simp [h0]
  · by_cases h1 : 0 < x
    · simp [h0, h1]
    · simp [h0, h1]
theorem g4_in {a b c d : Int} (ha : -4611686018427387904 ≤ a ∧ a ≤ 4611686018427387904) (hb : -4611686018427387904 ≤ b ∧ b ≤ 4611686018427387904) (hc : -4611686018427387904 ≤ c ∧ c ≤ 4611686018427387904) (hd : -4611686018427387904 ≤ d ∧ d ≤ 4611686018427387904) : 0 ≤ g4 a b c d ∧ g4 a b c d ≤ 4611686018427387904 := by
  rw [← gUp4]
  simp only [gUp, List.take, List.foldl]
  exact gcd_in (gcd_in (gcd_in (gcd_in (by omega) ha) hb) hc) hd

theorem tdiv_in (a g : Int) (ha : -4611686018427387904 ≤ a ∧ a ≤ 4611686018427387904) : -4611686018427387904 ≤ Int.tdiv a g ∧ Int.tdiv a g ≤ 4611686018427387904 := by
  have h : (Int.tdiv a g).natAbs ≤ a.natAbs := by rw [Int.natAbs_tdiv]; exact Nat.div_le_self _ _
  generalize Int.tdiv a g = q at h ⊢
  omega
theorem quo_neg {a g D : Int} (h : D = -g) (ha : -4611686018427387904 ≤ a ∧ a ≤ 4611686018427387904) : wrap64 (-Int.tdiv a g) = Int.tdiv a D := by
  have := tdiv_in a g ha
  rw [h, Int.tdiv_neg, wrap_id (by omega) (by omega)]
theorem below_of {w w' : World} {n : Nat} (h : w' = w.drewN n) : Below w.heap.size w w' := by subst h; exact below_dr (Below.refl _ _) n

set_option maxHeartbeats 4000000 in
theorem plainQ_any (a b c d : Int) (w : World) (hn : noughtB a b c d = false) (ha : -4611686018427387904 ≤ a ∧ a ≤ 4611686018427387904) (hb : -4611686018427387904 ≤ b ∧ b ≤ 4611686018427387904) (hc : -4611686018427387904 ≤ c ∧ c ≤ 4611686018427387904) (hd : -4611686018427387904 ≤ d ∧ d ≤ 4611686018427387904) :
    Calls Try.prog 26 #[sp a b c d] w fun e w' => e = .returned (sp (Int.tdiv a (div4 a b c d)) (Int.tdiv b (div4 a b c d)) (Int.tdiv c (div4 a b c d)) (Int.tdiv d (div4 a b c d))) ∧ Below w.heap.size w w' := by
  have i0 : ∀ w : World, (Instr.index 34 (sp a b c d) (.int .i64 0)).run Try.prog w = .ok (.int .i64 a) w := fun _ => by kernel_rfl
  have i1 : ∀ w : World, (Instr.index 34 (sp a b c d) (.int .i64 1)).run Try.prog w = .ok (.int .i64 b) w := fun _ => by kernel_rfl
  have i2 : ∀ w : World, (Instr.index 34 (sp a b c d) (.int .i64 2)).run Try.prog w = .ok (.int .i64 c) w := fun _ => by kernel_rfl
  have i3 : ∀ w : World, (Instr.index 34 (sp a b c d) (.int .i64 3)).run Try.prog w = .ok (.int .i64 d) w := fun _ => by kernel_rfl
  go_enter Try.func26, Try.ntmps26
  go_wp2
  go_loopw [3, 9] (fun v i wr => ∃ k : Nat, k ≤ 4 ∧ i = .int .i64 k ∧ v = .int .i64 (gUp a b c d k) ∧ (0 ≤ gUp a b c d k ∧ gUp a b c d k ≤ 4611686018427387904) ∧ Box wr w.heap.size a b c d ∧ Box wr (w.heap.size + 1) 0 0 0 0 ∧ Box wr (w.heap.size + 1 + 1) 0 0 0 0 ∧ Below w.heap.size w wr) (fun _ i _ => 4 - (intOf i).toNat)
  case atStart =>
    obtain ⟨B0, B1, B2, hB⟩ := boxes3 (Below.refl _ (((w.alloc (four a b c d 34)).alloc (four 0 0 0 0 34)).alloc (four 0 0 0 0 34)))
    exact ⟨0, Nat.zero_le _, rfl, rfl, ⟨by simp [gUp], by simp [gUp]⟩, B0, B1, B2, hB⟩
  case round =>
    obtain ⟨k, hk, rfl, rfl, hv, B0, B1, B2, hB⟩ := hrel
    have hk5 : k = 0 ∨ k = 1 ∨ k = 2 ∨ k = 3 ∨ k = 4 := by omega
    rcases hk5 with rfl | rfl | rfl | rfl | rfl
    · obtain ⟨x, hx⟩ : ∃ x, gUp a b c d 0 = x := ⟨_, rfl⟩
      have hs : gUp a b c d 1 = (Int.gcd x a : Int) := by rw [← hx]; rfl
      rw [hx] at hv ⊢
      have HS : Hid (gUp a b c d 1 = (Int.gcd x a : Int)) := hs
      have HI : Hid ((0 : Int) ≤ (Int.gcd x a : Int) ∧ (Int.gcd x a : Int) ≤ 4611686018427387904) := gcd_in hv ha
      clear hs hx
      go_wp2_with fail
      refine (common_any x a _ (by omega) ha).mono ?_
      rintro e w1 ⟨rfl, n, hw1⟩
      have hb1 := below_of hw1
      clear hw1
      have B0 := B0.on hb1
      have B1 := B1.on hb1
      have B2 := B2.on hb1
      have hB := below_on hB hb1
      clear hb1
      go_wp2
      go_round
      case rel => exact ⟨1, by omega, by go_num, by rw [HS.out], by rw [HS.out]; exact HI.out, B0, B1, B2, hB⟩
      case measure => simp [intOf]
    · obtain ⟨x, hx⟩ : ∃ x, gUp a b c d 1 = x := ⟨_, rfl⟩
      have hs : gUp a b c d 2 = (Int.gcd x b : Int) := by rw [← hx]; rfl
      rw [hx] at hv ⊢
      have HS : Hid (gUp a b c d 2 = (Int.gcd x b : Int)) := hs
      have HI : Hid ((0 : Int) ≤ (Int.gcd x b : Int) ∧ (Int.gcd x b : Int) ≤ 4611686018427387904) := gcd_in hv hb
      clear hs hx
      go_wp2_with fail
      refine (common_any x b _ (by omega) hb).mono ?_
      rintro e w1 ⟨rfl, n, hw1⟩
      have hb1 := below_of hw1
      clear hw1
      have B0 := B0.on hb1
      have B1 := B1.on hb1
      have B2 := B2.on hb1
      have hB := below_on hB hb1
      clear hb1
      go_wp2
      go_round
      case rel => exact ⟨2, by omega, by go_num, by rw [HS.out], by rw [HS.out]; exact HI.out, B0, B1, B2, hB⟩
      case measure => simp [intOf]
    · obtain ⟨x, hx⟩ : ∃ x, gUp a b c d 2 = x := ⟨_, rfl⟩
      have hs : gUp a b c d 3 = (Int.gcd x c : Int) := by rw [← hx]; rfl
      rw [hx] at hv ⊢
      have HS : Hid (gUp a b c d 3 = (Int.gcd x c : Int)) := hs
      have HI : Hid ((0 : Int) ≤ (Int.gcd x c : Int) ∧ (Int.gcd x c : Int) ≤ 4611686018427387904) := gcd_in hv hc
      clear hs hx
      go_wp2_with fail
      refine (common_any x c _ (by omega) hc).mono ?_
      rintro e w1 ⟨rfl, n, hw1⟩
      have hb1 := below_of hw1
      clear hw1
      have B0 := B0.on hb1
      have B1 := B1.on hb1
      have B2 := B2.on hb1
      have hB := below_on hB hb1
      clear hb1
      go_wp2
      go_round
      case rel => exact ⟨3, by omega, by go_num, by rw [HS.out], by rw [HS.out]; exact HI.out, B0, B1, B2, hB⟩
      case measure => simp [intOf]
    · obtain ⟨x, hx⟩ : ∃ x, gUp a b c d 3 = x := ⟨_, rfl⟩
      have hs : gUp a b c d 4 = (Int.gcd x d : Int) := by rw [← hx]; rfl
      rw [hx] at hv ⊢
      have HS : Hid (gUp a b c d 4 = (Int.gcd x d : Int)) := hs
      have HI : Hid ((0 : Int) ≤ (Int.gcd x d : Int) ∧ (Int.gcd x d : Int) ≤ 4611686018427387904) := gcd_in hv hd
      clear hs hx
      go_wp2_with fail
      refine (common_any x d _ (by omega) hd).mono ?_
      rintro e w1 ⟨rfl, n, hw1⟩
      have hb1 := below_of hw1
      clear hw1
      have B0 := B0.on hb1
      have B1 := B1.on hb1
      have B2 := B2.on hb1
      have hB := below_on hB hb1
      clear hb1
      go_wp2
      go_round
      case rel => exact ⟨4, by omega, by go_num, by rw [HS.out], by rw [HS.out]; exact HI.out, B0, B1, B2, hB⟩
      case measure => simp [intOf]
    · rw [gUp4] at hv ⊢
      have hz := g4_ne hn
      by_cases hl : lead a b c d < 0
      · have HD : Hid (div4 a b c d = -g4 a b c d) := by
          have : div4 a b c d = -g4 a b c d := by unfold div4; rw [if_pos hl]
          exact this
        obtain ⟨g, hg⟩ : ∃ g, g4 a b c d = g := ⟨_, rfl⟩
        rw [hg] at hv hz HD ⊢
        clear hg
        have hsl : sgn (lead a b c d) < 0 := (sgn_lt _).2 hl
        obtain ⟨sl, hx⟩ : ∃ sl, sgn (lead a b c d) = sl := ⟨_, rfl⟩
        rw [hx] at hsl
        have hcall := fun n => slCmp_any a b c d _ _ (wr.drewN n) (B0.on (below_dr (Below.refl _ _) n)) (B2.on (below_dr (Below.refl _ _) n))
        simp only [hx] at hcall
        clear hx
        have BB0 := B0
        have BB1 := B1
        obtain ⟨k0, k1, k2, k3, k4, -, -, -, -⟩ := B0
        obtain ⟨-, m1, m2, m3, m4, m5, m6, m7, m8⟩ := B1
        obtain ⟨-, l1, l2, l3, l4, -, -, -, -⟩ := B2
        go_wp2_with fail
        go_quiet ((go_at_call 30; exact Calls.quiet_of_same (hcall _)))
        have hb2 := below_dr (Below.refl wr.heap.size wr) nq
        generalize wr.drewN nq = w2 at hb2 ⊢
        have B0 := BB0.on hb2
        have B1 := BB1.on hb2
        have hB2 := below_on hB hb2
        clear k0 k1 k2 k3 k4 m1 m2 m3 m4 m5 m6 m7 m8 l1 l2 l3 l4 hcall hb2 BB0 BB1
        have BB1 := B1
        obtain ⟨k0, k1, k2, k3, k4, -, -, -, -⟩ := B0
        obtain ⟨-, m1, m2, m3, m4, m5, m6, m7, m8⟩ := B1
        have hz2 : ¬ -g = 0 := by omega
        go_wp2_with fail
        go_region
        go_wp2
        (try simp only [Exit.inBlock, Exit.then])
        rw [quo_neg HD.out ha, quo_neg HD.out hb, quo_neg HD.out hc, quo_neg HD.out hd]
        have B9 := BB1.set (Int.tdiv a (div4 a b c d)) (Int.tdiv b (div4 a b c d)) (Int.tdiv c (div4 a b c d)) (Int.tdiv d (div4 a b c d))
        refine ret_box (Or.inr rfl) rfl rfl (B9.on (Below.refl _ _).drew) rfl ?_
        exact ⟨rfl, (below_four hB2 (by omega) _ _ _ _).drew⟩
      · have HD : Hid (div4 a b c d = g4 a b c d) := by
          have : div4 a b c d = g4 a b c d := by unfold div4; rw [if_neg hl]
          exact this
        obtain ⟨g, hg⟩ : ∃ g, g4 a b c d = g := ⟨_, rfl⟩
        rw [hg] at hv hz HD ⊢
        clear hg
        have hsl : ¬ sgn (lead a b c d) < 0 := fun h => hl ((sgn_lt _).1 h)
        obtain ⟨sl, hx⟩ : ∃ sl, sgn (lead a b c d) = sl := ⟨_, rfl⟩
        rw [hx] at hsl
        have hcall := fun n => slCmp_any a b c d _ _ (wr.drewN n) (B0.on (below_dr (Below.refl _ _) n)) (B2.on (below_dr (Below.refl _ _) n))
        simp only [hx] at hcall
        clear hx
        have BB0 := B0
        have BB1 := B1
        obtain ⟨k0, k1, k2, k3, k4, -, -, -, -⟩ := B0
        obtain ⟨-, m1, m2, m3, m4, m5, m6, m7, m8⟩ := B1
        obtain ⟨-, l1, l2, l3, l4, -, -, -, -⟩ := B2
        go_wp2_with fail
        go_quiet ((go_at_call 30; exact Calls.quiet_of_same (hcall _)))
        have hb2 := below_dr (Below.refl wr.heap.size wr) nq
        generalize wr.drewN nq = w2 at hb2 ⊢
        have B0 := BB0.on hb2
        have B1 := BB1.on hb2
        have hB2 := below_on hB hb2
        clear k0 k1 k2 k3 k4 m1 m2 m3 m4 m5 m6 m7 m8 l1 l2 l3 l4 hcall hb2 BB0 BB1
        have BB1 := B1
        obtain ⟨k0, k1, k2, k3, k4, -, -, -, -⟩ := B0
        obtain ⟨-, m1, m2, m3, m4, m5, m6, m7, m8⟩ := B1
        go_wp2_with fail
        go_region
        go_wp2
        (try simp only [Exit.inBlock, Exit.then])
        have hD := HD.out
        rw [hD]
        have B9 := BB1.set (Int.tdiv a g) (Int.tdiv b g) (Int.tdiv c g) (Int.tdiv d g)
        refine ret_box (Or.inr rfl) rfl rfl (B9.on (Below.refl _ _).drew) rfl ?_
        exact ⟨rfl, (below_four hB2 (by omega) _ _ _ _).drew⟩
end Go.Proofs.Ytnpbogabmnidcaa
