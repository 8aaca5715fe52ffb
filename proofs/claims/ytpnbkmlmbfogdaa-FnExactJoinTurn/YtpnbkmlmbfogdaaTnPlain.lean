/- The program's plain turn. -/
import Derived.Test.YtpnbkmlmbfogdaaTnGood
import Derived.Deep.CutRange
namespace Go.Proofs.Ytpnbkmlmbfogdaa
open Go.RowKit

/-- the divisor as the program has it -/
def dvW (p q : Int) : Int := if q < 0 ∨ (q = 0 ∧ p < 0) then wrap64 (-(gcdW p q)) else gcdW p q
def cutP (x y : Int) : Int := if fitT x y then x else 0
def cutQ (x y : Int) : Int := if fitT x y then y else 0
theorem cut_yes {x y : Int} (h : -1000000 ≤ x ∧ x ≤ 1000000 ∧ 0 ≤ y ∧ y ≤ 1000000) : cutP x y = x ∧ cutQ x y = y := by
  unfold cutP cutQ
  rw [fit_iff.mpr h]
  exact ⟨rfl, rfl⟩
theorem cut_no {x y : Int} (h : ¬ (-1000000 ≤ x ∧ x ≤ 1000000 ∧ 0 ≤ y ∧ y ≤ 1000000)) : cutP x y = 0 ∧ cutQ x y = 0 := by
  have : fitT x y = false := by
    cases k : fitT x y
    · rfl
    · exact absurd (fit_iff.mp k) h
  unfold cutP cutQ
  rw [this]
  exact ⟨rfl, rfl⟩
theorem gcd_two (a b : Int) (ha : I64 a) (hb : I64 b) : Int.gcd a b ≤ 9223372036854775808 := by
  unfold I64 at *
  by_cases h : a = 0
  · subst h
    rw [Int.gcd_zero_left]
    omega
  · have := Nat.gcd_le_left b.natAbs (show 0 < a.natAbs by omega)
    have e : Int.gcd a b = Nat.gcd a.natAbs b.natAbs := rfl
    rw [e]
    omega
theorem gcdW_ne {p q : Int} (h : ¬ (p = 0 ∧ q = 0)) : ¬ gcdW p q = 0 := by
  have := gcd_pos h
  unfold gcdW
  split <;> omega
theorem gcdW_in {p q : Int} (hp : I64 p) (hq : I64 q) : I64 (gcdW p q) := by
  have := gcd_two p q hp hq
  unfold gcdW I64
  split <;> omega
theorem neg_ne {g : Int} (hi : I64 g) (h : ¬ g = 0) : ¬ wrap64 (-g) = 0 := by
  unfold I64 at hi
  unfold wrap64
  omega

set_option maxHeartbeats 1000000 in
theorem plain_any (p q : Int) (w : World) (hp : I64 p) (hq : I64 q) (hz : ¬ (p = 0 ∧ q = 0)) :
    Calls Try.prog 13 #[.int .i64 p, .int .i64 q] w fun e w' => e = .returned (tn (cutP (wrap64 (Int.tdiv p (dvW p q))) (wrap64 (Int.tdiv q (dvW p q)))) (cutQ (wrap64 (Int.tdiv p (dvW p q))) (wrap64 (Int.tdiv q (dvW p q))))) ∧ Below w.heap.size w w' := by
  have hD := @neg_ne (gcdW p q) (gcdW_in hp hq) (gcdW_ne hz)
  have hg := gcdW_ne hz
  have lc := fun w => common_any p q w hp hq
  have e1 : q < 0 ∨ (q = 0 ∧ p < 0) → dvW p q = wrap64 (-(gcdW p q)) := fun k => by unfold dvW; rw [if_pos k]
  have e2 : ¬ (q < 0 ∨ (q = 0 ∧ p < 0)) → dvW p q = gcdW p q := fun k => by unfold dvW; rw [if_neg k]
  generalize gcdW p q = g at lc hD hg e1 e2
  have B0 := box_new w 0 0 25
  have hB := below_new (Below.refl _ (w.alloc (two 0 0 25)))
  by_cases h1 : q < 0
  · have ed := e1 (Or.inl h1)
    clear e1 e2 hg hz
    go_enter Try.func13, Try.ntmps13
    go_wp2_with fail
    refine (lc _).mono ?_
    rintro e w1 ⟨rfl, n, hw⟩
    have B1 : Box w1 w.heap.size 0 0 := by subst hw; exact B0.on (below_dr (Below.refl _ _) n)
    have hB : Below w.heap.size w w1 := by subst hw; exact below_dr hB n
    clear hw lc B0
    go_upto_region 4 with fail
    generalize wrap64 (-g) = D at hD ed ⊢
    have ED : Hid (dvW p q = D) := ed
    clear ed
    have BB := B1
    obtain ⟨k0, k1, k2, k3, k4⟩ := B1
    go_region
    go_wp2
    all_goals
      rw [ED.out]
      first
      | (rw [(cut_yes (by omega)).1, (cut_yes (by omega)).2]; exact ret_box rfl rfl ((BB.set _ _).on (Below.refl _ _).drew) rfl ⟨rfl, (below_two hB (Nat.le_refl _) _ _).drew⟩)
      | (rw [(cut_no (by omega)).1, (cut_no (by omega)).2]; exact ret_box rfl rfl ((BB.set _ _).on (Below.refl _ _).drew) rfl ⟨rfl, (below_two hB (Nat.le_refl _) _ _).drew⟩)
  cases h2 : (q == 0)
  · have h2' : ¬ q = 0 := by simpa using h2
    have ed := e2 (by omega)
    clear e1 e2 hz
    go_enter Try.func13, Try.ntmps13
    go_wp2_with fail
    refine (lc _).mono ?_
    rintro e w1 ⟨rfl, n, hw⟩
    have B1 : Box w1 w.heap.size 0 0 := by subst hw; exact B0.on (below_dr (Below.refl _ _) n)
    have hB : Below w.heap.size w w1 := by subst hw; exact below_dr hB n
    clear hw lc B0
    go_upto_region 4 with fail
    have ED : Hid (dvW p q = g) := ed
    clear ed hD
    have BB := B1
    obtain ⟨k0, k1, k2, k3, k4⟩ := B1
    go_region
    go_wp2
    all_goals
      rw [ED.out]
      first
      | (rw [(cut_yes (by omega)).1, (cut_yes (by omega)).2]; exact ret_box rfl rfl ((BB.set _ _).on (Below.refl _ _).drew) rfl ⟨rfl, (below_two hB (Nat.le_refl _) _ _).drew⟩)
      | (rw [(cut_no (by omega)).1, (cut_no (by omega)).2]; exact ret_box rfl rfl ((BB.set _ _).on (Below.refl _ _).drew) rfl ⟨rfl, (below_two hB (Nat.le_refl _) _ _).drew⟩)
  have h2' : q = 0 := by simpa using h2
  by_cases h3 : p < 0
  · have ed := e1 (Or.inr ⟨h2', h3⟩)
    clear e1 e2 hg hz h2'
    go_enter Try.func13, Try.ntmps13
    go_wp2_with fail
    refine (lc _).mono ?_
    rintro e w1 ⟨rfl, n, hw⟩
    have B1 : Box w1 w.heap.size 0 0 := by subst hw; exact B0.on (below_dr (Below.refl _ _) n)
    have hB : Below w.heap.size w w1 := by subst hw; exact below_dr hB n
    clear hw lc B0
    go_upto_region 4 with fail
    generalize wrap64 (-g) = D at hD ed ⊢
    have ED : Hid (dvW p q = D) := ed
    clear ed
    have BB := B1
    obtain ⟨k0, k1, k2, k3, k4⟩ := B1
    go_region
    go_wp2
    all_goals
      rw [ED.out]
      first
      | (rw [(cut_yes (by omega)).1, (cut_yes (by omega)).2]; exact ret_box rfl rfl ((BB.set _ _).on (Below.refl _ _).drew) rfl ⟨rfl, (below_two hB (Nat.le_refl _) _ _).drew⟩)
      | (rw [(cut_no (by omega)).1, (cut_no (by omega)).2]; exact ret_box rfl rfl ((BB.set _ _).on (Below.refl _ _).drew) rfl ⟨rfl, (below_two hB (Nat.le_refl _) _ _).drew⟩)
  · have ed := e2 (by omega)
    clear e1 e2 hz h2'
    go_enter Try.func13, Try.ntmps13
    go_wp2_with fail
    refine (lc _).mono ?_
    rintro e w1 ⟨rfl, n, hw⟩
    have B1 : Box w1 w.heap.size 0 0 := by subst hw; exact B0.on (below_dr (Below.refl _ _) n)
    have hB : Below w.heap.size w w1 := by subst hw; exact below_dr hB n
    clear hw lc B0
    go_upto_region 4 with fail
    have ED : Hid (dvW p q = g) := ed
    clear ed hD
    have BB := B1
    obtain ⟨k0, k1, k2, k3, k4⟩ := B1
    go_region
    go_wp2
    all_goals
      rw [ED.out]
      first
      | (rw [(cut_yes (by omega)).1, (cut_yes (by omega)).2]; exact ret_box rfl rfl ((BB.set _ _).on (Below.refl _ _).drew) rfl ⟨rfl, (below_two hB (Nat.le_refl _) _ _).drew⟩)
      | (rw [(cut_no (by omega)).1, (cut_no (by omega)).2]; exact ret_box rfl rfl ((BB.set _ _).on (Below.refl _ _).drew) rfl ⟨rfl, (below_two hB (Nat.le_refl _) _ _).drew⟩)
end Go.Proofs.Ytpnbkmlmbfogdaa
