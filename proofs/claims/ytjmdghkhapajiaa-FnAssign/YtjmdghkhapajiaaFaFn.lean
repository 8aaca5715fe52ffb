/- The law FnAssign, walked. -/
import Derived.Test.YtjmdghkhapajiaaFaD
import Derived.Test.YtjmdghkhapajiaaFaF
import Derived.Test.YtjmdghkhapajiaaAsLeN
import Derived.Test.YtjmdghkhapajiaaAsCost
import Derived.Test.YtjmdghkhapajiaaAsDuI
namespace Go.Proofs.Ytjmdghkhapajiaa
open Go.RowKit
theorem first_no {p : Nat → Bool} {n : Nat} (h : ¬ ∀ s, s ≤ n → p s = true) : ∃ r, r ≤ n ∧ (∀ s, s < r → p s = true) ∧ p r = false := by
  induction n with
  | zero =>
    refine ⟨0, Nat.le_refl _, fun s hs => by omega, ?_⟩
    cases e : p 0 with
    | false => rfl
    | true => exact absurd (fun s hs => (show s = 0 by omega) ▸ e) h
  | succ n ih =>
    by_cases c : ∀ s, s ≤ n → p s = true
    · refine ⟨n + 1, Nat.le_refl _, fun s hs => c s (by omega), ?_⟩
      cases e : p (n + 1) with
      | false => rfl
      | true =>
        refine absurd (fun s hs => ?_) h
        by_cases e2 : s = n + 1
        · rw [e2]; exact e
        · exact c s (by omega)
    · obtain ⟨r, h1, h2, h3⟩ := ih c
      exact ⟨r, by omega, h2, h3⟩
/-- what DuesOf tells of a good who: dues that are fine, if it costs least -/
theorem du_what {n : Nat} {K : Nat → Nat} {F : Nat → Nat → Int} {g : Nat → Int} (hga : gaB n n K F g = true) : ∃ (q : Bool) (D : Nat → Int), (∀ w w' e, DuA n F g w w' e → AnsTb w w' e (if q = true then n else 0) D q) ∧ (q = true → Bd n D 30000000 ∧ Fea n F g D) ∧ q = (csK F g n == lsL F n n 0) := by
  have ga := gaB_t hga
  have hn6 := ga.gp.hi
  have hb := best_le ga
  have gb := gaB_t (bw_good (F := F) (K := K) (n := n) (by unfold gaB at hga; simp only [Bool.and_eq_true] at hga; exact hga.1))
  by_cases k : ∀ s, s ≤ n → duQ F g n s = true
  · refine ⟨false, fun _ => 0, fun w w' e d => ?_, fun h => (by cases h), ?_⟩
    · rcases d with ⟨r, hr, _, h1, _⟩ | ⟨_, h1⟩
      · rw [k r hr] at h1; cases h1
      · exact h1
    · symm
      rw [beq_eq_false_iff_ne]
      intro e
      obtain ⟨r, hr, h1⟩ := least_dues ga fun h gh => by have := best_le gh; omega
      rw [k r (by omega)] at h1
      cases h1
  · obtain ⟨r0, hr0, h5, h6⟩ := first_no k
    have hst : duD F g n (r0 + 1) = duD F g n r0 := (rndQ_f h6).1
    refine ⟨true, duD F g n (r0 + 1), fun w w' e d => ?_, fun _ => ?_, ?_⟩
    · rcases d with ⟨r, hr, h7, h1, h2⟩ | ⟨h1, _⟩
      · rcases Nat.lt_trichotomy r r0 with c | c | c
        · rw [h5 r c] at h1; cases h1
        · subst c; exact h2
        · rw [h7 r0 c] at h6; cases h6
      · exact absurd h1 k
    · rw [hst]
      refine ⟨fun x hx => ?_, fea_of h6⟩
      have := du_bd ga r0 hr0 x hx
      omega
    · symm
      rw [beq_iff_eq]
      have h7 := dues_least ga gb h6
      rw [bw_sum ga.gp] at h7
      omega
set_option maxHeartbeats 8000000 in
set_option maxRecDepth 20000 in
theorem assignFn (A : Option Addr) (len cap : Nat) (w : World) (hl : len ≤ 1048576) (hD : Calls Try.prog 9 #[.slice A len cap] w fun e w' => AnsDu w w' e) :
    Calls Try.prog 3 #[.slice A len cap] w fun e w' => e = .returned (.bool true) ∧ Below w.heap.size w w' := by
  go_enter Try.func3, Try.ntmps3
  go_wp2_with fail
  refine hD.mono ?_
  rintro e w1 ⟨n, p, x, c, r, K, F, g, rfl, hn, hK, hR, hX, hB1⟩
  clear hD
  have hK1 : ∀ i, i < n → K i ≤ 1048576 := fun i hi => by have := hK i hi; omega
  cases eg : gpB n K F with
  | false =>
    have hga : gaB n n K F g = false := by unfold gaB; rw [eg]; rfl
    go_wp2_with fail
    refine (iBest_no p n c K F _ (by omega) hK1 hR eg).mono ?_
    rintro e3 w3 ⟨⟨a3, c3, rfl, -⟩, hb3⟩
    have hB3 := stepA hB1 hb3
    have hR3 := hR.below hb3
    have hX3 := hX.below hb3
    clear hb3 hR hX
    go_wp2_with fail
    refine (sBest_no p n c K F _ (by omega) hK1 hR3 eg).mono ?_
    rintro e4 w4 ⟨⟨a4, c4, rfl, -⟩, hb4⟩
    have hB4 := stepA hB3 hb4
    have hR4 := hR3.below hb4
    have hX4 := hX3.below hb4
    clear hb4 hR3 hX3
    go_wp2_with fail
    refine (iDues_no p n c K F x n r g _ (by omega) hK1 (by omega) hR4 hX4 hga).mono ?_
    rintro e5 w5 ⟨⟨a5, c5, rfl, -⟩, hb5⟩
    have hB5 := stepA hB4 hb5
    clear hb5 hR4 hX4
    go_wp2
    go_ret
    exact ⟨rfl, hB5⟩
  | true =>
    have gp := gpB_t eg
    have hbg := bw_good eg
    have HSum : Hid (csK F (fun i => (bwT F n i : Int)) n = lsL F n n 0) := bw_sum gp
    go_wp2_with fail
    refine (iBest_in p n c K F _ (by omega) hK1 hR eg).mono ?_
    rintro e3 w3 ⟨⟨a3, c3, rfl, hL3⟩, hb3⟩
    have hB3 := stepA hB1 hb3
    have hR3 := hR.below hb3
    have hX3 := hX.below hb3
    clear hb3 hR hX
    go_wp2_with fail
    refine (sBest_in p n c K F _ (by omega) hK1 hR3 eg).mono ?_
    rintro e4 w4 ⟨⟨a4, c4, rfl, -⟩, hb4⟩
    have hB4 := stepA hB3 hb4
    have hR4 := hR3.below hb4
    have hX4 := hX3.below hb4
    have hL4 := hL3.on hb4
    clear hb4 hR3 hX3 hL3
    have kB := fun w hR hL => iAssign_in p n c K F a3 n c3 (fun i => (bwT F n i : Int)) w (by omega) hK1 (by omega) hR hL hbg
    rw [HSum.out] at kB
    cases hga : gaB n n K F g with
    | false =>
      generalize lsL F n n 0 = T at *
      have j0 : (T != T) = false := by simp
      go_wp2_with fail
      refine (iDues_no p n c K F x n r g _ (by omega) hK1 (by omega) hR4 hX4 hga).mono ?_
      rintro e5 w5 ⟨⟨a5, c5, rfl, -⟩, hb5⟩
      have hB5 := stepA hB4 hb5
      have hR5 := hR4.below hb5
      have hX5 := hX4.below hb5
      have hL5 := hL4.on hb5
      clear hb5 hR4 hX4 hL4
      go_wp2_with fail
      refine (kB _ hR5 hL5.il).mono ?_
      rintro e6 w6 ⟨rfl, hb6⟩
      have hB6 := stepA hB5 hb6
      have hR6 := hR5.below hb6
      have hX6 := hX5.below hb6
      clear hb6 hR5 hX5 hL5 kB
      go_wp2_with fail
      refine (iAssign_no p n c K F x n r g _ (by omega) hK1 (by omega) hR6 hX6 hga).mono ?_
      rintro e7 w7 ⟨rfl, hb7⟩
      have hB7 := stepA hB6 hb7
      clear hb7 hR6 hX6
      go_wp2
      go_ret
      exact ⟨rfl, hB7⟩
    | true =>
      obtain ⟨q, D, hq1, hq2, hq3⟩ := du_what hga
      have HQ3 : Hid (q = (csK F g n == lsL F n n 0)) := hq3
      have hle := best_le (gaB_t hga)
      have kA := fun w hR hX => iAssign_in p n c K F x n r g w (by omega) hK1 (by omega) hR hX hga
      have kD := fun w hR hX => (iDues_in p n c K F x n r g w (by omega) hK1 (by omega) hR hX hga).mono fun e w' (⟨h3, h4⟩ : _ ∧ _) => (⟨hq1 _ _ _ h3, h4⟩ : AnsTb w w' e (if q = true then n else 0) D q ∧ Below w.heap.size w w')
      clear hq1 hq3
      generalize lsL F n n 0 = T at *
      generalize csK F g n = S at *
      have j0 : (T != T) = false := by simp
      have j1 : ¬ S < T := by omega
      clear hle
      cases q with
      | false =>
        have j2 : (S == T) = false := HQ3.out.symm
        clear hq2 HQ3
        go_wp2_with fail
        refine (kD _ hR4 hX4).mono ?_
        rintro e5 w5 ⟨⟨a5, c5, rfl, -⟩, hb5⟩
        have hB5 := stepA hB4 hb5
        have hR5 := hR4.below hb5
        have hX5 := hX4.below hb5
        have hL5 := hL4.on hb5
        clear hb5 hR4 hX4 hL4 kD
        go_wp2_with fail
        refine (kB _ hR5 hL5.il).mono ?_
        rintro e6 w6 ⟨rfl, hb6⟩
        have hB6 := stepA hB5 hb6
        have hR6 := hR5.below hb6
        have hX6 := hX5.below hb6
        clear hb6 hR5 hX5 hL5 kB
        go_wp2_with fail
        refine (kA _ hR6 hX6).mono ?_
        rintro e7 w7 ⟨rfl, hb7⟩
        have hB7 := stepA hB6 hb7
        clear hb7 hR6 hX6 kA
        go_wp2
        go_ret
        exact ⟨rfl, hB7⟩
      | true =>
        have j2 : (S == T) = true := HQ3.out.symm
        obtain ⟨hbd, hfe⟩ := hq2 rfl
        have kF := fun y s w hP hX hY => fineD p x y n c r s K F g D 30000000 w hK1 hga hbd (by omega) hfe hP hX hY
        clear hq2 HQ3 hbd hfe
        go_wp2_with fail
        refine (kD _ hR4 hX4).mono ?_
        rintro e5 w5 ⟨⟨a5, c5, rfl, hD5⟩, hb5⟩
        have hB5 := stepA hB4 hb5
        have hR5 := hR4.below hb5
        have hX5 := hX4.below hb5
        have hL5 := hL4.on hb5
        clear hb5 hR4 hX4 hL4 kD
        simp only [if_true] at hD5 ⊢
        go_wp2_with fail
        refine (kB _ hR5 hL5.il).mono ?_
        rintro e6 w6 ⟨rfl, hb6⟩
        have hB6 := stepA hB5 hb6
        have hR6 := hR5.below hb6
        have hX6 := hX5.below hb6
        have hD6 := hD5.on hb6
        clear hb6 hR5 hX5 hL5 kB hD5
        go_wp2_with fail
        refine (kA _ hR6 hX6).mono ?_
        rintro e7 w7 ⟨rfl, hb7⟩
        have hB7 := stepA hB6 hb7
        have hR7 := hR6.below hb7
        have hX7 := hX6.below hb7
        have hD7 := hD6.on hb7
        clear hb7 hR6 hX6 kA hD6
        go_wp2_with fail
        refine (kF _ _ _ hR7 hX7 hD7.il).mono ?_
        rintro e8 w8 ⟨rfl, hb8⟩
        have hB8 := stepA hB7 hb8
        clear kF hR7 hX7 hD7
        go_wp2
        go_ret
        exact ⟨rfl, hB8⟩
theorem assignAll (A : Option Addr) (len cap : Nat) (w : World) (hb : BL w A len) :
    Calls Try.prog 3 #[.slice A len cap] w fun e w' => e = .returned (.bool true) ∧ Below w.heap.size w w' := by
  by_cases h : len ≤ 1048576
  · exact assignFn A len cap w h (drawDu A len cap w h hb)
  · have h1 : (1048576 : Int) < (len : Int) := by omega
    go_enter Try.func3, Try.ntmps3
    go_wp2
    go_ret
    exact ⟨rfl, Below.refl _ _⟩
end Go.Proofs.Ytjmdghkhapajiaa
