/- The walk of the law on FirstGuess. -/
import Derived.Test.YtgcnkecfdmafdaaPtGuessB
namespace Go.Proofs.Ytgcnkecfdmafdaa
open Go.RowKit

set_option maxHeartbeats 2000000 in
theorem firstLaw_in (n : Nat) (w : World) (h1 : 1 ≤ n) (h2 : n ≤ 10) :
    Calls Try.prog 6 #[.int .i64 (n : Int)] w fun e w' => e = .returned (.bool true) ∧ Below w.heap.size w w' := by
  have hlt : ∀ i, i < n → gX i < 18446744073709551616 ∧ gY i < 18446744073709551616 := fun i hi => (g_all i (by omega)).2.2.2.2
  go_enter Try.func6, Try.ntmps6
  go_wp2_with fail
  refine (specFirst_in n _ h1 h2).mono ?_
  rintro e w1 ⟨g, cap, rfl, hg, hP, hB1⟩
  go_wp2_with fail
  refine (implFirst_in n _ h1 h2).mono ?_
  rintro e w2 ⟨b, rfl, hb, hQ, hb2⟩
  have hP2 := hP.below hb2 hP.lt
  have hgb : g ≠ b := Nat.ne_of_lt (Nat.lt_of_lt_of_le hP.lt hb)
  have hB2 := hB1.trans (hb2.mono hB1.size)
  have hwb : w.heap.size ≤ b := Nat.le_trans hB1.size hb
  clear hP hb2 hB1 hb hg
  go_wp2_with fail
  refine (eqPoints_any _ _ n _ _ gX gY _ (by omega) (fun _ => ⟨b, rfl, hQ⟩) (fun _ => ⟨g, rfl, hP2⟩) hlt).mono ?_
  rintro e w3 ⟨rfl, hb3⟩
  have hP3 := hP2.below hb3 hP2.lt
  have hQ3 := hQ.below hb3 hQ.lt
  have hB3 := hB2.trans (hb3.mono hB2.size)
  clear hP2 hQ hB2 hb3
  go_wp2_with fail
  refine (markPoints_any b n _ 1 gX gY _ (by omega) (by omega) hQ3).mono ?_
  rintro e w4 ⟨rfl, hQ4, hO⟩
  have hP4 := hP3.only hO hgb
  have hB4 := hB3.trans (hO.below.mono hwb)
  clear hP3 hQ3 hB3 hO
  go_wp2_with fail
  refine (heldPoints_any b n _ 1 _ (by omega) (by omega) hQ4).mono ?_
  rintro e w5 ⟨rfl, hw5⟩
  have hs5 := hw5.symm
  clear hw5
  subst hs5
  have k1 : ¬ (1 : Int) + 2 * (n : Int) < 0 := by omega
  go_wp2_with fail
  refine (implFirst_in n _ h1 h2).mono ?_
  rintro e w6 ⟨b2, rfl, hb2, hR, hb6⟩
  have hP6 := hP4.below hb6 hP4.lt
  have hQ6 := hQ4.below hb6 hQ4.lt
  have hB6 := hB4.trans (hb6.mono hB4.size)
  clear hP4 hQ4 hB4 hb6 hb2
  go_wp2_with fail
  refine (eqPoints_any _ _ n _ _ gX gY _ (by omega) (fun _ => ⟨b2, rfl, hR⟩) (fun _ => ⟨g, rfl, hP6⟩) hlt).mono ?_
  rintro e w7 ⟨rfl, hb7⟩
  have hQ7 := hQ6.below hb7 hQ6.lt
  have hB7 := hB6.trans (hb7.mono hB6.size)
  clear hP6 hQ6 hB6 hR hb7
  go_wp2_with fail
  refine (heldPoints_any b n _ 1 _ (by omega) (by omega) hQ7).mono ?_
  rintro e w8 ⟨rfl, hw8⟩
  have hs8 := hw8.symm
  clear hw8
  subst hs8
  clear hQ7
  go_wp2
  go_ret
  exact ⟨rfl, hB7⟩

set_option maxHeartbeats 2000000 in
theorem firstLaw_out (n : Int) (w : World) (h : n < 1 ∨ 10 < n) :
    Calls Try.prog 6 #[.int .i64 n] w fun e w' => e = .returned (.bool true) ∧ Below w.heap.size w w' := by
  go_enter Try.func6, Try.ntmps6
  go_wp2_with fail
  refine (specFirst_out n _ h).mono ?_
  rintro e w1 ⟨rfl, rfl⟩
  go_wp2_with fail
  refine (implFirst_out n _ h).mono ?_
  rintro e w2 ⟨rfl, rfl⟩
  go_wp2_with fail
  refine (eqPoints_any _ _ 0 _ _ gX gY _ (by omega) (fun h => absurd h (by omega)) (fun h => absurd h (by omega)) (fun i h => absurd h (by omega))).mono ?_
  rintro e w3 ⟨rfl, hB3⟩
  go_wp2_with fail
  refine (mark_zero _ _ 1 _).mono ?_
  rintro e w4 ⟨rfl, rfl⟩
  go_wp2_with fail
  refine (held_zero _ _ 1 _).mono ?_
  rintro e w5 ⟨rfl, rfl⟩
  go_wp2_with fail
  refine (implFirst_out n _ h).mono ?_
  rintro e w6 ⟨rfl, rfl⟩
  go_wp2_with fail
  refine (eqPoints_any _ _ 0 _ _ gX gY _ (by omega) (fun h => absurd h (by omega)) (fun h => absurd h (by omega)) (fun i h => absurd h (by omega))).mono ?_
  rintro e w7 ⟨rfl, hb7⟩
  have hB7 := hB3.trans (hb7.mono hB3.size)
  clear hB3 hb7
  go_wp2_with fail
  refine (held_zero _ _ 1 _).mono ?_
  rintro e w8 ⟨rfl, rfl⟩
  go_wp2
  go_ret
  exact ⟨rfl, hB7⟩

theorem firstLaw (n : Int) (w : World) :
    Calls Try.prog 6 #[.int .i64 n] w fun e w' => e = .returned (.bool true) ∧ Below w.heap.size w w' := by
  by_cases h : n < 1 ∨ 10 < n
  · exact firstLaw_out n w h
  · obtain ⟨k, rfl⟩ := Int.eq_ofNat_of_zero_le (a := n) (by omega)
    exact firstLaw_in k w (by omega) (by omega)
end Go.Proofs.Ytgcnkecfdmafdaa
