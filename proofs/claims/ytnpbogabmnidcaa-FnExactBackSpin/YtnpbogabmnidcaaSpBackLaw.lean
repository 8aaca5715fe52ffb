/- The walk of the law on BackSpin. -/
import Derived.Test.YtnpbogabmnidcaaSpBackA
namespace Go.Proofs.Ytnpbogabmnidcaa
open Go.RowKit

set_option maxHeartbeats 2000000 in
theorem backLaw (a b c d : Int) (w : World) :
    Calls Try.prog 6 #[sp a b c d] w fun e w' => e = .returned (.bool true) ∧ Below w.heap.size w w' := by
  obtain ⟨p, q, r, s, hs, hi⟩ : ∃ p q r s : Int, (∀ w, Calls Try.prog 15 #[sp a b c d] w fun e w' => e = .returned (sp p q r s) ∧ Below w.heap.size w w') ∧ (∀ w, Calls Try.prog 16 #[sp a b c d] w fun e w' => e = .returned (sp p q r s) ∧ Below w.heap.size w w') :=
    ⟨_, _, _, _, fun w => specBack_any a b c d w, fun w => implBack_any a b c d w⟩
  go_enter Try.func6, Try.ntmps6
  go_wp2_with fail
  refine (toSpin_any a b c d _).mono ?_
  rintro e w1 ⟨rfl, hb1⟩
  obtain ⟨B0, hB⟩ := boxes1 hb1
  clear hb1
  go_wp2_with fail
  refine (hs _).mono ?_
  rintro e w2 ⟨rfl, hb2⟩
  have B0 := B0.on hb2
  have hB := below_on hB hb2
  clear hb2
  obtain ⟨k0, k1, k2, k3, k4, -, -, -, -⟩ := B0
  go_wp2_with fail
  refine (toSpin_any a b c d _).mono ?_
  rintro e w3 ⟨rfl, hb3⟩
  obtain ⟨W0, hb3⟩ := boxes1 hb3
  have hB := below_on hB hb3
  clear hb3 k0 k1 k2 k3 k4
  go_wp2_with fail
  refine (hi _).mono ?_
  rintro e w4 ⟨rfl, hb4⟩
  have W0 := W0.on hb4
  have hB := below_on hB hb4
  clear hb4
  obtain ⟨k0, k1, k2, k3, k4, -, -, -, -⟩ := W0
  go_wp2_with fail
  refine (eqSpin_any p q r s _).mono ?_
  rintro e w5 ⟨rfl, hb5⟩
  obtain ⟨-, hb5⟩ := boxes1 hb5
  have hB := below_on hB hb5
  clear hb5 k0 k1 k2 k3 k4
  go_wp2
  go_ret
  exact ⟨rfl, hB⟩
end Go.Proofs.Ytnpbogabmnidcaa
