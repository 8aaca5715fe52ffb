/- The product of two quaternions, as both reckon it. -/
import Derived.Test.YtnpbogabmnidcaaSpMath
namespace Go.Proofs.Ytnpbogabmnidcaa
open Go.RowKit

set_option maxHeartbeats 4000000 in
theorem times_any (a b c d e f g h : Int) (w : World) (ha : -1000000 ≤ a ∧ a ≤ 1000000) (hb : -1000000 ≤ b ∧ b ≤ 1000000) (hc : -1000000 ≤ c ∧ c ≤ 1000000) (hd : -1000000 ≤ d ∧ d ≤ 1000000) (he : -1000000 ≤ e ∧ e ≤ 1000000) (hf : -1000000 ≤ f ∧ f ≤ 1000000) (hg : -1000000 ≤ g ∧ g ≤ 1000000) (hk : -1000000 ≤ h ∧ h ≤ 1000000) :
    Calls Try.prog 27 #[sp a b c d, sp e f g h] w fun o w' => o = .returned (sp (mA a b c d e f g h) (mB a b c d e f g h) (mC a b c d e f g h) (mD a b c d e f g h)) ∧ Below w.heap.size w w' := by
  have pae := mul_in ha he
  have paf := mul_in ha hf
  have pag := mul_in ha hg
  have pah := mul_in ha hk
  have pbe := mul_in hb he
  have pbf := mul_in hb hf
  have pbg := mul_in hb hg
  have pbh := mul_in hb hk
  have pce := mul_in hc he
  have pcf := mul_in hc hf
  have pcg := mul_in hc hg
  have pch := mul_in hc hk
  have pde := mul_in hd he
  have pdf := mul_in hd hf
  have pdg := mul_in hd hg
  have pdh := mul_in hd hk
  clear ha hb hc hd he hf hg hk
  go_enter Try.func27, Try.ntmps27
  go_wp2
  go_returns
  refine ⟨rfl, ?_⟩
  repeat' (first | exact Below.refl _ _ | refine below_dr ?_ _ | refine Below.alloc ?_ (by simp <;> omega) _ | refine Below.setCell ?_ (by simp <;> omega) _)

set_option maxHeartbeats 4000000 in
theorem l4Mul_any (a b c d e f g h : Int) (w : World) (ha : -1000000 ≤ a ∧ a ≤ 1000000) (hb : -1000000 ≤ b ∧ b ≤ 1000000) (hc : -1000000 ≤ c ∧ c ≤ 1000000) (hd : -1000000 ≤ d ∧ d ≤ 1000000) (he : -1000000 ≤ e ∧ e ≤ 1000000) (hf : -1000000 ≤ f ∧ f ≤ 1000000) (hg : -1000000 ≤ g ∧ g ≤ 1000000) (hk : -1000000 ≤ h ∧ h ≤ 1000000) :
    Calls Try.prog 21 #[sp a b c d, sp e f g h] w fun o w' => o = .returned (sp (mA a b c d e f g h) (mB a b c d e f g h) (mC a b c d e f g h) (mD a b c d e f g h)) ∧ Below w.heap.size w w' := by
  have pae := mul_in ha he
  have paf := mul_in ha hf
  have pag := mul_in ha hg
  have pah := mul_in ha hk
  have pbe := mul_in hb he
  have pbf := mul_in hb hf
  have pbg := mul_in hb hg
  have pbh := mul_in hb hk
  have pce := mul_in hc he
  have pcf := mul_in hc hf
  have pcg := mul_in hc hg
  have pch := mul_in hc hk
  have pde := mul_in hd he
  have pdf := mul_in hd hf
  have pdg := mul_in hd hg
  have pdh := mul_in hd hk
  clear ha hb hc hd he hf hg hk
  go_enter Try.func21, Try.ntmps21
  go_wp2
  go_returns
  refine ⟨rfl, ?_⟩
  repeat' (first | exact Below.refl _ _ | refine below_dr ?_ _ | refine Below.alloc ?_ (by simp <;> omega) _ | refine Below.setCell ?_ (by simp <;> omega) _)
end Go.Proofs.Ytnpbogabmnidcaa
