/- Places of cells. -/
import Derived.Test.YtfciecoigfnnhaaWyMtM
namespace Go.Proofs.Ytfciecoigfnnhaa
open Go.RowKit
theorem crd {W : Int} {n : Nat} (h : sizedB W n = true) {a : Int} (h0 : 0 ≤ a) (h1 : a < (n : Int)) : (0 ≤ a % W ∧ a % W ≤ 15) ∧ (0 ≤ a / W ∧ a / W ≤ 15) := by
  obtain ⟨k1, k2, _, _, _⟩ := sizedB_t h
  obtain ⟨m1, m2, m3⟩ := hgt_mul h
  have a1 := Int.emod_nonneg a (b := W) (by omega)
  have a2 := Int.emod_lt_of_pos a (b := W) (by omega)
  have a3 := Int.ediv_nonneg (a := a) (b := W) h0 (by omega)
  have a4 : a / W < hgt W n := Int.ediv_lt_of_lt_mul (by omega) (by rw [m1]; exact h1)
  omega
theorem tm_of {a W : Int} (h : 0 ≤ a) : a.tmod W = a % W := Int.tmod_eq_emod_of_nonneg h
theorem td_of {a W : Int} (h : 0 ≤ a) : a.tdiv W = a / W := Int.tdiv_eq_ediv_of_nonneg h
end Go.Proofs.Ytfciecoigfnnhaa
