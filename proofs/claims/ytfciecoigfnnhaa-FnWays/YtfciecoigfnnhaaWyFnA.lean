/- FnWays at every argument. -/
import Derived.Test.YtfciecoigfnnhaaWyFnW
import Derived.Test.YtfciecoigfnnhaaWyDraw
namespace Go.Proofs.Ytfciecoigfnnhaa
open Go.RowKit

set_option maxRecDepth 20000 in
theorem waysLong1 (b1 b2 : Option Addr) (m1 d1 m2 d2 : Nat) (w : World) (h1 : 1048576 < m1) (l1 : m1 ≤ 9223372036854775807) :
    Calls Try.prog 3 #[.slice b1 m1 d1, .slice b2 m2 d2] w fun e w' => e = .returned (.bool true) ∧ Below w.heap.size w w' := by
  have j1 : (1048576 : Int) < (m1 : Int) := by omega
  go_enter Try.func3, Try.ntmps3
  go_wp2_with fail
  go_ret
  exact ⟨rfl, Below.refl _ _⟩
set_option maxRecDepth 20000 in
theorem waysLong2 (b1 b2 : Option Addr) (m1 d1 m2 d2 : Nat) (w : World) (h1 : m1 ≤ 1048576) (h2 : 1048576 < m2) (l2 : m2 ≤ 9223372036854775807) :
    Calls Try.prog 3 #[.slice b1 m1 d1, .slice b2 m2 d2] w fun e w' => e = .returned (.bool true) ∧ Below w.heap.size w w' := by
  have j1 : ¬ (1048576 : Int) < (m1 : Int) := by omega
  have j2 : (1048576 : Int) < (m2 : Int) := by omega
  go_enter Try.func3, Try.ntmps3
  go_wp2_with fail
  go_ret
  exact ⟨rfl, Below.refl _ _⟩
theorem waysAll (b1 b2 : Option Addr) (m1 d1 m2 d2 : Nat) (w : World) (l1 : m1 ≤ 9223372036854775807) (l2 : m2 ≤ 9223372036854775807)
    (hb1 : 0 < m1 → ∃ b off, b1 = some ⟨b, off, none⟩ ∧ b < w.heap.size ∧ ∀ i, i < m1 → ∃ v : Int, w.cell? ⟨b, off + i, none⟩ = some (.int .u8 v) ∧ 0 ≤ v ∧ v ≤ 255)
    (hb2 : 0 < m2 → ∃ b off, b2 = some ⟨b, off, none⟩ ∧ b < w.heap.size ∧ ∀ i, i < m2 → ∃ v : Int, w.cell? ⟨b, off + i, none⟩ = some (.int .u8 v) ∧ 0 ≤ v ∧ v ≤ 255) :
    Calls Try.prog 3 #[.slice b1 m1 d1, .slice b2 m2 d2] w fun e w' => e = .returned (.bool true) ∧ Below w.heap.size w w' := by
  by_cases h1 : m1 ≤ 1048576
  · by_cases h2 : m2 ≤ 1048576
    · refine waysLaw b1 b2 m1 d1 m2 d2 w h1 h2 (drawShort b1 m1 d1 w h1 hb1) (fun W q n c f w' hB hn hf => ?_)
      refine strolled b2 m2 d2 W q n c f w' h2 (fun h0 => ?_) hn hf
      obtain ⟨b, off, e, hl, hc⟩ := hb2 h0
      refine ⟨b, off, e, Nat.lt_of_lt_of_le hl hB.size, fun i hi => ?_⟩
      obtain ⟨v, hv, hv1⟩ := hc i hi
      exact ⟨v, (hB.cell (p := ⟨b, _, none⟩) hl).trans hv, hv1⟩
    · exact waysLong2 b1 b2 m1 d1 m2 d2 w h1 (by omega) l2
  · exact waysLong1 b1 b2 m1 d1 m2 d2 w (by omega) l1
end Go.Proofs.Ytfciecoigfnnhaa
