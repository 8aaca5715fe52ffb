/- Draws of prices and who. -/
import Derived.Test.YtjmdghkhapajiaaAsDp
import Derived.Test.YtjmdghkhapajiaaAsDw
import Derived.Test.YtjmdghkhapajiaaCurNew
import Derived.Test.YtjmdghkhapajiaaByOpen
namespace Go.Proofs.Ytjmdghkhapajiaa
open Go.RowKit
/-- drawn: prices, who, and somebody -/
def AnsDh (w w' : World) (e : Ending) : Prop := ∃ (N : Nat) (p x : Option Addr) (c r : Nat) (K : Nat → Nat) (F : Nat → Nat → Int) (g : Nat → Int) (t : Int), e = .returned (.tuple #[.slice p N c, .slice x N r, .int .i64 t]) ∧ N ≤ 7 ∧ (∀ i, i < N → K i ≤ 8) ∧ RR w' p N K F ∧ IL w' x N g ∧ Below w.heap.size w w'
set_option maxRecDepth 20000 in
set_option maxHeartbeats 4000000 in
theorem drawHand (a : Option Addr) (len cap : Nat) (w : World) (hl : len ≤ 1048576) (hb : BL w a len) :
    Calls Try.prog 15 #[.slice a len cap] w fun e w' => AnsDh w w' e := by
  have hcur := cur_new w a len cap hl hb
  have hB0 : Below w.heap.size w (w.alloc (.cells #[.slice a len cap, .int .i64 0, .int .u64 0] 50)) := (Below.refl _ _).alloc (Nat.le_refl _) _
  go_enter Try.func15, Try.ntmps15
  go_upto_region 2 with fail
  generalize w.alloc (.cells #[.slice a len cap, .int .i64 0, .int .u64 0] 50) = w0 at *
  go_wp2_with fail
  refine (prices_any w.heap.size a len cap 0 _ hcur (by omega)).mono ?_
  rintro e w1 ⟨N, n1, p, c, K, F, rfl, hN, hK, hR1, hn1, hc1, hB1⟩
  have hB1 := hB0.trans hB1
  have hs1 := hc1.lt
  clear hcur hB0
  go_wp2_with fail
  refine (who_any w.heap.size a len cap n1 N _ hc1 (by omega) hN).mono ?_
  rintro e w2 ⟨n2, x, r, g, rfl, hL2, hn2, hc2, hT2⟩
  have hR2 := hR1.turns hT2 (.inr (Nat.le_refl _))
  have hB2 : Below w.heap.size w w2 := hB1.trans (hT2.below (Nat.le_refl _) (by omega))
  have hs2 := hT2.size
  clear hR1 hB1 hT2 hc1
  go_wp2_with fail
  refine (pick_any w.heap.size a len cap _ _ _ hc2 (by omega)).mono ?_
  rintro e w3 ⟨v3, n3, rfl, p3, -, q3, m3, hc3, hO3⟩
  have hR3 := hR2.turns (tn_only hO3) (.inr (Nat.le_refl _))
  have hL3 := hL2.turns (tn_only hO3) (.inr (by omega))
  have hB3 : Below w.heap.size w w3 := hB2.trans hO3.below
  have HA : Hid (AnsDh w w3 (.returned (.tuple #[.slice p N c, .slice x N r, .int .i64 (v3 - 1)]))) := ⟨N, p, x, c, r, K, F, g, v3 - 1, rfl, hN, hK, hR3.rr, hL3.il, hB3⟩
  clear hR2 hL2 hR3 hL3 hB2 hB3 hc2 hc3 hO3 hK
  go_wp2
  go_ret3
  exact HA.out
end Go.Proofs.Ytjmdghkhapajiaa
