/- Drawn prices and who, for dues. -/
import Derived.Test.YtjmdghkhapajiaaAsDp
import Derived.Test.YtjmdghkhapajiaaAsDw
import Derived.Test.YtjmdghkhapajiaaCurNew
import Derived.Test.YtjmdghkhapajiaaByOpen
import Derived.Test.YtjmdghkhapajiaaAsBeT
namespace Go.Proofs.Ytjmdghkhapajiaa
open Go.RowKit
/-- drawn: prices and who -/
def AnsDu (w w' : World) (e : Ending) : Prop := ∃ (N : Nat) (p x : Option Addr) (c r : Nat) (K : Nat → Nat) (F : Nat → Nat → Int) (g : Nat → Int), e = .returned (.tuple #[.slice p N c, .slice x N r]) ∧ N ≤ 7 ∧ (∀ i, i < N → K i ≤ 8) ∧ RR w' p N K F ∧ IL w' x N g ∧ Below w.heap.size w w'
set_option maxRecDepth 20000 in
set_option maxHeartbeats 8000000 in
theorem drawDu (a : Option Addr) (len cap : Nat) (w : World) (hl : len ≤ 1048576) (hb : BL w a len) :
    Calls Try.prog 9 #[.slice a len cap] w fun e w' => AnsDu w w' e := by
  have hcur := cur_new w a len cap hl hb
  have hB0 : Below w.heap.size w (w.alloc (.cells #[.slice a len cap, .int .i64 0, .int .u64 0] 50)) := (Below.refl _ _).alloc (Nat.le_refl _) _
  go_enter Try.func9, Try.ntmps9
  go_upto_region 2 with fail
  generalize w.alloc (.cells #[.slice a len cap, .int .i64 0, .int .u64 0] 50) = w0 at *
  go_wp2_with fail
  refine (prices_any w.heap.size a len cap 0 _ hcur (by omega)).mono ?_
  rintro e w1 ⟨N, n1, p, c, K, F, rfl, hN, hK, hR1, hn1, hc1, hB1⟩
  have hB1 := hB0.trans hB1
  have hs1 := hc1.lt
  have hK1 : ∀ i, i < N → K i ≤ 1048576 := fun i hi => by have := hK i hi; omega
  clear hcur hB0
  cases eg : gpB N K F with
  | false =>
    go_wp2_with fail
    refine (sBest_no p N c K F _ (by omega) hK1 hR1.rr eg).mono ?_
    rintro e w2 ⟨⟨a2, c2, rfl, -⟩, hb2⟩
    have hR2 := hR1.on hb2
    have hc2 := hc1.below hb2 hs1
    have hB2 := hB1.trans (hb2.mono (by omega))
    have hs2 := hc2.lt
    clear hR1 hc1 hB1 hb2
    go_wp2_with fail
    refine (who_any w.heap.size a len cap n1 N _ hc2 (by omega) hN).mono ?_
    rintro e w3 ⟨n3, x, r, g, rfl, hL3, hn3, hc3, hT3⟩
    have hR3 := hR2.turns hT3 (.inr (Nat.le_refl _))
    have hB3 : Below w.heap.size w w3 := hB2.trans (hT3.below (Nat.le_refl _) (by omega))
    have HA : Hid (AnsDu w w3 (.returned (.tuple #[.slice p N c, .slice x N r]))) := ⟨N, p, x, c, r, K, F, g, rfl, hN, hK, hR3.rr, hL3.il, hB3⟩
    clear hR2 hR3 hL3 hB2 hB3 hc3 hT3 hK hK1
    go_wp2
    go_ret2
    exact HA.out
  | true =>
    go_wp2_with fail
    refine (sBest_in p N c K F _ (by omega) hK1 hR1.rr eg).mono ?_
    rintro e w2 ⟨⟨a2, c2, rfl, hL2⟩, hb2⟩
    have hR2 := hR1.on hb2
    have hc2 := hc1.below hb2 hs1
    have hB2 := hB1.trans (hb2.mono (by omega))
    have hs2 := hc2.lt
    clear hR1 hc1 hB1 hb2
    go_wp2_with fail
    refine (one_any w.heap.size a len cap _ _ _ hc2 (by omega)).mono ?_
    rintro e w3 ⟨q, n3, rfl, m3, hc3, hO3⟩
    have hR3 := hR2.turns (tn_only hO3) (.inr (Nat.le_refl _))
    have hL3 := hL2.turns (tn_only hO3) (.inr (by omega))
    have hB3 : Below w.heap.size w w3 := hB2.trans hO3.below
    have hs3 := hc3.lt
    clear hR2 hL2 hB2 hc2 hO3
    cases q with
    | false =>
      have HA : Hid (AnsDu w w3 (.returned (.tuple #[.slice p N c, .slice a2 N c2]))) := ⟨N, p, a2, c, c2, K, F, _, rfl, hN, hK, hR3.rr, hL3.il, hB3⟩
      clear hR3 hL3 hB3 hc3 hK hK1
      go_wp2
      go_ret2
      exact HA.out
    | true =>
      clear hL3
      go_wp2_with fail
      refine (who_any w.heap.size a len cap n3 N _ hc3 (by omega) hN).mono ?_
      rintro e w4 ⟨n4, x, r, g, rfl, hL4, hn4, hc4, hT4⟩
      have hR4 := hR3.turns hT4 (.inr (Nat.le_refl _))
      have hB4 : Below w.heap.size w w4 := hB3.trans (hT4.below (Nat.le_refl _) (by omega))
      have HA : Hid (AnsDu w w4 (.returned (.tuple #[.slice p N c, .slice x N r]))) := ⟨N, p, x, c, r, K, F, g, rfl, hN, hK, hR4.rr, hL4.il, hB4⟩
      clear hR3 hR4 hL4 hB3 hB4 hc4 hT4 hK hK1
      go_wp2
      go_ret2
      exact HA.out
end Go.Proofs.Ytjmdghkhapajiaa
