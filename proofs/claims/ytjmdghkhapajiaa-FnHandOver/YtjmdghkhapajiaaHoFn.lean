/- The law FnHandOver, walked. -/
import Derived.Test.YtjmdghkhapajiaaHoI
import Derived.Test.YtjmdghkhapajiaaHoS
import Derived.Test.YtjmdghkhapajiaaHoA
import Derived.Test.YtjmdghkhapajiaaAsDd
namespace Go.Proofs.Ytjmdghkhapajiaa
open Go.RowKit
set_option maxHeartbeats 8000000 in
set_option maxRecDepth 20000 in
theorem handFn (A : Option Addr) (len cap : Nat) (w : World) (hl : len ≤ 1048576) (hD : Calls Try.prog 15 #[.slice A len cap] w fun e w' => AnsDh w w' e) :
    Calls Try.prog 4 #[.slice A len cap] w fun e w' => e = .returned (.bool true) ∧ Below w.heap.size w w' := by
  go_enter Try.func4, Try.ntmps4
  go_wp2_with fail
  refine hD.mono ?_
  rintro e w1 ⟨n, p, x, c, r, K, F, g, t, rfl, hn, hK, hR, hX, hB1⟩
  clear hD
  have hK1 : ∀ i, i < n → K i ≤ 1048576 := fun i hi => by have := hK i hi; omega
  cases e : hoB n n K F g t with
  | false =>
    go_wp2_with fail
    refine (iHand_no p x n c n r K F g t _ (by omega) hK1 (by omega) hR hX e).mono ?_
    rintro e3 w3 ⟨⟨a3, c3, rfl, -⟩, hb3⟩
    have hB3 := stepA hB1 hb3
    have hR3 := hR.below hb3
    have hX3 := hX.below hb3
    clear hb3 hR hX
    go_wp2_with fail
    refine (sHand_no p x n c n r K F g t _ (by omega) hK1 (by omega) hR3 hX3 e).mono ?_
    rintro e4 w4 ⟨⟨a4, c4, rfl, -⟩, hb4⟩
    have hB4 := stepA hB3 hb4
    clear hb4 hR3 hX3
    go_wp2
    go_ret
    exact ⟨rfl, hB4⟩
  | true =>
    have e' := e
    unfold hoB at e'
    simp only [Bool.and_eq_true, decide_eq_true_eq] at e'
    obtain ⟨⟨⟨eg, e0⟩, e1⟩, e2⟩ := e'
    obtain ⟨G, rfl⟩ := Int.eq_ofNat_of_zero_le e0
    have hG : G < n := by omega
    have hHlt : hoH n F (g G).toNat G < n := chK_lt _ n (by omega)
    have hHne : hoH n F (g G).toNat G ≠ G := hoH_ne F _ G n (by omega)
    have HAT : Hid (AT n (hoK G (hoH n F (g G).toNat G)) (hoR g G (hoH n F (g G).toNat G))) := ho_at (gaB_t eg) hG hHlt hHne
    have hK0 : hoK G (hoH n F (g G).toNat G) G = 0 := by unfold hoK; rw [if_pos rfl]
    have kI := fun w hR hX => iHand_in p x n c r K F g G w (by omega) hK1 hR hX eg hG e2
    have kS := fun w hR hX => sHand_in p x n c r K F g G w (by omega) hK1 hR hX eg hG e2
    generalize hoH n F (g G).toNat G = H at *
    have j0 : ((n : Int) == (n : Int)) = true := by simp
    clear e eg hHlt hHne
    go_wp2_with fail
    refine (kI _ hR hX).mono ?_
    rintro e3 w3 ⟨⟨a3, c3, rfl, hr3⟩, hb3⟩
    have hB3 := stepA hB1 hb3
    have hR3 := hR.below hb3
    have hX3 := hX.below hb3
    clear hb3 hR hX kI
    go_wp2_with fail
    refine (kS _ hR3 hX3).mono ?_
    rintro e4 w4 ⟨⟨a4, c4, rfl, -⟩, hb4⟩
    have hB4 := stepA hB3 hb4
    obtain ⟨Aa, Ca, hr4⟩ := (hr3.on hb4).rr
    clear hb4 hR3 hX3 kS hr3
    obtain ⟨b4, o4, rfl, l4, x4⟩ := ll_at1 hr4 hG
    rw [hK0] at x4
    go_wp2_with fail
    refine (all_any _ n c3 Aa _ Ca _ _ (by omega) HAT.out hr4).mono ?_
    rintro e5 w5 ⟨rfl, hb5⟩
    have hB5 := stepA hB4 hb5
    clear x4
    go_wp2
    go_ret
    exact ⟨rfl, hB5⟩
theorem handAll (A : Option Addr) (len cap : Nat) (w : World) (hb : BL w A len) :
    Calls Try.prog 4 #[.slice A len cap] w fun e w' => e = .returned (.bool true) ∧ Below w.heap.size w w' := by
  by_cases h : len ≤ 1048576
  · exact handFn A len cap w h (drawHand A len cap w h hb)
  · have h1 : (1048576 : Int) < (len : Int) := by omega
    go_enter Try.func4, Try.ntmps4
    go_wp2
    go_ret
    exact ⟨rfl, Below.refl _ _⟩
end Go.Proofs.Ytjmdghkhapajiaa
