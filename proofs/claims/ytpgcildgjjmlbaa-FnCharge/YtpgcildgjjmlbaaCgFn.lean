/- The law FnCharge, walked. -/
import Derived.Test.YtpgcildgjjmlbaaCgDr
import Derived.Test.YtpgcildgjjmlbaaCgFine
import Derived.Test.YtpgcildgjjmlbaaCgPlI
import Derived.Test.YtpgcildgjjmlbaaCgPlS
import Derived.Test.YtpgcildgjjmlbaaByOpen
namespace Go.Proofs.Ytpgcildgjjmlbaa
open Go.RowKit
set_option maxHeartbeats 8000000 in
set_option maxRecDepth 20000 in
theorem chargeFn (A : Option Addr) (len cap : Nat) (w : World) (hl : len ≤ 1048576) (hD : Calls Try.prog 5 #[.slice A len cap] w fun e w' => AnsDc w w' e) :
    Calls Try.prog 3 #[.slice A len cap] w fun e w' => e = .returned (.bool true) ∧ Below w.heap.size w w' := by
  go_enter Try.func3, Try.ntmps3
  go_wp2_with fail
  refine hD.mono ?_
  rintro e w1 ⟨c, t, rfl, hB1⟩
  clear hD
  have hZ := bx_new (w := w1) (cgs c) 24 rfl
  have hb2 : Below w1.heap.size w1 (w1.alloc (.cells (cgs c).toArray 24)) := (Below.refl _ _).alloc (Nat.le_refl _) _
  have hB2 := stepA hB1 hb2
  obtain ⟨x0, x1, x2, x3⟩ := charge_at hZ
  cases e : okC c t with
  | false =>
    go_wp2_with fail
    refine (iPlan_no c t _ e).mono ?_
    rintro e3 w3 ⟨⟨a3, c3, rfl, hv3⟩, hb3⟩
    obtain ⟨y0, y1, y2, y3⟩ := charge_at (hZ.on hb3)
    have hB3 := stepA hB2 hb3
    clear x0 x1 x2 x3 hv3
    go_wp2_with fail
    refine (sPlan_no c t _ e).mono ?_
    rintro e4 w4 ⟨⟨a4, c4, rfl, hv4⟩, hb4⟩
    have hB4 := stepA hB3 hb4
    clear y0 y1 y2 y3 hv4
    go_wp2
    go_ret
    exact ⟨rfl, hB4⟩
  | true =>
    have h1 : goodC c = true := by unfold okC at e; simp at e; exact e.1
    have h2 : 0 ≤ t ∧ t ≤ 200 := by unfold okC at e; simp at e; exact e.2
    obtain ⟨n, rfl⟩ : ∃ n : Nat, t = (n : Int) := ⟨t.toNat, by omega⟩
    have hn : n ≤ 200 := by omega
    clear e h2
    go_wp2_with fail
    refine (iPlan_in c n _ h1 hn).mono ?_
    rintro e3 w3 ⟨⟨a3, c3, rfl, hv3⟩, hb3⟩
    have hZ3 := hZ.on hb3
    obtain ⟨y0, y1, y2, y3⟩ := charge_at hZ3
    have hB3 := stepA hB2 hb3
    clear x0 x1 x2 x3
    go_wp2_with fail
    refine (sPlan_in c n _ h1 hn).mono ?_
    rintro e4 w4 ⟨⟨a4, c4, rfl, hv4⟩, hb4⟩
    have hB4 := stepA hB3 hb4
    obtain ⟨z0, z1, z2, z3⟩ := charge_at (hZ3.on hb4)
    have hv5 := hv3.on hb4
    have j0 : ((n : Int) == (n : Int)) = true := by simp
    clear y0 y1 y2 y3 hv4 hv3
    go_wp2_with fail
    refine (fine_any c n a3 c3 _ _ _ h1 hn hv5).mono ?_
    rintro e5 w5 ⟨rfl, hb5⟩
    have hB5 := stepA hB4 hb5
    clear z0 z1 z2 z3
    go_wp2
    go_ret
    exact ⟨rfl, hB5⟩
theorem chargeAll (A : Option Addr) (len cap : Nat) (w : World) (hb : BL w A len) :
    Calls Try.prog 3 #[.slice A len cap] w fun e w' => e = .returned (.bool true) ∧ Below w.heap.size w w' := by
  by_cases h : len ≤ 1048576
  · exact chargeFn A len cap w h (drawCharge A len cap w h hb)
  · have j : (1048576 : Int) < (len : Int) := by omega
    go_enter Try.func3, Try.ntmps3
    go_wp2
    go_ret
    exact ⟨rfl, Below.refl _ _⟩
end Go.Proofs.Ytpgcildgjjmlbaa
