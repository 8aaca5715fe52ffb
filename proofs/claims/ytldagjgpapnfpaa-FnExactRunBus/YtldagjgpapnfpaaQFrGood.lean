/- Which ids are good. -/
import Derived.Test.YtldagjgpapnfpaaQInCore
import Derived.Test.YtldagjgpapnfpaaQFrBase
namespace Go.Proofs.Ytldagjgpapnfpaa
open Go.RowKit
def idB (x : Int) : Bool := decide (0 ≤ x) && decide (x ≤ 2047)
theorem idB_of {x : Int} (h : idB x = true) : 0 ≤ x ∧ x ≤ 2047 := by unfold idB at h; simpa using h
set_option maxHeartbeats 1000000 in
theorem goodId_any (x : Int) (w : World) : Calls Try.prog 71 #[.int .i64 x] w fun e w' => e = .returned (.bool (idB x)) ∧ w' = w := by
  unfold idB
  by_cases h0 : 0 ≤ x
  · by_cases h1 : x ≤ 2047
    · rw [decide_eq_true h0, decide_eq_true h1]
      go_enter Try.func71, Try.ntmps71
      go_wp2
      go_ret
      exact ⟨rfl, rfl⟩
    · rw [decide_eq_true h0, decide_eq_false h1]
      go_enter Try.func71, Try.ntmps71
      go_wp2
      go_ret
      exact ⟨rfl, rfl⟩
  · rw [decide_eq_false h0]
    go_enter Try.func71, Try.ntmps71
    go_wp2
    go_ret
    exact ⟨rfl, rfl⟩
end Go.Proofs.Ytldagjgpapnfpaa

/- A frame is good: both sides. -/
namespace Go.Proofs.Ytldagjgpapnfpaa
open Go.RowKit
def frB (W : Int) (n : Nat) : Bool := idB W && decide (n ≤ 8)
set_option maxHeartbeats 1000000 in
theorem sGoodF (W : Int) (a : Option Addr) (n c : Nat) (w : World) :
    Calls Try.prog 51 #[frv W a n c] w fun e w' => e = .returned (.bool (frB W n)) ∧ Below w.heap.size w w' := by
  have hb0 : Below w.heap.size w (w.alloc (frvO W a n c 54)) := (Below.refl _ _).alloc (Nat.le_refl _) _
  unfold frB idB
  by_cases h0 : 0 ≤ W
  · by_cases h1 : W ≤ 2047
    · by_cases h2 : n ≤ 8
      · have j : (n : Int) ≤ 8 := by omega
        rw [decide_eq_true h0, decide_eq_true h1, decide_eq_true h2]
        go_enter Try.func51, Try.ntmps51
        go_wp2
        go_ret
        exact ⟨rfl, hb0⟩
      · have j : ¬ (n : Int) ≤ 8 := by omega
        rw [decide_eq_true h0, decide_eq_true h1, decide_eq_false h2]
        go_enter Try.func51, Try.ntmps51
        go_wp2
        go_ret
        exact ⟨rfl, hb0⟩
    · rw [decide_eq_true h0, decide_eq_false h1]
      go_enter Try.func51, Try.ntmps51
      go_wp2
      go_ret
      exact ⟨rfl, hb0⟩
  · rw [decide_eq_false h0]
    go_enter Try.func51, Try.ntmps51
    go_wp2
    go_ret
    exact ⟨rfl, hb0⟩
set_option maxHeartbeats 1000000 in
theorem iGoodF (W : Int) (a : Option Addr) (n c : Nat) (w : World) :
    Calls Try.prog 57 #[frv W a n c] w fun e w' => e = .returned (.bool (frB W n)) ∧ Below w.heap.size w w' := by
  have hb0 : Below w.heap.size w (w.alloc (frvO W a n c 54)) := (Below.refl _ _).alloc (Nat.le_refl _) _
  have kG := fun w2 => goodId_any W w2
  unfold frB
  cases hq : idB W with
  | true =>
    rw [hq] at kG
    by_cases h2 : n ≤ 8
    · have j : (n : Int) ≤ 8 := by omega
      rw [decide_eq_true h2]
      go_enter Try.func57, Try.ntmps57
      go_wp2_with fail
      refine (kG _).mono ?_
      rintro e w2 ⟨rfl, hw2⟩
      have hs2 := hw2.symm
      clear hw2 kG
      subst hs2
      go_wp2
      go_ret
      exact ⟨rfl, hb0⟩
    · have j : decide ((n : Int) ≤ 8) = false := decide_eq_false (by omega)
      rw [decide_eq_false h2]
      go_enter Try.func57, Try.ntmps57
      go_wp2_with fail
      refine (kG _).mono ?_
      rintro e w2 ⟨rfl, hw2⟩
      have hs2 := hw2.symm
      clear hw2 kG
      subst hs2
      go_wp2
      go_ret
      exact ⟨rfl, hb0⟩
  | false =>
    rw [hq] at kG
    go_enter Try.func57, Try.ntmps57
    go_wp2_with fail
    refine (kG _).mono ?_
    rintro e w2 ⟨rfl, hw2⟩
    have hs2 := hw2.symm
    clear hw2 kG
    subst hs2
    go_wp2
    go_ret
    exact ⟨rfl, hb0⟩
end Go.Proofs.Ytldagjgpapnfpaa
