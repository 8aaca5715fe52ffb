/- What FnPlaces draws: a width and a height. -/
import Derived.Test.YtfciecoigfnnhaaCurPick
import Derived.Test.YtfciecoigfnnhaaLqBase
namespace Go.Proofs.Ytfciecoigfnnhaa
open Go.RowKit

theorem on_turns {C : Nat} {w w' : World} (h : Only C w w') : Turns C (C + 1) w w' := (OnlyIn.of h (Nat.le_refl _) (Nat.lt_succ_self _)).turns
theorem al_turns {C : Nat} (w : World) (o : Obj) : Turns C (C + 1) w (w.alloc o) := turns_of ((Below.refl _ _).alloc (Nat.le_refl _) o)
theorem own_turns {w w' : World} {base lo hi : Nat} {v : Value} {k : Nat} {F : Nat → Int} (h : Own w base v k F) (o : Turns lo hi w w') (hb : hi ≤ base) : Own w' base v k F := by
  obtain ⟨hl, h⟩ := h
  refine ⟨hl, ?_⟩
  rcases h with h | ⟨g, cap, cur, h1, h2, h3, h4⟩
  · exact .inl h
  · have hg : g < w.heap.size := (Array.getElem?_eq_some_iff.1 h3).1
    exact .inr ⟨g, cap, cur, h1, h2, (o.block g hg (by omega)).trans h3, h4⟩
/-- the answer: two numbers of 0 to 17 -/
def AnsE (w w' : World) (e : Ending) (C : Nat) (a : Option Addr) (len cap n : Nat) : Prop := ∃ (p q : Int) (n' : Nat), e = .returned (.tuple #[.int .i64 p, .int .i64 q]) ∧ 0 ≤ p ∧ p ≤ 17 ∧ 0 ≤ q ∧ q ≤ 17 ∧ n' ≤ n + 6 ∧ Cur w' C a len cap n' ∧ Turns C (C + 1) w w'
theorem lit4 (x y z u : Int) (i : Nat) (hx : 0 ≤ x ∧ x ≤ 17) (hy : 0 ≤ y ∧ y ≤ 17) (hz : 0 ≤ z ∧ z ≤ 17) (hu : 0 ≤ u ∧ u ≤ 17) : 0 ≤ [x, y, z, u].getD i 0 ∧ [x, y, z, u].getD i 0 ≤ 17 := by
  match i with
  | 0 => exact hx
  | 1 => exact hy
  | 2 => exact hz
  | 3 => exact hu
  | i + 4 => exact ⟨by simp, by simp⟩
set_option maxHeartbeats 4000000 in
theorem extent_any (C : Nat) (a : Option Addr) (len cap n : Nat) (w : World) (h : Cur w C a len cap n) (hn : n ≤ 900000) :
    Calls Try.prog 96 #[.pointer (some ⟨C, 0, none⟩)] w fun e w' => AnsE w w' e C a len cap n := by
  go_enter Try.func96, Try.ntmps96
  go_wp2_with fail
  refine (one_any C a len cap n _ _ h (by omega)).mono ?_
  rintro e w1 ⟨q, n1, rfl, hn1, hc1, hO1⟩
  have hB1 := on_turns hO1
  clear h hO1
  cases q with
  | true =>
    have hL := lit_ip w1 [16, 1, 17, 0] 3
    have hA := (Below.refl w1.heap.size w1).alloc (Nat.le_refl _) (.cells #[.int .i64 16, .int .i64 1, .int .i64 17, .int .i64 0] 3)
    have hcx := hc1.below hA hc1.lt
    have hBx := hB1.trans (turns_of hA)
    have hne : w1.heap.size ≠ C := Nat.ne_of_gt hc1.lt
    clear hA hc1 hB1
    go_wp2_with fail
    refine (among_any C a len cap _ _ 4 _ _ _ hcx (by omega) hL hne (by omega) (by omega)).mono ?_
    rintro e w2 ⟨y2, n2, -, rfl, hn2, hc2, hO2⟩
    have hB2 := hBx.trans (on_turns hO2)
    clear hcx hBx hO2 hL hne
    have hx2 := lit4 16 1 17 0 y2 (by omega) (by omega) (by omega) (by omega)
    generalize List.getD [16, 1, 17, 0] y2 (0 : Int) = p1 at hx2 ⊢
    have hL := lit_ip w2 [16, 1, 0, 17] 3
    have hA := (Below.refl w2.heap.size w2).alloc (Nat.le_refl _) (.cells #[.int .i64 16, .int .i64 1, .int .i64 0, .int .i64 17] 3)
    have hcx := hc2.below hA hc2.lt
    have hBx := hB2.trans (turns_of hA)
    have hne : w2.heap.size ≠ C := Nat.ne_of_gt hc2.lt
    clear hA hc2 hB2
    go_wp2_with fail
    refine (among_any C a len cap _ _ 4 _ _ _ hcx (by omega) hL hne (by omega) (by omega)).mono ?_
    rintro e w3 ⟨y3, n3, -, rfl, hn3, hc3, hO3⟩
    have hB3 := hBx.trans (on_turns hO3)
    clear hcx hBx hO3 hL hne
    have hx3 := lit4 16 1 0 17 y3 (by omega) (by omega) (by omega) (by omega)
    generalize List.getD [16, 1, 0, 17] y3 (0 : Int) = p2 at hx3 ⊢
    go_wp2
    go_ret2
    exact ⟨_, _, _, rfl, hx2.1, hx2.2, hx3.1, hx3.2, by omega, hc3, hB3⟩
  | false =>
    go_wp2_with fail
    refine (pick_any C a len cap _ 6 _ hc1 (by omega)).mono ?_
    rintro e w2 ⟨p2, n2, rfl, h20, h21, -, hn2, hc2, hO2⟩
    have h22 := h21 (by omega)
    have hB2 := hB1.trans (on_turns hO2)
    clear hc1 hB1 hO2 h21
    go_wp2_with fail
    refine (pick_any C a len cap _ 6 _ hc2 (by omega)).mono ?_
    rintro e w3 ⟨p3, n3, rfl, h30, h31, -, hn3, hc3, hO3⟩
    have h32 := h31 (by omega)
    have hB3 := hB2.trans (on_turns hO3)
    clear hc2 hB2 hO3 h31
    go_wp2
    go_ret2
    exact ⟨_, _, _, rfl, by omega, by omega, by omega, by omega, by omega, hc3, hB3⟩
end Go.Proofs.Ytfciecoigfnnhaa
