/- The law's own functions on such lists: copies, marks. -/
import Derived.Test.YtjmdghkhapajiabLqCopy
import Derived.Test.YtjmdghkhapajiabInList
namespace Go.Proofs.Ytjmdghkhapajiab
open Go.RowKit

theorem markQ (a : Option Addr) (n cap m lo hi : Nat) (F : Nat → Int) (w : World) (hn : n ≤ 1048576) (hm : m ≤ 1048576 * 16) (h : LQ w lo hi a n F) :
    Calls Try.prog 12 #[.slice a n cap, .int .i64 (m : Int)] w fun e w' => e = .returned (.int .i64 ((m : Int) + (n : Int))) ∧ LQ w' lo hi a n (fun i => (m : Int) + (i : Int)) ∧ OnlyIn lo hi w w' := by
  by_cases h0 : 0 < n
  · obtain ⟨b, rfl, h1, h2, hP⟩ := h h0
    exact (markP_any b n cap m F w hn hm hP).mono fun e w' ⟨h3, h4, h5⟩ => ⟨h3, lq_of h4 h1 h2, OnlyIn.of h5 h1 h2⟩
  · have : n = 0 := by omega
    subst this
    refine (markI_zero a cap m w).mono fun e w' ⟨h3, h4⟩ => ?_
    subst h4
    exact ⟨by rw [h3]; simp, lq_none _ _ _ _ _, OnlyIn.refl _ _ _⟩
theorem heldQ (a : Option Addr) (n cap m lo hi : Nat) (w : World) (hn : n ≤ 1048576) (hm : m ≤ 1048576 * 16) (h : LQ w lo hi a n (fun i => (m : Int) + (i : Int))) :
    Calls Try.prog 21 #[.slice a n cap, .int .i64 (m : Int)] w fun e w' => e = .returned (.int .i64 ((m : Int) + (n : Int))) ∧ w' = w := by
  by_cases h0 : 0 < n
  · obtain ⟨b, rfl, h1, h2, hP⟩ := h h0
    exact heldP_any b n cap m w hn hm hP
  · have : n = 0 := by omega
    subst this
    exact (heldI_zero a cap m w).mono fun e w' ⟨h3, h4⟩ => ⟨by rw [h3]; simp, h4⟩

theorem markT (a : Option Addr) (n cap m lo hi : Nat) (F : Nat → Int) (w : World) (hn : n ≤ 1048576) (hm : m ≤ 1048576 * 16) (h : LQ w lo hi a n F) :
    Calls Try.prog 12 #[.slice a n cap, .int .i64 (m : Int)] w fun e w' => e = .returned (.int .i64 ((m : Int) + (n : Int))) ∧ LQ w' lo hi a n (fun i => (m : Int) + (i : Int)) ∧ Turns lo hi w w' :=
  (markQ a n cap m lo hi F w hn hm h).mono fun _ _ ⟨h1, h2, h3⟩ => ⟨h1, h2, h3.turns⟩
theorem markZ (a : Option Addr) (n cap : Nat) (m : Int) (lo hi : Nat) (F : Nat → Int) (w : World) (hn : n ≤ 1048576) (h0 : 0 ≤ m) (hm : m ≤ 16777216) (h : LQ w lo hi a n F) :
    Calls Try.prog 12 #[.slice a n cap, .int .i64 m] w fun e w' => e = .returned (.int .i64 (m + (n : Int))) ∧ LQ w' lo hi a n (fun i => m + (i : Int)) ∧ Turns lo hi w w' := by
  obtain ⟨k, rfl⟩ : ∃ k : Nat, m = (k : Int) := ⟨m.toNat, by omega⟩
  exact markT a n cap k lo hi F w hn (by omega) h
theorem heldZ (a : Option Addr) (n cap : Nat) (m : Int) (lo hi : Nat) (w : World) (hn : n ≤ 1048576) (h0 : 0 ≤ m) (hm : m ≤ 16777216) (h : LQ w lo hi a n (fun i => m + (i : Int))) :
    Calls Try.prog 21 #[.slice a n cap, .int .i64 m] w fun e w' => e = .returned (.int .i64 (m + (n : Int))) ∧ w' = w := by
  obtain ⟨k, rfl⟩ : ∃ k : Nat, m = (k : Int) := ⟨m.toNat, by omega⟩
  exact heldQ a n cap k lo hi w hn (by omega) h
theorem lq_four {w : World} {lo hi : Nat} {a : Option Addr} {n : Nat} {F : Nat → Int} (h : LQ w lo hi a n F) {b : Nat} (hn : b < lo ∨ hi ≤ b) (x y z u : Value) : LQ ((((w.setCell ⟨b, 0, none⟩ x).setCell ⟨b, 1, none⟩ y).setCell ⟨b, 2, none⟩ z).setCell ⟨b, 3, none⟩ u) lo hi a n F :=
  lq_set (lq_set (lq_set (lq_set h x hn) y hn) z hn) u hn
end Go.Proofs.Ytjmdghkhapajiab
