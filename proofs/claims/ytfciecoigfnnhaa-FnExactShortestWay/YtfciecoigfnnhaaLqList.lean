/- The law's own functions on such lists: copies, marks, sizes. -/
import Derived.Test.YtfciecoigfnnhaaLqBase
import Derived.Test.YtfciecoigfnnhaaInList
namespace Go.Proofs.Ytfciecoigfnnhaa
open Go.RowKit

theorem copyQ (a : Option Addr) (len cap : Nat) (f : Nat → Int) (w : World) (hl : len ≤ 1048576) (hc : IL w a len f) :
    Calls Try.prog 31 #[.slice a len cap] w fun e w' => e = .returned (.slice (some ⟨w.heap.size, 0, none⟩) len len) ∧ LQ w' w.heap.size (w.heap.size + 1) (some ⟨w.heap.size, 0, none⟩) len f ∧ w.heap.size < w'.heap.size ∧ Below w.heap.size w w' :=
  (copyI_any a len cap f w hl hc).mono fun e w' ⟨v, h1, h2, h3, h4⟩ => ⟨by rw [h1, h2], lq_of (row_ip h3) (Nat.le_refl _) (Nat.lt_succ_self _), h3.lt, h4⟩
theorem markQ (a : Option Addr) (n cap m lo hi : Nat) (F : Nat → Int) (w : World) (hn : n ≤ 1048576) (hm : m ≤ 1048576 * 4) (h : LQ w lo hi a n F) :
    Calls Try.prog 71 #[.slice a n cap, .int .i64 (m : Int)] w fun e w' => e = .returned (.int .i64 ((m : Int) + (n : Int))) ∧ LQ w' lo hi a n (fun i => (m : Int) + (i : Int)) ∧ OnlyIn lo hi w w' := by
  by_cases h0 : 0 < n
  · obtain ⟨b, rfl, h1, h2, hP⟩ := h h0
    exact (markP_any b n cap m F w hn hm hP).mono fun e w' ⟨h3, h4, h5⟩ => ⟨h3, lq_of h4 h1 h2, OnlyIn.of h5 h1 h2⟩
  · have : n = 0 := by omega
    subst this
    refine (markI_zero a cap m w).mono fun e w' ⟨h3, h4⟩ => ?_
    subst h4
    exact ⟨by rw [h3]; simp, lq_none _ _ _ _ _, OnlyIn.refl _ _ _⟩
theorem heldQ (a : Option Addr) (n cap m lo hi : Nat) (w : World) (hn : n ≤ 1048576) (hm : m ≤ 1048576 * 4) (h : LQ w lo hi a n (fun i => (m : Int) + (i : Int))) :
    Calls Try.prog 72 #[.slice a n cap, .int .i64 (m : Int)] w fun e w' => e = .returned (.int .i64 ((m : Int) + (n : Int))) ∧ w' = w := by
  by_cases h0 : 0 < n
  · obtain ⟨b, rfl, h1, h2, hP⟩ := h h0
    exact heldP_any b n cap m w hn hm hP
  · have : n = 0 := by omega
    subst this
    exact (heldI_zero a cap m w).mono fun e w' ⟨h3, h4⟩ => ⟨by rw [h3]; simp, h4⟩

theorem markT (a : Option Addr) (n cap m lo hi : Nat) (F : Nat → Int) (w : World) (hn : n ≤ 1048576) (hm : m ≤ 1048576 * 4) (h : LQ w lo hi a n F) :
    Calls Try.prog 71 #[.slice a n cap, .int .i64 (m : Int)] w fun e w' => e = .returned (.int .i64 ((m : Int) + (n : Int))) ∧ LQ w' lo hi a n (fun i => (m : Int) + (i : Int)) ∧ Turns lo hi w w' :=
  (markQ a n cap m lo hi F w hn hm h).mono fun _ _ ⟨h1, h2, h3⟩ => ⟨h1, h2, h3.turns⟩
set_option maxHeartbeats 400000 in
theorem szI_in (a : Option Addr) (n c : Nat) (l : Int) (w : World) (h0 : (n : Int) ≤ l) (h1 : l ≤ 1048576) :
    Calls Try.prog 70 #[.slice a n c, .int .i64 l] w fun e w' => e = .returned (.int .i64 (l - (n : Int))) ∧ w' = w := by
  have j : ¬ l - (n : Int) < 0 := by omega
  go_enter Try.func70, Try.ntmps70
  go_wp2
  go_ret
  exact ⟨rfl, rfl⟩
set_option maxHeartbeats 400000 in
theorem szI_out (a : Option Addr) (n c : Nat) (l : Int) (w : World) (h0 : l < (n : Int)) (h1 : 0 ≤ l) (hm : n ≤ 9223372036854775807) :
    Calls Try.prog 70 #[.slice a n c, .int .i64 l] w fun e w' => e = .returned (.int .i64 (-1)) ∧ w' = w := by
  have j : l - (n : Int) < 0 := by omega
  go_enter Try.func70, Try.ntmps70
  go_wp2
  go_ret
  exact ⟨rfl, rfl⟩
end Go.Proofs.Ytfciecoigfnnhaa
