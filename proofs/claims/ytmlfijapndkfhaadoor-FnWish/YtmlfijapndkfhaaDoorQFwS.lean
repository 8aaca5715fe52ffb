/- Two lists of equal texts are the same (SameTexts; out of MoP). -/
import Derived.Test.YtmlfijapndkfhaaDoorQReEq
namespace Go.Proofs.YtmlfijapndkfhaaDoor
open Go.RowKit
set_option maxHeartbeats 2000000 in
theorem sSameL (a b : Option Addr) (n c d : Nat) (F : Nat → ByteArray) (w : World) (hn : n ≤ 1048576) (ha : SL w a n F) (hb : SL w b n F) :
    Calls Tryd.prog 25 #[.slice a n c, .slice b n d] w fun e w' => e = .returned (.bool true) ∧ Below w.heap.size w w' := by
  go_enter Tryd.func25, Tryd.ntmps25
  go_wp2
  go_loopw [13] (fun i wr => ∃ k : Nat, k ≤ n ∧ i = .int .i64 (k : Int) ∧ Below w.heap.size w wr) (fun i _ => n - (intOf i).toNat)
  case atStart => exact ⟨0, Nat.zero_le _, rfl, Below.refl _ _⟩
  case round =>
    obtain ⟨k, hk, rfl, hB⟩ := hrel
    by_cases hlt : k < n
    · obtain ⟨b1, o1, rfl, l1, hc1⟩ := (ha.below hB) (by omega)
      obtain ⟨b2, o2, rfl, l2, hc2⟩ := (hb.below hB) (by omega)
      have y1 := hc1 k hlt
      have y2 := hc2 k hlt
      have j0 : (0 : Int) ≤ (k : Int) := by omega
      have j1 : (k : Int) < (n : Int) := by omega
      have e1 := bl_same (F k)
      have e2 := bl_same' (F k)
      clear hc1 hc2
      generalize F k = X at *
      go_wp2_with fail
      go_quiet (fail)
      go_wp2
      exact ⟨⟨k + 1, by omega, by go_num, below_dr hB _⟩, by simp [intOf]; omega⟩
    · go_wp2
      go_ret
      exact ⟨rfl, hB⟩
set_option maxHeartbeats 1000000 in
theorem sTexts (a b : Option Addr) (n c d : Nat) (F : Nat → ByteArray) (w : World) (hn : n ≤ 1048576) (ha : SL w a n F) (hb : SL w b n F) :
    Calls Tryd.prog 9 #[.slice a n c, .slice b n d] w fun e w' => e = .returned (.bool true) ∧ Below w.heap.size w w' := by
  have k := sSameL a b n c d F w hn ha hb
  go_enter Tryd.func9, Tryd.ntmps9
  go_wp2_with fail
  refine k.mono ?_
  rintro e w2 ⟨rfl, hb2⟩
  go_wp2
  go_ret
  exact ⟨rfl, hb2⟩
end Go.Proofs.YtmlfijapndkfhaaDoor
