/- One text among those of a list, as the library looks for it. -/
import Derived.Test.YtmlfijapndkfhaaDoorWhSl
namespace Go.Proofs.YtmlfijapndkfhaaDoor
open Go.RowKit
set_option maxHeartbeats 2000000 in
theorem iIndexS (a : Option Addr) (n c : Nat) (S : Nat → ByteArray) (s : ByteArray) (w : World) (hn : n ≤ 1048576) (ha : SL w a n S) :
    Calls Tryd.prog 77 #[.slice a n c, .string s] w fun e w' => (∃ z : Int, e = .returned (.int .i64 z) ∧ inS S s n = decide (0 ≤ z)) ∧ w' = w := by
  go_enter Tryd.func77, Tryd.ntmps77
  go_wp2
  go_loopw [8] (fun i wr => ∃ k : Nat, k ≤ n ∧ i = .int .i64 (k : Int) ∧ Hid (inS S s k = false) ∧ wr = w) (fun i _ => n - (intOf i).toNat)
  case atStart => exact ⟨0, Nat.zero_le _, rfl, (rfl : inS S s 0 = false), rfl⟩
  case round =>
    obtain ⟨k, hk, rfl, HE, hw⟩ := hrel
    have hw' := hw.symm
    clear hw
    subst hw'
    by_cases hlt : k < n
    · obtain ⟨b1, o1, rfl, l1, hc1⟩ := ha (by omega)
      have y1 := hc1 k hlt
      have j0 : (0 : Int) ≤ (k : Int) := by omega
      have j1 : (k : Int) < (n : Int) := by omega
      clear hc1 ha
      have HT : Hid ((s.toList == (S k).toList) = true → inS S s n = true) := fun h => inS_iff.mpr ⟨k, hlt, by rw [bl_eq] at h; exact (of_decide_eq_true h).symm⟩
      have HF : Hid ((s.toList == (S k).toList) = false → inS S s (k + 1) = false) := fun h => by
        unfold inS; rw [HE.out, decide_eq_false (fun e => by rw [e] at h; simp at h)]; rfl
      go_wp2
      · rename_i h9
        go_ret
        exact ⟨⟨(k : Int), rfl, by rw [HT.out h9]; simp⟩, rfl⟩
      · rename_i h9
        exact ⟨⟨k + 1, by omega, by go_num, HF.out h9, trivial⟩, by simp [intOf]; omega⟩
    · have : k = n := by omega
      subst this
      go_wp2
      go_ret
      exact ⟨⟨-1, rfl, by rw [HE.out]; rfl⟩, rfl⟩
set_option maxHeartbeats 2000000 in
theorem iContS (a : Option Addr) (n c : Nat) (S : Nat → ByteArray) (s : ByteArray) (w : World) (hn : n ≤ 1048576) (ha : SL w a n S) :
    Calls Tryd.prog 59 #[.slice a n c, .string s] w fun e w' => e = .returned (.bool (inS S s n)) ∧ w' = w := by
  have k := iIndexS a n c S s w hn ha
  generalize inS S s n = B at *
  go_enter Tryd.func59, Tryd.ntmps59
  go_wp2_with fail
  refine k.mono ?_
  rintro e w2 ⟨⟨z, rfl, hz⟩, hw2⟩
  have hs2 := hw2.symm
  clear hw2 k
  subst hs2 hz
  go_wp2
  go_ret
  exact ⟨rfl, rfl⟩
end Go.Proofs.YtmlfijapndkfhaaDoor
