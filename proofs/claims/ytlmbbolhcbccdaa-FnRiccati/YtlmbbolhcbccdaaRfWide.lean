/- What the cursor draws: any number, a number of any size. -/
import Derived.Test.YtlmbbolhcbccdaaCurPick
import Derived.Test.YtlmbbolhcbccdaaLqBase
import Derived.Deep.Cut
namespace Go.Proofs.Ytlmbbolhcbccdaa
open Go.RowKit

theorem on_turns {b : Nat} {w w' : World} (h : Only b w w') : Turns b (b + 1) w w' := (OnlyIn.of h (Nat.le_refl _) (Nat.lt_succ_self _)).turns
def AnsI (w w' : World) (e : Ending) (C : Nat) (a : Option Addr) (len cap n d : Nat) : Prop := ∃ (v : Int) (n' : Nat), e = .returned (.int .i64 v) ∧ n' ≤ n + d ∧ Cur w' C a len cap n' ∧ Turns C (C + 1) w w'

set_option maxHeartbeats 2000000 in
theorem wide_any (C : Nat) (a : Option Addr) (len cap n : Nat) (w : World) (h : Cur w C a len cap n) (hn : n ≤ 900000) :
    Calls Try.prog 38 #[.pointer (some ⟨C, 0, none⟩)] w fun e w' => AnsI w w' e C a len cap n 8 := by
  go_enter Try.func38, Try.ntmps38
  go_wp2
  go_loopw [3, 4] (fun y i wr => ∃ (k : Nat) (v : Int), k ≤ 8 ∧ i = .int .i64 (k : Int) ∧ y = .int .i64 v ∧ Cur wr C a len cap (n + k) ∧ Turns C (C + 1) w wr) (fun _ i _ => 8 - (intOf i).toNat)
  case atStart => exact ⟨0, 0, Nat.zero_le _, rfl, rfl, h, turns_of (Below.refl _ _)⟩
  case round =>
    obtain ⟨k, v, hk, rfl, rfl, hc, hT⟩ := hrel
    clear h
    by_cases hlt : k < 8
    · go_wp2_with fail
      refine (next_any C a len cap (n + k) wr hc (by omega)).mono ?_
      rintro e w1 ⟨x, rfl, hx, hc1, hO⟩
      have hT1 := hT.trans (on_turns hO)
      clear hc hT hO
      go_wp2
      go_roundw
      case rel => exact ⟨k + 1, _, by omega, by go_num, rfl, hc1, hT1⟩
      case measure => simp [intOf]; omega
    · have hke : k = 8 := by omega
      subst hke
      go_wp2
      go_ret
      exact ⟨_, _, rfl, by omega, hc, hT⟩
end Go.Proofs.Ytlmbbolhcbccdaa
