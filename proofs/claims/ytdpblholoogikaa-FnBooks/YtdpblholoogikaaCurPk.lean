/- What the cursor draws: a number below another one, yes or no. -/
import Derived.Test.YtdpblholoogikaaCur
namespace Go.Proofs.Ytdpblholoogikaa
open Go.RowKit

theorem emod_le {x m : Int} (hx : 0 ≤ x) (hm : 0 < m) : x % m ≤ x := by
  have h := Int.emod_add_mul_ediv x m
  have h1 := Int.mul_nonneg (Int.le_of_lt hm) (Int.ediv_nonneg hx (Int.le_of_lt hm))
  omega
set_option maxHeartbeats 1000000 in
theorem pick_any (C : Nat) (a : Option Addr) (len cap n : Nat) (m : Int) (w : World) (h : Cur w C a len cap n) (hn : n ≤ 1000000) :
    Calls Try.prog 15 #[.pointer (some ⟨C, 0, none⟩), .int .i64 m] w fun e w' => ∃ (v : Int) (n' : Nat), e = .returned (.int .i64 v) ∧ 0 ≤ v ∧ (1 ≤ m → v < m) ∧ v ≤ 65535 ∧ n' ≤ n + 2 ∧ Cur w' C a len cap n' ∧ Only C w w' := by
  by_cases h1 : m ≤ 1
  · go_enter Try.func15, Try.ntmps15
    go_wp2
    go_ret
    exact ⟨0, n, rfl, by omega, by omega, by omega, by omega, h, Only.refl _ _⟩
  have hm0 : m ≠ 0 := by omega
  by_cases h2 : 200 < m
  · go_enter Try.func15, Try.ntmps15
    go_wp2_with fail
    refine (next_any C a len cap n w h (by omega)).mono ?_
    rintro e w1 ⟨x, rfl, hx, h1', hO1⟩
    clear h
    go_wp2_with fail
    refine (next_any C a len cap (n + 1) _ h1' (by omega)).mono ?_
    rintro e w2 ⟨y, rfl, hy, h2', hO2⟩
    clear h1'
    have hb : 0 ≤ (x * 256 + y) % m ∧ (x * 256 + y) % m < m ∧ (x * 256 + y) % m ≤ 65535 := by
      have := Int.emod_nonneg (x * 256 + y) hm0
      have := Int.emod_lt_of_pos (x * 256 + y) (show 0 < m by omega)
      have := emod_le (x := x * 256 + y) (m := m) (by omega) (by omega)
      omega
    go_wp2
    go_ret
    exact ⟨_, n + 1 + 1, rfl, hb.1, fun _ => hb.2.1, hb.2.2, by omega, h2', hO1.trans hO2⟩
  · go_enter Try.func15, Try.ntmps15
    go_wp2_with fail
    refine (next_any C a len cap n w h (by omega)).mono ?_
    rintro e w1 ⟨x, rfl, hx, h1', hO1⟩
    clear h
    have hb : 0 ≤ x % m ∧ x % m < m ∧ x % m ≤ 65535 := by
      have := Int.emod_nonneg x hm0
      have := Int.emod_lt_of_pos x (show 0 < m by omega)
      omega
    go_wp2
    go_ret
    exact ⟨_, n + 1, rfl, hb.1, fun _ => hb.2.1, hb.2.2, by omega, h1', hO1⟩

set_option maxHeartbeats 1000000 in
theorem one_any (C : Nat) (a : Option Addr) (len cap n : Nat) (m : Int) (w : World) (h : Cur w C a len cap n) (hn : n ≤ 1000000) :
    Calls Try.prog 16 #[.pointer (some ⟨C, 0, none⟩), .int .i64 m] w fun e w' => ∃ (q : Bool) (n' : Nat), e = .returned (.bool q) ∧ n' ≤ n + 2 ∧ Cur w' C a len cap n' ∧ Only C w w' := by
  go_enter Try.func16, Try.ntmps16
  go_wp2_with fail
  refine (pick_any C a len cap n m w h hn).mono ?_
  rintro e w1 ⟨x, n', rfl, -, -, -, hn', h', hO⟩
  clear h
  go_wp2
  go_ret
  exact ⟨_, n', rfl, hn', h', hO⟩

end Go.Proofs.Ytdpblholoogikaa
