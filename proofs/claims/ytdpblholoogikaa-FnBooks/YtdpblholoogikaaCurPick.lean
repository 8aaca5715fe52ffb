/- What the cursor draws: one of some numbers. -/
import Derived.Test.YtdpblholoogikaaCurPk
namespace Go.Proofs.Ytdpblholoogikaa
open Go.RowKit
set_option maxHeartbeats 1000000 in
theorem among_any (C : Nat) (a : Option Addr) (len cap n : Nat) (L k c : Nat) (F : Nat → Int) (w : World) (h : Cur w C a len cap n) (hn : n ≤ 1000000) (hL : IP w L k F) (hne : L ≠ C) (hk : 1 ≤ k) (hk2 : k ≤ 1000) :
    Calls Try.prog 17 #[.pointer (some ⟨C, 0, none⟩), .slice (some ⟨L, 0, none⟩) k c] w fun e w' => ∃ (i n' : Nat), i < k ∧ e = .returned (.int .i64 (F i)) ∧ n' ≤ n + 2 ∧ Cur w' C a len cap n' ∧ Only C w w' := by
  go_enter Try.func17, Try.ntmps17
  go_wp2_with fail
  refine (pick_any C a len cap n (k : Int) w h hn).mono ?_
  rintro e w1 ⟨x, n', rfl, hx0, hx1, -, hn', h', hO⟩
  have hx2 := hx1 (by omega)
  obtain ⟨i, rfl⟩ := Int.eq_ofNat_of_zero_le hx0
  have hi : i < k := by omega
  have hc := (hL.only hO hne).c i hi
  clear h hx1 hL
  go_wp2
  go_ret
  exact ⟨i, n', hi, rfl, hn', h', hO⟩
end Go.Proofs.Ytdpblholoogikaa
