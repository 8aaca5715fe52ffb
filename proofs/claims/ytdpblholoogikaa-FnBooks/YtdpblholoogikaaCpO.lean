/- cmp.Compare and cmp.Or of ints. -/
import Derived.Test.YtdpblholoogikaaLqBase
namespace Go.Proofs.Ytdpblholoogikaa
open Go.RowKit
set_option maxHeartbeats 400000 in
theorem isNaN_any (x : Int) (w : World) :
    Calls Try.prog 35 #[.int .i64 x] w fun e w' => e = .returned (.bool false) ∧ w' = w := by
  go_enter Try.func35, Try.ntmps35
  go_wp2
  go_ret
  exact ⟨rfl, rfl⟩
def cmpI (x y : Int) : Int := if x < y then -1 else if y < x then 1 else 0
set_option maxHeartbeats 400000 in
theorem cmp_any (x y : Int) (w : World) :
    Calls Try.prog 31 #[.int .i64 x, .int .i64 y] w fun e w' => e = .returned (.int .i64 (cmpI x y)) ∧ w' = w := by
  by_cases h0 : x < y
  · rw [show cmpI x y = -1 by simp [cmpI, h0]]
    go_enter Try.func31, Try.ntmps31
    go_wp2_with (go_at_call 35; refine (isNaN_any _ _).mono ?_; rintro e w' ⟨rfl, hw'⟩; have hs := hw'.symm; clear hw'; subst hs)
    go_ret
    exact ⟨rfl, rfl⟩
  · by_cases h1 : y < x
    · rw [show cmpI x y = 1 by unfold cmpI; rw [if_neg (by omega), if_pos (by omega)]]
      go_enter Try.func31, Try.ntmps31
      go_wp2_with (go_at_call 35; refine (isNaN_any _ _).mono ?_; rintro e w' ⟨rfl, hw'⟩; have hs := hw'.symm; clear hw'; subst hs)
      go_ret
      exact ⟨rfl, rfl⟩
    · rw [show cmpI x y = 0 by unfold cmpI; rw [if_neg (by omega), if_neg (by omega)]]
      go_enter Try.func31, Try.ntmps31
      go_wp2_with (go_at_call 35; refine (isNaN_any _ _).mono ?_; rintro e w' ⟨rfl, hw'⟩; have hs := hw'.symm; clear hw'; subst hs)
      go_ret
      exact ⟨rfl, rfl⟩
/-- the first of two that is not 0 -/
def orI (x y : Int) : Int := if x = 0 then y else x
set_option maxHeartbeats 1000000 in
theorem or_two (x y : Int) (g : Nat) (w : World) (h0 : w.cell? ⟨g, 0, none⟩ = some (.int .i64 x)) (h1 : w.cell? ⟨g, 1, none⟩ = some (.int .i64 y)) :
    Calls Try.prog 30 #[.slice (some ⟨g, 0, none⟩) 2 2] w fun e w' => e = .returned (.int .i64 (orI x y)) ∧ w' = w := by
  have HA : Hid (¬ x = 0 → orI x y = x) := fun h => if_neg h
  have HB : Hid (x = 0 → orI x y = y) := fun h => if_pos h
  generalize orI x y = V at *
  go_enter Try.func30, Try.ntmps30
  go_wp2_with fail
  go_loop [5, 8] (fun _ i => ∃ k : Nat, k ≤ 2 ∧ i = .int .i64 k ∧ Hid (1 ≤ k → x = 0) ∧ Hid (2 ≤ k → y = 0)) (fun _ i => 2 - (intOf i).toNat)
  case atStart => exact ⟨0, Nat.zero_le _, rfl, fun h => by omega, fun h => by omega⟩
  case round =>
    obtain ⟨k, hk, rfl, H1, H2⟩ := hrel
    have hk3 : k = 0 ∨ k = 1 ∨ k = 2 := by omega
    rcases hk3 with rfl | rfl | rfl
    · by_cases hx : x = 0
      · have jx : (x != 0) = false := by simp [hx]
        have HX : Hid (x = 0) := hx
        clear hx H1 H2
        go_wp2
        go_round
        case rel => exact ⟨1, by omega, by go_num, fun _ => HX.out, fun h => by omega⟩
        case measure => simp [intOf]
      · have jx : (x != 0) = true := by simp [hx]
        obtain rfl := HA.out hx
        clear hx H1 H2 HA HB
        go_wp2
        go_ret
        exact ⟨rfl, rfl⟩
    · obtain rfl := HB.out (H1.out (by omega))
      have HX : Hid (x = 0) := H1.out (by omega)
      by_cases hy : V = 0
      · have jx : (V != 0) = false := by simp [hy]
        have HY : Hid (V = 0) := hy
        clear hy H1 H2 HA HB
        go_wp2
        go_round
        case rel => exact ⟨2, by omega, by go_num, fun _ => HX.out, fun _ => HY.out⟩
        case measure => simp [intOf]
      · have jx : (V != 0) = true := by simp [hy]
        clear hy H1 H2 HA HB
        go_wp2
        go_ret
        exact ⟨rfl, rfl⟩
    · obtain rfl : V = 0 := (HB.out (H1.out (by omega))).trans (H2.out (by omega))
      clear H1 H2 HA HB
      go_wp2
      go_ret
      exact ⟨rfl, rfl⟩
end Go.Proofs.Ytdpblholoogikaa
