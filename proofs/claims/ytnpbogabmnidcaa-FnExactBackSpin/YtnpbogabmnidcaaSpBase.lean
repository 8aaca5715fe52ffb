/- Spins: what is good, as both say it. -/
import Derived.Test.YtnpbogabmnidcaaRows
import Derived.WalkKit
import Derived.Deep.QuietTactic
import Derived.BigQuiet
import Derived.Deep.RegionHeld3
import Derived.Below
import Derived.Handy
import Derived.Laws.ResultCell
namespace Go.Proofs.Ytnpbogabmnidcaa
open Go.RowKit

/-- a spin, or a quaternion, as a value -/
abbrev sp (a b c d : Int) : Value := .agg #[.int .i64 a, .int .i64 b, .int .i64 c, .int .i64 d]

def inB (n : Int) : Bool := decide (-1000000 ≤ n) && decide (n ≤ 1000000)
def fitB (a b c d : Int) : Bool := inB a && inB b && inB c && inB d
def noughtB (a b c d : Int) : Bool := decide (a = 0) && decide (b = 0) && decide (c = 0) && decide (d = 0)
def goodS (a b c d : Int) : Bool := fitB a b c d && !noughtB a b c d

theorem below_dr {B : Nat} {a w : World} (h : Below B a w) (n : Nat) : Below B a (w.drewN n) := ⟨h.os, h.tape, h.output, h.size, h.block⟩
theorem ret_bool {a b : Bool} (h : a = b) : Ending.returned (.bool a) = .returned (.bool b) := by rw [h]

set_option maxHeartbeats 400000 in
theorem l4In_any (n : Int) (w : World) :
    Calls Try.prog 17 #[.int .i64 n] w fun e w' => e = .returned (.bool (inB n)) ∧ w' = w := by
  by_cases h0 : -1000000 ≤ n
  · by_cases h1 : n ≤ 1000000
    · go_enter Try.func17, Try.ntmps17
      go_wp2
      go_ret
      exact ⟨ret_bool (by simp [inB, h0, h1]), rfl⟩
    · go_enter Try.func17, Try.ntmps17
      go_wp2
      go_ret
      exact ⟨ret_bool (by simp [inB, h0, h1]), rfl⟩
  · go_enter Try.func17, Try.ntmps17
    go_wp2
    go_ret
    exact ⟨ret_bool (by unfold inB; rw [decide_eq_false (by omega)]; rfl), rfl⟩

set_option maxHeartbeats 400000 in
theorem toSpin_any (a b c d : Int) (w : World) :
    Calls Try.prog 8 #[sp a b c d] w fun e w' => e = .returned (sp a b c d) ∧ Below w.heap.size w w' := by
  go_enter Try.func8, Try.ntmps8
  go_wp2
  go_returns
  refine ⟨rfl, ?_⟩
  repeat' (first | exact Below.refl _ _ | refine below_dr ?_ _ | refine Below.alloc ?_ (by simp <;> omega) _ | refine Below.setCell ?_ (by simp <;> omega) _)

set_option maxHeartbeats 400000 in
theorem eqSpin_any (a b c d : Int) (w : World) :
    Calls Try.prog 12 #[sp a b c d, sp a b c d] w fun e w' => e = .returned (.bool true) ∧ Below w.heap.size w w' := by
  go_enter Try.func12, Try.ntmps12
  go_wp2
  go_returns
  refine ⟨rfl, ?_⟩
  repeat' (first | exact Below.refl _ _ | refine below_dr ?_ _ | refine Below.alloc ?_ (by simp <;> omega) _ | refine Below.setCell ?_ (by simp <;> omega) _)

set_option maxHeartbeats 1000000 in
theorem specGood_any (a b c d : Int) (w : World) :
    Calls Try.prog 7 #[sp a b c d] w fun e w' => e = .returned (.bool (goodS a b c d)) ∧ Below w.heap.size w w' := by
  cases ha : inB a
  · go_enter Try.func7, Try.ntmps7
    go_wp2_with (first | (go_at_call_of 17 a; refine (l4In_any a _).mono ?_; rw [ha]; rintro e w' ⟨rfl, hw'⟩; have hs := hw'.symm; clear hw'; subst hs) | (go_at_call_of 17 b; refine (l4In_any b _).mono ?_; rw [hb]; rintro e w' ⟨rfl, hw'⟩; have hs := hw'.symm; clear hw'; subst hs) | (go_at_call_of 17 c; refine (l4In_any c _).mono ?_; rw [hc]; rintro e w' ⟨rfl, hw'⟩; have hs := hw'.symm; clear hw'; subst hs) | (go_at_call_of 17 d; refine (l4In_any d _).mono ?_; rw [hd]; rintro e w' ⟨rfl, hw'⟩; have hs := hw'.symm; clear hw'; subst hs))
    go_ret
    refine ⟨ret_bool (by simp_all [goodS, fitB, noughtB]), ?_⟩
    repeat' (first | exact Below.refl _ _ | refine below_dr ?_ _ | refine Below.alloc ?_ (by simp <;> omega) _ | refine Below.setCell ?_ (by simp <;> omega) _)
  cases hb : inB b
  · go_enter Try.func7, Try.ntmps7
    go_wp2_with (first | (go_at_call_of 17 a; refine (l4In_any a _).mono ?_; rw [ha]; rintro e w' ⟨rfl, hw'⟩; have hs := hw'.symm; clear hw'; subst hs) | (go_at_call_of 17 b; refine (l4In_any b _).mono ?_; rw [hb]; rintro e w' ⟨rfl, hw'⟩; have hs := hw'.symm; clear hw'; subst hs) | (go_at_call_of 17 c; refine (l4In_any c _).mono ?_; rw [hc]; rintro e w' ⟨rfl, hw'⟩; have hs := hw'.symm; clear hw'; subst hs) | (go_at_call_of 17 d; refine (l4In_any d _).mono ?_; rw [hd]; rintro e w' ⟨rfl, hw'⟩; have hs := hw'.symm; clear hw'; subst hs))
    go_ret
    refine ⟨ret_bool (by simp_all [goodS, fitB, noughtB]), ?_⟩
    repeat' (first | exact Below.refl _ _ | refine below_dr ?_ _ | refine Below.alloc ?_ (by simp <;> omega) _ | refine Below.setCell ?_ (by simp <;> omega) _)
  cases hc : inB c
  · go_enter Try.func7, Try.ntmps7
    go_wp2_with (first | (go_at_call_of 17 a; refine (l4In_any a _).mono ?_; rw [ha]; rintro e w' ⟨rfl, hw'⟩; have hs := hw'.symm; clear hw'; subst hs) | (go_at_call_of 17 b; refine (l4In_any b _).mono ?_; rw [hb]; rintro e w' ⟨rfl, hw'⟩; have hs := hw'.symm; clear hw'; subst hs) | (go_at_call_of 17 c; refine (l4In_any c _).mono ?_; rw [hc]; rintro e w' ⟨rfl, hw'⟩; have hs := hw'.symm; clear hw'; subst hs) | (go_at_call_of 17 d; refine (l4In_any d _).mono ?_; rw [hd]; rintro e w' ⟨rfl, hw'⟩; have hs := hw'.symm; clear hw'; subst hs))
    go_ret
    refine ⟨ret_bool (by simp_all [goodS, fitB, noughtB]), ?_⟩
    repeat' (first | exact Below.refl _ _ | refine below_dr ?_ _ | refine Below.alloc ?_ (by simp <;> omega) _ | refine Below.setCell ?_ (by simp <;> omega) _)
  cases hd : inB d
  · go_enter Try.func7, Try.ntmps7
    go_wp2_with (first | (go_at_call_of 17 a; refine (l4In_any a _).mono ?_; rw [ha]; rintro e w' ⟨rfl, hw'⟩; have hs := hw'.symm; clear hw'; subst hs) | (go_at_call_of 17 b; refine (l4In_any b _).mono ?_; rw [hb]; rintro e w' ⟨rfl, hw'⟩; have hs := hw'.symm; clear hw'; subst hs) | (go_at_call_of 17 c; refine (l4In_any c _).mono ?_; rw [hc]; rintro e w' ⟨rfl, hw'⟩; have hs := hw'.symm; clear hw'; subst hs) | (go_at_call_of 17 d; refine (l4In_any d _).mono ?_; rw [hd]; rintro e w' ⟨rfl, hw'⟩; have hs := hw'.symm; clear hw'; subst hs))
    go_ret
    refine ⟨ret_bool (by simp_all [goodS, fitB, noughtB]), ?_⟩
    repeat' (first | exact Below.refl _ _ | refine below_dr ?_ _ | refine Below.alloc ?_ (by simp <;> omega) _ | refine Below.setCell ?_ (by simp <;> omega) _)
  cases za : (a != 0)
  · cases zb : (b != 0)
    · cases zc : (c != 0)
      · cases zd : (d != 0)
        · go_enter Try.func7, Try.ntmps7
          go_wp2_with (first | (go_at_call_of 17 a; refine (l4In_any a _).mono ?_; rw [ha]; rintro e w' ⟨rfl, hw'⟩; have hs := hw'.symm; clear hw'; subst hs) | (go_at_call_of 17 b; refine (l4In_any b _).mono ?_; rw [hb]; rintro e w' ⟨rfl, hw'⟩; have hs := hw'.symm; clear hw'; subst hs) | (go_at_call_of 17 c; refine (l4In_any c _).mono ?_; rw [hc]; rintro e w' ⟨rfl, hw'⟩; have hs := hw'.symm; clear hw'; subst hs) | (go_at_call_of 17 d; refine (l4In_any d _).mono ?_; rw [hd]; rintro e w' ⟨rfl, hw'⟩; have hs := hw'.symm; clear hw'; subst hs))
          go_ret
          refine ⟨ret_bool (by simp_all [goodS, fitB, noughtB]), ?_⟩
          repeat' (first | exact Below.refl _ _ | refine below_dr ?_ _ | refine Below.alloc ?_ (by simp <;> omega) _ | refine Below.setCell ?_ (by simp <;> omega) _)
        · go_enter Try.func7, Try.ntmps7
          go_wp2_with (first | (go_at_call_of 17 a; refine (l4In_any a _).mono ?_; rw [ha]; rintro e w' ⟨rfl, hw'⟩; have hs := hw'.symm; clear hw'; subst hs) | (go_at_call_of 17 b; refine (l4In_any b _).mono ?_; rw [hb]; rintro e w' ⟨rfl, hw'⟩; have hs := hw'.symm; clear hw'; subst hs) | (go_at_call_of 17 c; refine (l4In_any c _).mono ?_; rw [hc]; rintro e w' ⟨rfl, hw'⟩; have hs := hw'.symm; clear hw'; subst hs) | (go_at_call_of 17 d; refine (l4In_any d _).mono ?_; rw [hd]; rintro e w' ⟨rfl, hw'⟩; have hs := hw'.symm; clear hw'; subst hs))
          go_ret
          refine ⟨ret_bool (by simp_all [goodS, fitB, noughtB]), ?_⟩
          repeat' (first | exact Below.refl _ _ | refine below_dr ?_ _ | refine Below.alloc ?_ (by simp <;> omega) _ | refine Below.setCell ?_ (by simp <;> omega) _)
      · go_enter Try.func7, Try.ntmps7
        go_wp2_with (first | (go_at_call_of 17 a; refine (l4In_any a _).mono ?_; rw [ha]; rintro e w' ⟨rfl, hw'⟩; have hs := hw'.symm; clear hw'; subst hs) | (go_at_call_of 17 b; refine (l4In_any b _).mono ?_; rw [hb]; rintro e w' ⟨rfl, hw'⟩; have hs := hw'.symm; clear hw'; subst hs) | (go_at_call_of 17 c; refine (l4In_any c _).mono ?_; rw [hc]; rintro e w' ⟨rfl, hw'⟩; have hs := hw'.symm; clear hw'; subst hs) | (go_at_call_of 17 d; refine (l4In_any d _).mono ?_; rw [hd]; rintro e w' ⟨rfl, hw'⟩; have hs := hw'.symm; clear hw'; subst hs))
        go_ret
        refine ⟨ret_bool (by simp_all [goodS, fitB, noughtB]), ?_⟩
        repeat' (first | exact Below.refl _ _ | refine below_dr ?_ _ | refine Below.alloc ?_ (by simp <;> omega) _ | refine Below.setCell ?_ (by simp <;> omega) _)
    · go_enter Try.func7, Try.ntmps7
      go_wp2_with (first | (go_at_call_of 17 a; refine (l4In_any a _).mono ?_; rw [ha]; rintro e w' ⟨rfl, hw'⟩; have hs := hw'.symm; clear hw'; subst hs) | (go_at_call_of 17 b; refine (l4In_any b _).mono ?_; rw [hb]; rintro e w' ⟨rfl, hw'⟩; have hs := hw'.symm; clear hw'; subst hs) | (go_at_call_of 17 c; refine (l4In_any c _).mono ?_; rw [hc]; rintro e w' ⟨rfl, hw'⟩; have hs := hw'.symm; clear hw'; subst hs) | (go_at_call_of 17 d; refine (l4In_any d _).mono ?_; rw [hd]; rintro e w' ⟨rfl, hw'⟩; have hs := hw'.symm; clear hw'; subst hs))
      go_ret
      refine ⟨ret_bool (by simp_all [goodS, fitB, noughtB]), ?_⟩
      repeat' (first | exact Below.refl _ _ | refine below_dr ?_ _ | refine Below.alloc ?_ (by simp <;> omega) _ | refine Below.setCell ?_ (by simp <;> omega) _)
  · go_enter Try.func7, Try.ntmps7
    go_wp2_with (first | (go_at_call_of 17 a; refine (l4In_any a _).mono ?_; rw [ha]; rintro e w' ⟨rfl, hw'⟩; have hs := hw'.symm; clear hw'; subst hs) | (go_at_call_of 17 b; refine (l4In_any b _).mono ?_; rw [hb]; rintro e w' ⟨rfl, hw'⟩; have hs := hw'.symm; clear hw'; subst hs) | (go_at_call_of 17 c; refine (l4In_any c _).mono ?_; rw [hc]; rintro e w' ⟨rfl, hw'⟩; have hs := hw'.symm; clear hw'; subst hs) | (go_at_call_of 17 d; refine (l4In_any d _).mono ?_; rw [hd]; rintro e w' ⟨rfl, hw'⟩; have hs := hw'.symm; clear hw'; subst hs))
    go_ret
    refine ⟨ret_bool (by simp_all [goodS, fitB, noughtB]), ?_⟩
    repeat' (first | exact Below.refl _ _ | refine below_dr ?_ _ | refine Below.alloc ?_ (by simp <;> omega) _ | refine Below.setCell ?_ (by simp <;> omega) _)
end Go.Proofs.Ytnpbogabmnidcaa
