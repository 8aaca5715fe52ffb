/- Floats that the cursor draws. -/
import Derived.Test.YtlmbbolhcbccdaaRfSized
import Derived.Test.YtlmbbolhcbccdaaCoMath
import Derived.Test.YtlmbbolhcbccdaaFlPlain
namespace Go.Proofs.Ytlmbbolhcbccdaa
open Go.RowKit

theorem fr_lt {op : BinOp} {x y : Nat} {w : World} : fr op x y w < 18446744073709551616 := by
  unfold fr
  cases e : floatBits op .f64 x y with
  | none => exact (nanOf_nan x y w).2
  | some r => exact bits_lt e
theorem Cur.drewN {w : World} {C : Nat} {a : Option Addr} {len cap n : Nat} (h : Cur w C a len cap n) (m : Nat) : Cur (w.drewN m) C a len cap n := ⟨h.lt, h.code, h.at_, h.seed, h.f1, h.f2, h.bytes, h.small⟩
theorem Turns.drewN {lo hi : Nat} {w w' : World} (h : Turns lo hi w w') (m : Nat) : Turns lo hi w (w'.drewN m) := ⟨h.os, h.tape, h.output, h.size, h.block⟩
theorem ofInt_lt (n : Int) : floatOfInt .f64 n < 18446744073709551616 := by
  have h : (Lit.float .f64 (floatOfInt .f64 n)).wf = true := by
    first | exact floatOfInt_wf _ _ | (simp [Lit.wf, floatOfInt])
  simpa [Lit.wf] using h
def AnsF (w w' : World) (e : Ending) (C : Nat) (a : Option Addr) (len cap n d : Nat) : Prop := ∃ (v n' : Nat), e = .returned (.float .f64 v) ∧ n' ≤ n + d ∧ v < 18446744073709551616 ∧ Cur w' C a len cap n' ∧ Turns C (C + 1) w w'

set_option maxHeartbeats 4000000 in
theorem sound_any (C : Nat) (a : Option Addr) (len cap n : Nat) (w : World) (hc0 : Cur w C a len cap n) (hn : n ≤ 700000) :
    Calls Try.prog 20 #[.pointer (some ⟨C, 0, none⟩)] w fun e w' => AnsF w w' e C a len cap n 30 := by
  have hT0 : Turns C (C + 1) w w := turns_of (Below.refl _ _)
  have hquo := fun v y w => run_fl (P := Try.prog) .quo (by simp) 23 v y w
  go_enter Try.func20, Try.ntmps20
  go_wp2_with fail
  refine (pick_any C a len cap _ 6 _ hc0 (by omega)).mono ?_
  rintro e w1 ⟨p1, n1, rfl, g1, h1, -, hn1, hc1, hO1⟩
  have l1 := h1 (by omega)
  have hT1 := hT0.trans (on_turns hO1)
  clear hc0 hT0 hO1 h1
  by_cases e0 : p1 = 0
  · subst e0
    go_wp2_with fail
    refine (pick_any C a len cap _ 20001 _ hc1 (by omega)).mono ?_
    rintro e w2 ⟨p2, n2, rfl, g2, h2, -, hn2, hc2, hO2⟩
    have l2 := h2 (by omega)
    have hT2 := hT1.trans (on_turns hO2)
    clear hc1 hT1 hO2 h2
    go_wp2_with (go_at_call 31; refine (l2Plain_any _ _).mono ?_; rintro e w' ⟨rfl, hw'⟩; have hs := hw'.symm; clear hw'; subst hs)
    go_ret
    exact ⟨_, _, rfl, by omega, plain_lt (fr_lt), hc2.drewN _, hT2.drewN _⟩
  by_cases e1 : p1 = 1
  · subst e1
    go_wp2_with fail
    refine (pick_any C a len cap _ 200 _ hc1 (by omega)).mono ?_
    rintro e w2 ⟨p2, n2, rfl, g2, h2, -, hn2, hc2, hO2⟩
    have l2 := h2 (by omega)
    have hT2 := hT1.trans (on_turns hO2)
    clear hc1 hT1 hO2 h2
    go_wp2_with fail
    refine (pick_any C a len cap _ 99 _ hc2 (by omega)).mono ?_
    rintro e w3 ⟨p3, n3, rfl, g3, h3, -, hn3, hc3, hO3⟩
    have l3 := h3 (by omega)
    have hT3 := hT2.trans (on_turns hO3)
    clear hc2 hT2 hO3 h3
    go_wp2_with (go_at_call 31; refine (l2Plain_any _ _).mono ?_; rintro e w' ⟨rfl, hw'⟩; have hs := hw'.symm; clear hw'; subst hs)
    go_ret
    exact ⟨_, _, rfl, by omega, plain_lt (fr_lt), hc3.drewN _, hT3.drewN _⟩
  go_wp2_with fail
  refine (pick_any C a len cap _ 41 _ hc1 (by omega)).mono ?_
  rintro e w2 ⟨p2, n2, rfl, g2, h2, -, hn2, hc2, hO2⟩
  have l2 := h2 (by omega)
  have hT2 := hT1.trans (on_turns hO2)
  clear hc1 hT1 hO2 h2
  go_wp2_with fail
  refine (pick_any C a len cap _ 6 _ hc2 (by omega)).mono ?_
  rintro e w3 ⟨p3, n3, rfl, g3, h3, -, hn3, hc3, hO3⟩
  have l3 := h3 (by omega)
  have hT3 := hT2.trans (on_turns hO3)
  clear hc2 hT2 hO3 h3
  go_wp2_with (go_at_call 31; refine (l2Plain_any _ _).mono ?_; rintro e w' ⟨rfl, hw'⟩; have hs := hw'.symm; clear hw'; subst hs)
  go_ret
  exact ⟨_, _, rfl, by omega, plain_lt (fr_lt), hc3.drewN _, hT3.drewN _⟩
end Go.Proofs.Ytlmbbolhcbccdaa
