/- Any floats that the cursor draws. -/
import Derived.Test.YtlmbbolhcbccdaaRfSound
namespace Go.Proofs.Ytlmbbolhcbccdaa
open Go.RowKit

theorem inf1_any (w : World) : Calls Try.prog 39 #[.int .i64 1] w fun e w' => e = .returned (.float .f64 9218868437227405312) ∧ w' = w := by
  have hf := f64from
  go_enter Try.func39, Try.ntmps39
  go_wp2
  go_ret
  exact ⟨rfl, rfl⟩
theorem nan_any (w : World) : Calls Try.prog 40 #[] w fun e w' => e = .returned (.float .f64 9221120237041090561) ∧ w' = w := by
  have hf := f64from
  go_enter Try.func40, Try.ntmps40
  go_wp2
  go_ret
  exact ⟨rfl, rfl⟩
theorem copys_any (w : World) : Calls Try.prog 41 #[.float .f64 0, .float .f64 13830554455654793216] w fun e w' => e = .returned (.float .f64 9223372036854775808) ∧ w' = w := by
  have hb := f64bits
  have hf := f64from
  go_enter Try.func41, Try.ntmps41
  go_wp2
  go_ret
  exact ⟨ret_float (by decide), rfl⟩

def lits : List Nat := [9218868437227405311, 18442240474082181119, 1, 9223372036854775809, 4503599627370496, 9218868437227405312, 9221120237041090561, 9223372036854775808, 4846369599423283200, 4845873199050653696, 4591870180066957722]
theorem lits_lt (i : Nat) : lits.getD i 0 < 18446744073709551616 := by
  have h : ∀ x ∈ lits, x < 18446744073709551616 := by decide
  rw [List.getD_eq_getElem?_getD]
  cases e : lits[i]? with
  | none => decide
  | some v => exact h v (List.mem_of_getElem? e)
abbrev litO : Obj := .cells #[.float .f64 9218868437227405311, .float .f64 18442240474082181119, .float .f64 1, .float .f64 9223372036854775809, .float .f64 4503599627370496, .float .f64 9218868437227405312, .float .f64 9221120237041090561, .float .f64 9223372036854775808, .float .f64 4846369599423283200, .float .f64 4845873199050653696, .float .f64 4591870180066957722] 23
theorem lits_at (w : World) : Bx (w.alloc litO) w.heap.size (lits.map (Value.float .f64)) := bx_new (b := w.heap.size) (w := w) (lits.map (Value.float .f64)) 23 rfl
theorem Bx.one {w w' : World} {C b : Nat} {vs : List Value} (h : Bx w b vs) (k : Only C w w') (hd : b ≠ C) : Bx w' b vs :=
  ⟨by rw [k.size]; exact h.lt, fun i hi => (cell_same (k.block b hd) _).trans (h.c i hi), fun j => (frozen_same (k.block b hd) j).trans (h.fz j)⟩

set_option maxHeartbeats 4000000 in
theorem real_any (C : Nat) (a : Option Addr) (len cap n : Nat) (w : World) (hc0 : Cur w C a len cap n) (hn : n ≤ 700000) :
    Calls Try.prog 21 #[.pointer (some ⟨C, 0, none⟩)] w fun e w' => AnsF w w' e C a len cap n 50 := by
  have hT0 : Turns C (C + 1) w w := turns_of (Below.refl _ _)
  have hquo := fun v y w => run_fl (P := Try.prog) .quo (by simp) 23 v y w
  have hf := f64from
  go_enter Try.func21, Try.ntmps21
  go_wp2_with fail
  refine (pick_any C a len cap _ 14 _ hc0 (by omega)).mono ?_
  rintro e w1 ⟨p1, n1, rfl, g1, h1, -, hn1, hc1, hO1⟩
  have l1 := h1 (by omega)
  have hT1 := hT0.trans (on_turns hO1)
  clear hc0 hT0 hO1 h1
  by_cases e0 : p1 = 0
  · subst e0
    go_wp2_with fail
    refine (wide_any C a len cap _ _ hc1 (by omega)).mono ?_
    rintro e w2 ⟨p2, n2, rfl, hn2, hc2, hO2⟩
    have hT2 := hT1.trans hO2
    clear hc1 hT1 hO2
    go_wp2
    go_ret
    exact ⟨_, _, rfl, by omega, by have := u64_bd p2; omega, hc2, hT2⟩
  by_cases e1 : p1 = 1
  · subst e1
    have L0 := lits_at w1
    have hA := (Below.refl w1.heap.size w1).alloc (Nat.le_refl _) litO
    have hne : w1.heap.size ≠ C := Nat.ne_of_gt hc1.lt
    have hc2 := hc1.below hA hc1.lt
    have hT2 := hT1.trans (turns_of hA)
    clear hc1 hT1 hA
    go_wp2_with (first | (go_at_call 39; refine (inf1_any _).mono ?_; rintro e w' ⟨rfl, hw'⟩; have hs := hw'.symm; clear hw'; subst hs) | (go_at_call 40; refine (nan_any _).mono ?_; rintro e w' ⟨rfl, hw'⟩; have hs := hw'.symm; clear hw'; subst hs) | (go_at_call 41; refine (copys_any _).mono ?_; rintro e w' ⟨rfl, hw'⟩; have hs := hw'.symm; clear hw'; subst hs))
    refine (pick_any C a len cap _ 11 _ hc2 (by omega)).mono ?_
    rintro e w3 ⟨p3, n3, rfl, g3, h3, -, hn3, hc3, hO3⟩
    have l3 := h3 (by omega)
    have hT3 := hT2.trans (on_turns hO3)
    have L3 := L0.one hO3 hne
    obtain ⟨i, rfl⟩ := Int.eq_ofNat_of_zero_le g3
    have hi : i < 11 := by omega
    have hcell : w3.cell? ⟨w1.heap.size, i, none⟩ = some (.float .f64 (lits.getD i 0)) := by
      have := L3.c i (by simpa [lits] using hi)
      rw [this, List.getElem?_map, List.getD_eq_getElem?_getD]
      have : i < lits.length := by simpa [lits] using hi
      simp [this]
    have hlt := lits_lt i
    generalize lits.getD i 0 = lv at *
    have hbk := L3.lt
    clear hc2 hT2 hO3 h3 L0 L3
    go_wp2
    go_ret
    exact ⟨_, _, rfl, by omega, hlt, hc3, hT3⟩
  by_cases e2 : p1 = 2
  · subst e2
    go_wp2_with fail
    refine (sized_any C a len cap _ _ hc1 (by omega)).mono ?_
    rintro e w2 ⟨p2, n2, rfl, hn2, hc2, hO2⟩
    have hT2 := hT1.trans hO2
    clear hc1 hT1 hO2
    go_wp2
    go_ret
    exact ⟨_, _, rfl, by omega, ofInt_lt _, hc2, hT2⟩
  by_cases e3 : p1 = 3
  · subst e3
    go_wp2_with fail
    refine (sized_any C a len cap _ _ hc1 (by omega)).mono ?_
    rintro e w2 ⟨p2, n2, rfl, hn2, hc2, hO2⟩
    have hT2 := hT1.trans hO2
    clear hc1 hT1 hO2
    go_wp2_with fail
    refine (pick_any C a len cap _ 1000 _ hc2 (by omega)).mono ?_
    rintro e w3 ⟨p3, n3, rfl, g3, h3, -, hn3, hc3, hO3⟩
    have l3 := h3 (by omega)
    have hT3 := hT2.trans (on_turns hO3)
    clear hc2 hT2 hO3 h3
    go_wp2
    go_ret
    exact ⟨_, _, rfl, by omega, fr_lt, hc3.drewN _, hT3.drewN _⟩
  go_wp2_with fail
  refine (pick_any C a len cap _ 41 _ hc1 (by omega)).mono ?_
  rintro e w2 ⟨p2, n2, rfl, g2, h2, -, hn2, hc2, hO2⟩
  have l2 := h2 (by omega)
  have hT2 := hT1.trans (on_turns hO2)
  clear hc1 hT1 hO2 h2
  go_wp2_with fail
  refine (pick_any C a len cap _ 6 _ hc2 (by omega)).mono ?_
  rintro e w3 ⟨p3, n3, rfl, g3, h3, -, hn3, hc3, hO3⟩
  have l3 := h3 (by omega)
  have hT3 := hT2.trans (on_turns hO3)
  clear hc2 hT2 hO3 h3
  go_wp2
  go_ret
  exact ⟨_, _, rfl, by omega, fr_lt, hc3.drewN _, hT3.drewN _⟩
end Go.Proofs.Ytlmbbolhcbccdaa
