/- Atomic numbers in the hands of one goroutine; a talker while the bus runs. -/
import Derived.Test.YtldagjgpapnfpaaQTkB
import Derived.Laws.LoneSync
import Derived.Deep.QuietTactic
import Derived.BigQuiet
namespace Go.Proofs.Ytldagjgpapnfpaa
open Go.RowKit
set_option maxHeartbeats 1000000 in
theorem atLoad (P o : Nat) (x : Int) (w : World) (hc : w.cell? ⟨P, o, none⟩ = some (.int .i64 x)) :
    Calls Try.prog 67 #[.pointer (some ⟨P, o, none⟩)] w fun e w' => e = .returned (.int .i64 x) ∧ w' = w := by
  have hl := run_call_load (P := Try.prog) Try.func75 (by kernel_rfl) (by kernel_rfl) (by kernel_rfl) .i64 (by kernel_rfl) hc
  go_enter Try.func67, Try.ntmps67
  go_wp2
  go_ret
  exact ⟨rfl, rfl⟩
set_option maxHeartbeats 1000000 in
theorem atStore (P o : Nat) (u : Value) (y : Int) (w : World) (hc : w.cell? ⟨P, o, none⟩ = some u) (hz : w.frozen? ⟨P, o, none⟩ = false) :
    Calls Try.prog 45 #[.pointer (some ⟨P, o, none⟩), .int .i64 y] w fun e w' => e = .returned (.tuple #[]) ∧ w' = w.setCell ⟨P, o, none⟩ (.int .i64 y) := by
  have hl := run_call_store (P := Try.prog) Try.func58 (by kernel_rfl) (by kernel_rfl) (by kernel_rfl) (by kernel_rfl) (k := .i64) (y := y) hc hz
  go_enter Try.func45, Try.ntmps45
  go_wp2
  go_end0
  exact ⟨rfl, rfl⟩
set_option maxHeartbeats 1000000 in
theorem atAdd (P o : Nat) (x y : Int) (w : World) (h : -1000 ≤ x + y ∧ x + y ≤ 1000) (hc : w.cell? ⟨P, o, none⟩ = some (.int .i64 x)) (hz : w.frozen? ⟨P, o, none⟩ = false) :
    Calls Try.prog 64 #[.pointer (some ⟨P, o, none⟩), .int .i64 y] w fun e w' => e = .returned (.int .i64 (x + y)) ∧ w' = w.setCell ⟨P, o, none⟩ (.int .i64 (x + y)) := by
  have hs : (Op.intArith .add .i64 x y).run Try.prog w = .ok (.int .i64 (x + y)) w := by
    have e := IntWalk.i64_in (x + y) (by omega)
    simp [go_sem]
    first | exact e | (rw [IntWalk.i64_left] at e; exact e)
  have hl := run_call_add (P := Try.prog) Try.func73 (by kernel_rfl) (by kernel_rfl) (by kernel_rfl) .i64 (by kernel_rfl) hc hz hs
  go_enter Try.func64, Try.ntmps64
  go_wp2
  go_ret
  exact ⟨rfl, rfl⟩
end Go.Proofs.Ytldagjgpapnfpaa

/- A talker while the bus runs: who may talk, what is counted. -/
namespace Go.Proofs.Ytldagjgpapnfpaa
open Go.RowKit
/-- the cells of a speaker -/
abbrev spL (qa : Option Addr) (qm qc : Nat) (sh er : Int) (of : Bool) (lf : Nat) (se ec : Int) : List Value := [.slice qa qm qc, .int .i64 sh, .int .i64 er, .bool of, .int .i64 (lf : Int), .int .i64 se, .int .i64 ec]
def Spk (w : World) (P : Nat) (qa : Option Addr) (qm qc : Nat) (sh er : Int) (of : Bool) (lf : Nat) (se ec : Int) : Prop := Bx w P (spL qa qm qc sh er of lf se ec)
section
variable {w : World} {P : Nat} {qa : Option Addr} {qm qc : Nat} {sh er : Int} {of : Bool} {lf : Nat} {se ec : Int}
theorem Spk.c0 (h : Spk w P qa qm qc sh er of lf se ec) : w.cell? ⟨P, 0, none⟩ = some (.slice qa qm qc) := Bx.c h 0 (by simp)
theorem Spk.c1 (h : Spk w P qa qm qc sh er of lf se ec) : w.cell? ⟨P, 1, none⟩ = some (.int .i64 sh) := Bx.c h 1 (by simp)
theorem Spk.c4 (h : Spk w P qa qm qc sh er of lf se ec) : w.cell? ⟨P, 4, none⟩ = some (.int .i64 (lf : Int)) := Bx.c h 4 (by simp)
theorem Spk.c5 (h : Spk w P qa qm qc sh er of lf se ec) : w.cell? ⟨P, 5, none⟩ = some (.int .i64 se) := Bx.c h 5 (by simp)
theorem Spk.c6 (h : Spk w P qa qm qc sh er of lf se ec) : w.cell? ⟨P, 6, none⟩ = some (.int .i64 ec) := Bx.c h 6 (by simp)
theorem Spk.s4 (h : Spk w P qa qm qc sh er of lf se ec) (x : Nat) : Spk (w.setCell ⟨P, 4, none⟩ (.int .i64 (x : Int))) P qa qm qc sh er of x se ec := Bx.set h 4 (by simp) _
theorem Spk.s5 (h : Spk w P qa qm qc sh er of lf se ec) (x : Int) : Spk (w.setCell ⟨P, 5, none⟩ (.int .i64 x)) P qa qm qc sh er of lf x ec := Bx.set h 5 (by simp) _
theorem Spk.s6 (h : Spk w P qa qm qc sh er of lf se ec) (x : Int) : Spk (w.setCell ⟨P, 6, none⟩ (.int .i64 x)) P qa qm qc sh er of lf se x := Bx.set h 6 (by simp) _
end
set_option maxHeartbeats 1000000 in
theorem off_any (P : Nat) (qa : Option Addr) (qm qc : Nat) (sh er : Int) (of : Bool) (lf : Nat) (se ec : Int) (w : World) (h : Spk w P qa qm qc sh er of lf se ec) :
    Calls Try.prog 59 #[.pointer (some ⟨P, 0, none⟩)] w fun e w' => e = .returned (.bool (ec == 255)) ∧ w' = w := by
  have k := atLoad P 6 ec w h.c6
  have hl := Bx.lt h
  go_enter Try.func59, Try.ntmps59
  go_wp2_with fail
  refine k.mono ?_
  rintro e w2 ⟨rfl, hw2⟩
  have hs2 := hw2.symm
  clear hw2 k
  subst hs2
  go_wp2
  go_ret
  exact ⟨rfl, rfl⟩
/-- one may talk -/
def myB (qm : Nat) (sh : Int) (lf : Nat) (se ec : Int) : Bool := !(ec == 255) && (decide (lf < qm) && decide (se < sh))
set_option maxRecDepth 20000 in
set_option maxHeartbeats 4000000 in
theorem may_any (P : Nat) (qa : Option Addr) (qm qc : Nat) (sh er : Int) (of : Bool) (lf : Nat) (se ec : Int) (w : World) (h : Spk w P qa qm qc sh er of lf se ec) :
    Calls Try.prog 46 #[.pointer (some ⟨P, 0, none⟩)] w fun e w' => e = .returned (.bool (myB qm sh lf se ec)) ∧ ∃ q, w' = w.drewN q := by
  have k := fun q => off_any P qa qm qc sh er of lf se ec (w.drewN q) (Bx.on h (below_dr (Below.refl _ _) q))
  have c0 := h.c0
  have c1 := h.c1
  have c4 := h.c4
  have c5 := h.c5
  have hl := Bx.lt h
  unfold myB
  cases h0 : (ec == 255) with
  | true =>
    rw [h0] at k
    go_enter Try.func46, Try.ntmps46
    go_wp2_with fail
    go_quiet ((go_at_call 59; exact Calls.quiet_of_same (k _)))
    go_wp2
    go_ret
    exact ⟨rfl, _, rfl⟩
  | false =>
    rw [h0] at k
    by_cases h1 : lf < qm
    · by_cases h2 : se < sh
      · rw [decide_eq_true h1, decide_eq_true h2]
        have j1 : (lf : Int) < (qm : Int) := by omega
        have d1 : decide ((lf : Int) < (qm : Int)) = true := decide_eq_true j1
        have d2 : decide (se < sh) = true := decide_eq_true h2
        go_enter Try.func46, Try.ntmps46
        go_wp2_with fail
        go_quiet ((go_at_call 59; exact Calls.quiet_of_same (k _)))
        go_wp2
        go_ret
        exact ⟨rfl, _, rfl⟩
      · rw [decide_eq_true h1, decide_eq_false h2]
        have j1 : (lf : Int) < (qm : Int) := by omega
        have d1 : decide ((lf : Int) < (qm : Int)) = true := decide_eq_true j1
        have d2 : decide (se < sh) = false := decide_eq_false h2
        go_enter Try.func46, Try.ntmps46
        go_wp2_with fail
        go_quiet ((go_at_call 59; exact Calls.quiet_of_same (k _)))
        go_wp2
        go_ret
        exact ⟨rfl, _, rfl⟩
    · rw [decide_eq_false h1]
      have j1 : ¬ (lf : Int) < (qm : Int) := by omega
      have d1 : decide ((lf : Int) < (qm : Int)) = false := decide_eq_false j1
      have d3 : decide (lf < qm) = false := decide_eq_false h1
      go_enter Try.func46, Try.ntmps46
      go_wp2_with fail
      go_quiet ((go_at_call 59; exact Calls.quiet_of_same (k _)))
      go_wp2
      go_ret
      exact ⟨rfl, _, rfl⟩
end Go.Proofs.Ytldagjgpapnfpaa
