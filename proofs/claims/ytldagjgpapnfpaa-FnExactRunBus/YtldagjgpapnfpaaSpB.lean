/- A talker while the bus runs: who may talk, what is counted. -/
import Derived.Test.YtldagjgpapnfpaaAtB
namespace Go.Proofs.Ytldagjgpapnfpaa
open Go.RowKit
/-- the cells of a speaker -/
abbrev spL (qa : Option Addr) (qm qc : Nat) (sh er : Int) (of : Bool) (lf : Nat) (se ec : Int) : List Value := [.slice qa qm qc, .int .i64 sh, .int .i64 er, .bool of, .int .i64 (lf : Int), .int .i64 se, .int .i64 ec]
def Spk (w : World) (P : Nat) (qa : Option Addr) (qm qc : Nat) (sh er : Int) (of : Bool) (lf : Nat) (se ec : Int) : Prop := Bx w P (spL qa qm qc sh er of lf se ec)
section
variable {w : World} {P : Nat} {qa : Option Addr} {qm qc : Nat} {sh er : Int} {of : Bool} {lf : Nat} {se ec : Int}
theorem Spk.c0 (h : Spk w P qa qm qc sh er of lf se ec) : w.cell? ⟨P, 0, none⟩ = some (.slice qa qm qc) := Bx.c h 0 (by simp)
theorem Spk.c1 (h : Spk w P qa qm qc sh er of lf se ec) : w.cell? ⟨P, 1, none⟩ = some (.int .i64 sh) := Bx.c h 1 (by simp)
theorem Spk.c4 (h : Spk w P qa qm qc sh er of lf se ec) : w.cell? ⟨P, 4, none⟩ = some (.int .i64 (lf : Int)) := Bx.c h 4 (by simp)
theorem Spk.c5 (h : Spk w P qa qm qc sh er of lf se ec) : w.cell? ⟨P, 5, none⟩ = some (.int .i64 se) := Bx.c h 5 (by simp)
theorem Spk.c6 (h : Spk w P qa qm qc sh er of lf se ec) : w.cell? ⟨P, 6, none⟩ = some (.int .i64 ec) := Bx.c h 6 (by simp)
theorem Spk.s4 (h : Spk w P qa qm qc sh er of lf se ec) (x : Nat) : Spk (w.setCell ⟨P, 4, none⟩ (.int .i64 (x : Int))) P qa qm qc sh er of x se ec := Bx.set h 4 (by simp) _
theorem Spk.s5 (h : Spk w P qa qm qc sh er of lf se ec) (x : Int) : Spk (w.setCell ⟨P, 5, none⟩ (.int .i64 x)) P qa qm qc sh er of lf x ec := Bx.set h 5 (by simp) _
theorem Spk.s6 (h : Spk w P qa qm qc sh er of lf se ec) (x : Int) : Spk (w.setCell ⟨P, 6, none⟩ (.int .i64 x)) P qa qm qc sh er of lf se x := Bx.set h 6 (by simp) _
end
set_option maxHeartbeats 1000000 in
theorem off_any (P : Nat) (qa : Option Addr) (qm qc : Nat) (sh er : Int) (of : Bool) (lf : Nat) (se ec : Int) (w : World) (h : Spk w P qa qm qc sh er of lf se ec) :
    Calls Try.prog 59 #[.pointer (some ⟨P, 0, none⟩)] w fun e w' => e = .returned (.bool (ec == 255)) ∧ w' = w := by
  have k := atLoad P 6 ec w h.c6
  have hl := Bx.lt h
  go_enter Try.func59, Try.ntmps59
  go_wp2_with fail
  refine k.mono ?_
  rintro e w2 ⟨rfl, hw2⟩
  have hs2 := hw2.symm
  clear hw2 k
  subst hs2
  go_wp2
  go_ret
  exact ⟨rfl, rfl⟩
/-- one may talk -/
def myB (qm : Nat) (sh : Int) (lf : Nat) (se ec : Int) : Bool := !(ec == 255) && (decide (lf < qm) && decide (se < sh))
set_option maxRecDepth 20000 in
set_option maxHeartbeats 4000000 in
theorem may_any (P : Nat) (qa : Option Addr) (qm qc : Nat) (sh er : Int) (of : Bool) (lf : Nat) (se ec : Int) (w : World) (h : Spk w P qa qm qc sh er of lf se ec) :
    Calls Try.prog 46 #[.pointer (some ⟨P, 0, none⟩)] w fun e w' => e = .returned (.bool (myB qm sh lf se ec)) ∧ ∃ q, w' = w.drewN q := by
  have k := fun q => off_any P qa qm qc sh er of lf se ec (w.drewN q) (Bx.on h (below_dr (Below.refl _ _) q))
  have c0 := h.c0
  have c1 := h.c1
  have c4 := h.c4
  have c5 := h.c5
  have hl := Bx.lt h
  unfold myB
  cases h0 : (ec == 255) with
  | true =>
    rw [h0] at k
    go_enter Try.func46, Try.ntmps46
    go_wp2_with fail
    go_quiet ((go_at_call 59; exact Calls.quiet_of_same (k _)))
    go_wp2
    go_ret
    exact ⟨rfl, _, rfl⟩
  | false =>
    rw [h0] at k
    by_cases h1 : lf < qm
    · by_cases h2 : se < sh
      · rw [decide_eq_true h1, decide_eq_true h2]
        have j1 : (lf : Int) < (qm : Int) := by omega
        have d1 : decide ((lf : Int) < (qm : Int)) = true := decide_eq_true j1
        have d2 : decide (se < sh) = true := decide_eq_true h2
        go_enter Try.func46, Try.ntmps46
        go_wp2_with fail
        go_quiet ((go_at_call 59; exact Calls.quiet_of_same (k _)))
        go_wp2
        go_ret
        exact ⟨rfl, _, rfl⟩
      · rw [decide_eq_true h1, decide_eq_false h2]
        have j1 : (lf : Int) < (qm : Int) := by omega
        have d1 : decide ((lf : Int) < (qm : Int)) = true := decide_eq_true j1
        have d2 : decide (se < sh) = false := decide_eq_false h2
        go_enter Try.func46, Try.ntmps46
        go_wp2_with fail
        go_quiet ((go_at_call 59; exact Calls.quiet_of_same (k _)))
        go_wp2
        go_ret
        exact ⟨rfl, _, rfl⟩
    · rw [decide_eq_false h1]
      have j1 : ¬ (lf : Int) < (qm : Int) := by omega
      have d1 : decide ((lf : Int) < (qm : Int)) = false := decide_eq_false j1
      have d3 : decide (lf < qm) = false := decide_eq_false h1
      go_enter Try.func46, Try.ntmps46
      go_wp2_with fail
      go_quiet ((go_at_call 59; exact Calls.quiet_of_same (k _)))
      go_wp2
      go_ret
      exact ⟨rfl, _, rfl⟩
end Go.Proofs.Ytldagjgpapnfpaa
