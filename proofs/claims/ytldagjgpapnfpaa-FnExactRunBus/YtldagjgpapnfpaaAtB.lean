/- Atomic numbers in the hands of one goroutine; a talker while the bus runs. -/
import Derived.Test.YtldagjgpapnfpaaTkB
import Derived.Laws.LoneSync
import Derived.Deep.QuietTactic
import Derived.BigQuiet
namespace Go.Proofs.Ytldagjgpapnfpaa
open Go.RowKit
set_option maxHeartbeats 1000000 in
theorem atLoad (P o : Nat) (x : Int) (w : World) (hc : w.cell? ⟨P, o, none⟩ = some (.int .i64 x)) :
    Calls Try.prog 67 #[.pointer (some ⟨P, o, none⟩)] w fun e w' => e = .returned (.int .i64 x) ∧ w' = w := by
  have hl := run_call_load (P := Try.prog) Try.func75 (by kernel_rfl) (by kernel_rfl) (by kernel_rfl) .i64 (by kernel_rfl) hc
  go_enter Try.func67, Try.ntmps67
  go_wp2
  go_ret
  exact ⟨rfl, rfl⟩
set_option maxHeartbeats 1000000 in
theorem atStore (P o : Nat) (u : Value) (y : Int) (w : World) (hc : w.cell? ⟨P, o, none⟩ = some u) (hz : w.frozen? ⟨P, o, none⟩ = false) :
    Calls Try.prog 45 #[.pointer (some ⟨P, o, none⟩), .int .i64 y] w fun e w' => e = .returned (.tuple #[]) ∧ w' = w.setCell ⟨P, o, none⟩ (.int .i64 y) := by
  have hl := run_call_store (P := Try.prog) Try.func58 (by kernel_rfl) (by kernel_rfl) (by kernel_rfl) (by kernel_rfl) (k := .i64) (y := y) hc hz
  go_enter Try.func45, Try.ntmps45
  go_wp2
  go_end0
  exact ⟨rfl, rfl⟩
set_option maxHeartbeats 1000000 in
theorem atAdd (P o : Nat) (x y : Int) (w : World) (h : -1000 ≤ x + y ∧ x + y ≤ 1000) (hc : w.cell? ⟨P, o, none⟩ = some (.int .i64 x)) (hz : w.frozen? ⟨P, o, none⟩ = false) :
    Calls Try.prog 64 #[.pointer (some ⟨P, o, none⟩), .int .i64 y] w fun e w' => e = .returned (.int .i64 (x + y)) ∧ w' = w.setCell ⟨P, o, none⟩ (.int .i64 (x + y)) := by
  have hs : (Op.intArith .add .i64 x y).run Try.prog w = .ok (.int .i64 (x + y)) w := by
    have e := IntWalk.i64_in (x + y) (by omega)
    simp [go_sem]
    first | exact e | (rw [IntWalk.i64_left] at e; exact e)
  have hl := run_call_add (P := Try.prog) Try.func73 (by kernel_rfl) (by kernel_rfl) (by kernel_rfl) .i64 (by kernel_rfl) hc hz hs
  go_enter Try.func64, Try.ntmps64
  go_wp2
  go_ret
  exact ⟨rfl, rfl⟩
end Go.Proofs.Ytldagjgpapnfpaa
