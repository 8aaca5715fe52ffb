/- What a booking is at a tick, as the program says it. -/
import Derived.Test.YthejbcfikppncaaBkGoodS
import Derived.BigQuiet
namespace Go.Proofs.Ythejbcfikppncaa
open Go.RowKit
theorem zero_over : (Try.prog.info? 74).bind (fun i => i.zero) = some (bkv 0 0 0 0) := by kernel_rfl
theorem zero_begun : (Try.prog.info? 78).bind (fun i => i.zero) = some (bkv 0 0 0 0) := by kernel_rfl
theorem zero_coming : (Try.prog.info? 76).bind (fun i => i.zero) = some (bkv 0 0 0 0) := by kernel_rfl
theorem as_over (v : Value) (w : World) : (Instr.typeAssert (.iface 74 v) 20 74 true).run Try.prog w = .ok (.tuple #[v, .bool true]) w := by
  simp [Instr.typeAssert, run_underlying Try.underlying74]
theorem no_over_begun (v : Value) (w : World) : (Instr.typeAssert (.iface 74 v) 20 78 true).run Try.prog w = .ok (.tuple #[bkv 0 0 0 0, .bool false]) w := by
  have hz : (zeroValue 78).run Try.prog w = .ok (bkv 0 0 0 0) w := by kernel_rfl
  simp [Instr.typeAssert, run_underlying Try.underlying78, hz]
theorem no_over_coming (v : Value) (w : World) : (Instr.typeAssert (.iface 74 v) 20 76 true).run Try.prog w = .ok (.tuple #[bkv 0 0 0 0, .bool false]) w := by
  have hz : (zeroValue 76).run Try.prog w = .ok (bkv 0 0 0 0) w := by kernel_rfl
  simp [Instr.typeAssert, run_underlying Try.underlying76, hz]
theorem no_begun_over (v : Value) (w : World) : (Instr.typeAssert (.iface 78 v) 20 74 true).run Try.prog w = .ok (.tuple #[bkv 0 0 0 0, .bool false]) w := by
  have hz : (zeroValue 74).run Try.prog w = .ok (bkv 0 0 0 0) w := by kernel_rfl
  simp [Instr.typeAssert, run_underlying Try.underlying74, hz]
theorem as_begun (v : Value) (w : World) : (Instr.typeAssert (.iface 78 v) 20 78 true).run Try.prog w = .ok (.tuple #[v, .bool true]) w := by
  simp [Instr.typeAssert, run_underlying Try.underlying78]
theorem no_begun_coming (v : Value) (w : World) : (Instr.typeAssert (.iface 78 v) 20 76 true).run Try.prog w = .ok (.tuple #[bkv 0 0 0 0, .bool false]) w := by
  have hz : (zeroValue 76).run Try.prog w = .ok (bkv 0 0 0 0) w := by kernel_rfl
  simp [Instr.typeAssert, run_underlying Try.underlying76, hz]
theorem no_coming_over (v : Value) (w : World) : (Instr.typeAssert (.iface 76 v) 20 74 true).run Try.prog w = .ok (.tuple #[bkv 0 0 0 0, .bool false]) w := by
  have hz : (zeroValue 74).run Try.prog w = .ok (bkv 0 0 0 0) w := by kernel_rfl
  simp [Instr.typeAssert, run_underlying Try.underlying74, hz]
theorem no_coming_begun (v : Value) (w : World) : (Instr.typeAssert (.iface 76 v) 20 78 true).run Try.prog w = .ok (.tuple #[bkv 0 0 0 0, .bool false]) w := by
  have hz : (zeroValue 78).run Try.prog w = .ok (bkv 0 0 0 0) w := by kernel_rfl
  simp [Instr.typeAssert, run_underlying Try.underlying78, hz]
theorem as_coming (v : Value) (w : World) : (Instr.typeAssert (.iface 76 v) 20 76 true).run Try.prog w = .ok (.tuple #[v, .bool true]) w := by
  simp [Instr.typeAssert, run_underlying Try.underlying76]
set_option maxHeartbeats 2000000 in
theorem at_over (a f t u at_ : Int) (w : World) (h : t ≤ at_) :
    Calls Try.prog 46 #[bkv a f t u, .int .i64 at_] w fun e w' => e = .returned (.iface 74 (bkv a f t u)) ∧ Below w.heap.size w w' := by
  have h0 := h
  go_enter Try.func46, Try.ntmps46
  go_wp2
  go_ret
  exact ⟨rfl, (Below.refl _ _).alloc (Nat.le_refl _) _⟩
set_option maxHeartbeats 2000000 in
theorem at_begun (a f t u at_ : Int) (w : World) (h : at_ < t ∧ f < at_) :
    Calls Try.prog 46 #[bkv a f t u, .int .i64 at_] w fun e w' => e = .returned (.iface 78 (bkv a f t u)) ∧ Below w.heap.size w w' := by
  obtain ⟨h0, h1⟩ := h
  go_enter Try.func46, Try.ntmps46
  go_wp2
  go_ret
  exact ⟨rfl, (Below.refl _ _).alloc (Nat.le_refl _) _⟩
set_option maxHeartbeats 2000000 in
theorem at_coming (a f t u at_ : Int) (w : World) (h : at_ < t ∧ at_ ≤ f) :
    Calls Try.prog 46 #[bkv a f t u, .int .i64 at_] w fun e w' => e = .returned (.iface 76 (bkv a f t u)) ∧ Below w.heap.size w w' := by
  obtain ⟨h0, h1⟩ := h
  go_enter Try.func46, Try.ntmps46
  go_wp2
  go_ret
  exact ⟨rfl, (Below.refl _ _).alloc (Nat.le_refl _) _⟩
end Go.Proofs.Ythejbcfikppncaa
