/- What a booking is at a tick, as the program says it. -/
import Derived.Test.YtdpblholoogikaaBkGoodS
import Derived.BigQuiet
namespace Go.Proofs.Ytdpblholoogikaa
open Go.RowKit
theorem zero_over : (Try.prog.info? 64).bind (fun i => i.zero) = some (bkv 0 0 0 0) := by kernel_rfl
theorem zero_begun : (Try.prog.info? 68).bind (fun i => i.zero) = some (bkv 0 0 0 0) := by kernel_rfl
theorem zero_coming : (Try.prog.info? 66).bind (fun i => i.zero) = some (bkv 0 0 0 0) := by kernel_rfl
theorem as_over (v : Value) (w : World) : (Instr.typeAssert (.iface 64 v) 20 64 true).run Try.prog w = .ok (.tuple #[v, .bool true]) w := by
  simp [Instr.typeAssert, run_underlying Try.underlying64]
theorem no_over_begun (v : Value) (w : World) : (Instr.typeAssert (.iface 64 v) 20 68 true).run Try.prog w = .ok (.tuple #[bkv 0 0 0 0, .bool false]) w := by
  have hz : (zeroValue 68).run Try.prog w = .ok (bkv 0 0 0 0) w := by kernel_rfl
  simp [Instr.typeAssert, run_underlying Try.underlying68, hz]
theorem no_over_coming (v : Value) (w : World) : (Instr.typeAssert (.iface 64 v) 20 66 true).run Try.prog w = .ok (.tuple #[bkv 0 0 0 0, .bool false]) w := by
  have hz : (zeroValue 66).run Try.prog w = .ok (bkv 0 0 0 0) w := by kernel_rfl
  simp [Instr.typeAssert, run_underlying Try.underlying66, hz]
theorem no_begun_over (v : Value) (w : World) : (Instr.typeAssert (.iface 68 v) 20 64 true).run Try.prog w = .ok (.tuple #[bkv 0 0 0 0, .bool false]) w := by
  have hz : (zeroValue 64).run Try.prog w = .ok (bkv 0 0 0 0) w := by kernel_rfl
  simp [Instr.typeAssert, run_underlying Try.underlying64, hz]
theorem as_begun (v : Value) (w : World) : (Instr.typeAssert (.iface 68 v) 20 68 true).run Try.prog w = .ok (.tuple #[v, .bool true]) w := by
  simp [Instr.typeAssert, run_underlying Try.underlying68]
theorem no_begun_coming (v : Value) (w : World) : (Instr.typeAssert (.iface 68 v) 20 66 true).run Try.prog w = .ok (.tuple #[bkv 0 0 0 0, .bool false]) w := by
  have hz : (zeroValue 66).run Try.prog w = .ok (bkv 0 0 0 0) w := by kernel_rfl
  simp [Instr.typeAssert, run_underlying Try.underlying66, hz]
theorem no_coming_over (v : Value) (w : World) : (Instr.typeAssert (.iface 66 v) 20 64 true).run Try.prog w = .ok (.tuple #[bkv 0 0 0 0, .bool false]) w := by
  have hz : (zeroValue 64).run Try.prog w = .ok (bkv 0 0 0 0) w := by kernel_rfl
  simp [Instr.typeAssert, run_underlying Try.underlying64, hz]
theorem no_coming_begun (v : Value) (w : World) : (Instr.typeAssert (.iface 66 v) 20 68 true).run Try.prog w = .ok (.tuple #[bkv 0 0 0 0, .bool false]) w := by
  have hz : (zeroValue 68).run Try.prog w = .ok (bkv 0 0 0 0) w := by kernel_rfl
  simp [Instr.typeAssert, run_underlying Try.underlying68, hz]
theorem as_coming (v : Value) (w : World) : (Instr.typeAssert (.iface 66 v) 20 66 true).run Try.prog w = .ok (.tuple #[v, .bool true]) w := by
  simp [Instr.typeAssert, run_underlying Try.underlying66]
set_option maxHeartbeats 2000000 in
theorem at_over (a f t u at_ : Int) (w : World) (h : t ≤ at_) :
    Calls Try.prog 34 #[bkv a f t u, .int .i64 at_] w fun e w' => e = .returned (.iface 64 (bkv a f t u)) ∧ Below w.heap.size w w' := by
  have h0 := h
  go_enter Try.func34, Try.ntmps34
  go_wp2
  go_ret
  exact ⟨rfl, (Below.refl _ _).alloc (Nat.le_refl _) _⟩
set_option maxHeartbeats 2000000 in
theorem at_begun (a f t u at_ : Int) (w : World) (h : at_ < t ∧ f < at_) :
    Calls Try.prog 34 #[bkv a f t u, .int .i64 at_] w fun e w' => e = .returned (.iface 68 (bkv a f t u)) ∧ Below w.heap.size w w' := by
  obtain ⟨h0, h1⟩ := h
  go_enter Try.func34, Try.ntmps34
  go_wp2
  go_ret
  exact ⟨rfl, (Below.refl _ _).alloc (Nat.le_refl _) _⟩
set_option maxHeartbeats 2000000 in
theorem at_coming (a f t u at_ : Int) (w : World) (h : at_ < t ∧ at_ ≤ f) :
    Calls Try.prog 34 #[bkv a f t u, .int .i64 at_] w fun e w' => e = .returned (.iface 66 (bkv a f t u)) ∧ Below w.heap.size w w' := by
  obtain ⟨h0, h1⟩ := h
  go_enter Try.func34, Try.ntmps34
  go_wp2
  go_ret
  exact ⟨rfl, (Below.refl _ _).alloc (Nat.le_refl _) _⟩
end Go.Proofs.Ytdpblholoogikaa
