/- A list without its first number. -/
import Derived.Test.YtfciecoigfnnhaaClFrB
namespace Go.Proofs.Ytfciecoigfnnhaa
open Go.RowKit
theorem slice1 (gb go m d : Nat) (hm : 1 ≤ m) (hd : m ≤ d) : ∃ A : Option Addr, (∀ w, (Instr.sliceAt 23 (.slice (some ⟨gb, go, none⟩) m d) (some (.int .i64 1)) none none).run Try.prog w = .ok (.slice A (m - 1) (d - 1)) w) ∧ (2 ≤ m → A = some ⟨gb, go + 1, none⟩) := by
  refine ⟨if d = 1 then some ⟨gb, go, none⟩ else some ⟨gb, go + 1, none⟩, fun w => ?_, fun h => if_neg (by omega)⟩
  have he : Try.prog.elem 23 = 3 := by kernel_rfl
  have hu : Try.prog.underlying 23 = some (.slice (Try.prog.elem 23)) := by rw [he]; exact Try.underlying23
  rw [run_sliceAt_slice (h := hu), run_slice_l (ht := hu) (h0 := by omega) (h1 := by omega)]
  have e : Int.toNat 1 = 1 := rfl
  rw [e]
  have hsz : (sizeOf (Try.prog.elem 23)).run Try.prog w = .ok 1 w := by kernel_rfl
  rw [hsz]
  simp [Result.andThen, sliced, Addr.add]
end Go.Proofs.Ytfciecoigfnnhaa
