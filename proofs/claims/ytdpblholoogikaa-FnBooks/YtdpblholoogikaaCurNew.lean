/- A new cursor. -/
import Derived.Test.YtdpblholoogikaaCur
namespace Go.Proofs.Ytdpblholoogikaa
open Go.RowKit

theorem cur_new (w : World) (a : Option Addr) (len cap : Nat) (hl : len ≤ 1048576) (hb : 0 < len → ∃ b off, a = some ⟨b, off, none⟩ ∧ b < w.heap.size ∧ ∀ i, i < len → ∃ v : Int, w.cell? ⟨b, off + i, none⟩ = some (.int .u8 v) ∧ 0 ≤ v ∧ v ≤ 255) :
    Cur (w.alloc (.cells #[.slice a len cap, .int .i64 0, .int .u64 0] 41)) w.heap.size a len cap 0 := by
  have hB : Below w.heap.size w (w.alloc (.cells #[.slice a len cap, .int .i64 0, .int .u64 0] 41)) := (Below.refl _ _).alloc (Nat.le_refl _) _
  refine ⟨by simp, by simp [go_sem], by simp [go_sem], ⟨0, by simp [go_sem], by omega, by omega⟩, by simp [go_sem], by simp [go_sem], fun h0 => ?_, hl⟩
  obtain ⟨b, off, ha, hbw, hc⟩ := hb h0
  refine ⟨b, off, ha, hbw, fun i hi => ?_⟩
  obtain ⟨v, hv, hv1⟩ := hc i hi
  exact ⟨v, (hB.cell (p := ⟨b, _, none⟩) hbw).trans hv, hv1⟩
end Go.Proofs.Ytdpblholoogikaa
