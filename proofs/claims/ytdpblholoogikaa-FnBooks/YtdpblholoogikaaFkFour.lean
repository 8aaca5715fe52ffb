/- A list of fours of ints by one flat index. -/
import Derived.Test.YtdpblholoogikaaLqBase
namespace Go.Proofs.Ytdpblholoogikaa
open Go.RowKit
theorem ip_four4 {w : World} {b n : Nat} {F : Nat → Int} (h : IP w b (n * 4) F) {k : Nat} (hk : k < n) :
    w.cell? ⟨b, k * 4, none⟩ = some (.int .i64 (F (k * 4))) ∧ w.cell? ⟨b, k * 4 + 1, none⟩ = some (.int .i64 (F (k * 4 + 1))) ∧ w.cell? ⟨b, k * 4 + 2, none⟩ = some (.int .i64 (F (k * 4 + 2))) ∧ w.cell? ⟨b, k * 4 + 3, none⟩ = some (.int .i64 (F (k * 4 + 3))) :=
  ⟨h.c _ (by omega), h.c _ (by omega), h.c _ (by omega), h.c _ (by omega)⟩
theorem il_four4 {w : World} {a : Option Addr} {n : Nat} {F : Nat → Int} (h : IL w a (n * 4) F) {k : Nat} (hk : k < n) : ∃ b off, a = some ⟨b, off, none⟩ ∧ b < w.heap.size ∧
    w.cell? ⟨b, off + k * 4, none⟩ = some (.int .i64 (F (k * 4))) ∧ w.cell? ⟨b, off + k * 4 + 1, none⟩ = some (.int .i64 (F (k * 4 + 1))) ∧ w.cell? ⟨b, off + k * 4 + 2, none⟩ = some (.int .i64 (F (k * 4 + 2))) ∧ w.cell? ⟨b, off + k * 4 + 3, none⟩ = some (.int .i64 (F (k * 4 + 3))) := by
  obtain ⟨b, off, ha, hb, hc⟩ := h (by omega)
  refine ⟨b, off, ha, hb, hc _ (by omega), ?_, ?_, ?_⟩
  · rw [Nat.add_assoc]; exact hc _ (by omega)
  · rw [Nat.add_assoc]; exact hc _ (by omega)
  · rw [Nat.add_assoc]; exact hc _ (by omega)
end Go.Proofs.Ytdpblholoogikaa
