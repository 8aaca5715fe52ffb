/- A list of triples of ints by one flat index. -/
import Derived.Test.YteknkgfgefhloaaLqBase
namespace Go.Proofs.Yteknkgfgefhloaa
open Go.RowKit
theorem ip_three {w : World} {b n : Nat} {F : Nat → Int} (h : IP w b (n * 3) F) {k : Nat} (hk : k < n) :
    w.cell? ⟨b, k * 3, none⟩ = some (.int .i64 (F (k * 3))) ∧ w.cell? ⟨b, k * 3 + 1, none⟩ = some (.int .i64 (F (k * 3 + 1))) ∧ w.cell? ⟨b, k * 3 + 2, none⟩ = some (.int .i64 (F (k * 3 + 2))) :=
  ⟨h.c _ (by omega), h.c _ (by omega), h.c _ (by omega)⟩
theorem il_three {w : World} {a : Option Addr} {n : Nat} {F : Nat → Int} (h : IL w a (n * 3) F) {k : Nat} (hk : k < n) : ∃ b off, a = some ⟨b, off, none⟩ ∧ b < w.heap.size ∧
    w.cell? ⟨b, off + k * 3, none⟩ = some (.int .i64 (F (k * 3))) ∧ w.cell? ⟨b, off + k * 3 + 1, none⟩ = some (.int .i64 (F (k * 3 + 1))) ∧ w.cell? ⟨b, off + k * 3 + 2, none⟩ = some (.int .i64 (F (k * 3 + 2))) := by
  obtain ⟨b, off, ha, hb, hc⟩ := h (by omega)
  refine ⟨b, off, ha, hb, hc _ (by omega), ?_, ?_⟩
  · rw [Nat.add_assoc]; exact hc _ (by omega)
  · rw [Nat.add_assoc]; exact hc _ (by omega)
end Go.Proofs.Yteknkgfgefhloaa
