/- Pairs of ints as values. -/
import Derived.Test.YtbndhhjgjalecabDoorQCwMp
import Derived.DeepKeys4
namespace Go.Proofs.YtbndhhjgjalecabDoor
open Go.RowKit Go.Maps

abbrev kvP : Int × Int → Value := fun x => .agg #[.int .i64 x.1, .int .i64 x.2]
abbrev okP : Int × Int → Prop := fun x => (Lit.int .i64 x.1).wf = true ∧ (Lit.int .i64 x.2).wf = true
end Go.Proofs.YtbndhhjgjalecabDoor

/- Couples as keys of a map. -/
namespace Go.Proofs.YtbndhhjgjalecabDoor
open Go.RowKit Go.Maps

theorem key_couple (x : Int × Int) (h : okP x) : ∃ l, keyOf Tryd.prog 48 (kvP x) = some l := by
  have h1 : Tryd.prog.keyType 48 = true := by kernel_rfl
  have hc : Tryd.prog.cellsOf 48 = 2 := by kernel_rfl
  have hi : Tryd.prog.cellsOf 3 = 1 := by kernel_rfl
  obtain ⟨S, hS⟩ : ∃ S, Tryd.prog.types.size = S + 1 := ⟨Tryd.prog.types.size - 1, by have : 0 < Tryd.prog.types.size := of_decide_eq_true (by kernel_rfl); omega⟩
  have hu := Tryd.underlying48
  have hui := Tryd.underlying3
  have h3 : Tryd.prog.keyLits (Tryd.prog.types.size + 1) 48 [.int .i64 x.1, .int .i64 x.2] = some [.int .i64 x.1, .int .i64 x.2] := by
    rw [hS]
    simp [Program.keyLits, hu, hui, hc, hi, h.1, h.2, List.range, List.range.loop]
  refine ⟨.string (keyBytes [.int .i64 x.1, .int .i64 x.2]), ?_⟩
  unfold keyOf
  rw [hu]
  simp only [h1, Value.formed, hu, hc, Value.cells, h3]
  rfl
theorem kkC : KK (κ := Int × Int) 58 48 kvP okP :=
  ⟨Keyed.of_law (deep_law_laid (by kernel_rfl) (m := Tryd.prog.types.size + 1) (of_decide_eq_true (by kernel_rfl)) (of_decide_eq_true (by kernel_rfl)) (by kernel_rfl) (by rw [Tryd.underlying48])), Tryd.underlying58, key_couple, fun x y e => by
    simp only [Value.agg.injEq] at e
    have e2 : #[Value.int .i64 x.1, Value.int .i64 x.2].toList = #[Value.int .i64 y.1, Value.int .i64 y.2].toList := by rw [e]
    simp only [List.cons.injEq, Value.int.injEq, true_and, and_true] at e2
    exact Prod.ext e2.1 e2.2⟩
end Go.Proofs.YtbndhhjgjalecabDoor
