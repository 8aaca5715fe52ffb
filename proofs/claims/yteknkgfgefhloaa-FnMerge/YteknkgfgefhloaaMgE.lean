/- Stamped words side by side: '==' of structs. -/
import Derived.Test.YteknkgfgefhloaaMgP
import Derived.Laws.StructEq
namespace Go.Proofs.Yteknkgfgefhloaa
open Go.RowKit
set_option maxHeartbeats 1000000 in
theorem eq_stamp (a b c d e f : Int) (w : World) : (Op.equalIn 10000 29 (.agg #[.int .i64 a, .int .i64 b, .int .i64 c]) (.agg #[.int .i64 d, .int .i64 e, .int .i64 f])).run Try.prog w = .ok (decide (((a, b, c) : Sw) = (d, e, f))) w := by
  have hf : Try.prog.underlying 29 = some (.struct (Try.prog.fieldsOf 29)) := by
    have h := Try.underlying29
    unfold Program.fieldsOf
    rw [h]
  rw [run_equalIn_struct w 9999 29 _ _ hf (by kernel_rfl)]
  have hp : ∀ (xs : Array Value) (k : Nat) (v : Int), xs[k]? = some (.int .i64 v) → ∀ w, (part 3 xs k).run Try.prog w = .ok (.int .i64 v) w := by
    intro xs k v h w
    simp [part, go_sem, h]
  have he : ∀ (x y : Int) (w : World), (Op.equalIn 9999 3 (.int .i64 x) (.int .i64 y)).run Try.prog w = .ok (x == y) w := fun x y w => run_equalIn_int w 9998 3 .i64 .i64 x y Try.underlying3
  have q0 := hp #[.int .i64 a, .int .i64 b, .int .i64 c] 0 a rfl
  have q1 := hp #[.int .i64 a, .int .i64 b, .int .i64 c] 1 b rfl
  have q2 := hp #[.int .i64 a, .int .i64 b, .int .i64 c] 2 c rfl
  have z0 := hp #[.int .i64 d, .int .i64 e, .int .i64 f] 0 d rfl
  have z1 := hp #[.int .i64 d, .int .i64 e, .int .i64 f] 1 e rfl
  have z2 := hp #[.int .i64 d, .int .i64 e, .int .i64 f] 2 f rfl
  unfold Program.fieldsOf
  rw [Try.underlying29]
  simp [Op.eqFields, Sem.run_bind, q0, q1, q2, z0, z1, z2, Result.andThen_ok, he, Sem.run_ite, Sem.run_pure]
  by_cases h1 : a = d
  · by_cases h2 : b = e
    · by_cases h3 : c = f <;> simp [h1, h2, h3]
    · simp [h1, h2]
  · simp [h1]
end Go.Proofs.Yteknkgfgefhloaa
