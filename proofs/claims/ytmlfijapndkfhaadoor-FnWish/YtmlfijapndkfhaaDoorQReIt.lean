/- errors.Is of a fault at a byte. -/
import Derived.Test.YtmlfijapndkfhaaDoorQReAv
namespace Go.Proofs.YtmlfijapndkfhaaDoor
open Go.RowKit Go.Extern.Stop Go.Stop Go.Extern
set_option maxHeartbeats 4000000 in
theorem is_at_same (x : Int) (b : Addr) (w : World) :
    Calls Tryd.prog 48 #[atB x b, snt b] w fun e w' => e = .returned (.bool true) ∧ Below w.heap.size w w' := by
  obtain ⟨i, hi, hcmp⟩ := Option.map_eq_some_iff.1 reComp
  obtain ⟨j, hj, hjs⟩ := Option.map_eq_some_iff.1 reSize
  have h8 := fun (args : Array Value) (w : World) => run_callFunc_extern (e := Extern.ReflectliteType.typeOf) Tryd.func69 (by kernel_rfl) (by kernel_rfl) (by kernel_rfl) (by kernel_rfl) args w
  have h32 := fun (args : Array Value) (w : World) => run_callFunc_extern (e := reCmp) Tryd.func111 (by kernel_rfl) (by kernel_rfl) (by kernel_rfl) (by kernel_rfl) args w
  have tT := reTypeOf
  have cT := reComparable
  have mR := reMethodComparable
  have nA := reNoIsA
  have uA := reUnA
  have mU := reMethodUn
  have kU := unwrapA x (snt b)
  have heq := fun w => run_eql_iface_ptr_same (P := Tryd.prog) w b Tryd.underlying50 Tryd.underlying142 hi hcmp hj
  have hty := run_eql_iface_types (P := Tryd.prog) 76 142 (.agg #[.int .i64 x, snt b]) (.pointer (some b)) Tryd.underlying50 (by decide) w
  go_enter Tryd.func48, Tryd.ntmps48
  go_wp2
  refine wp_loop_rounds 2 ?_
  rw [rounds_succ]
  go_wp2_with fail
  refine (kU _).mono ?_
  rintro e w2 ⟨rfl, hb2⟩
  go_wp2
  rw [rounds_succ]
  go_wp2
  go_ret
  exact ⟨rfl, hb2⟩
set_option maxHeartbeats 4000000 in
theorem is_at_other (x : Int) (a b : Addr) (ca cb : Array Value) (ta tb : TypeId) (w : World) (hne : a ≠ b) (ha : w.heap[a.block]? = some (.cells ca ta (0, 0))) (hb : w.heap[b.block]? = some (.cells cb tb (0, 0))) :
    Calls Tryd.prog 48 #[atB x a, snt b] w fun e w' => e = .returned (.bool false) ∧ Below w.heap.size w w' := by
  obtain ⟨i, hi, hcmp⟩ := Option.map_eq_some_iff.1 reComp
  obtain ⟨j, hj, hjs⟩ := Option.map_eq_some_iff.1 reSize
  have h8 := fun (args : Array Value) (w : World) => run_callFunc_extern (e := Extern.ReflectliteType.typeOf) Tryd.func69 (by kernel_rfl) (by kernel_rfl) (by kernel_rfl) (by kernel_rfl) args w
  have h32 := fun (args : Array Value) (w : World) => run_callFunc_extern (e := reCmp) Tryd.func111 (by kernel_rfl) (by kernel_rfl) (by kernel_rfl) (by kernel_rfl) args w
  have tT := reTypeOf
  have cT := reComparable
  have mR := reMethodComparable
  have nE := reNoIs
  have uE := reNoUn
  have vE := reNoUns
  have nA := reNoIsA
  have uA := reUnA
  have mU := reMethodUn
  have kU := unwrapA x (snt a)
  have heq := fun (w2 : World) (k : Below w.heap.size w w2) => run_eql_iface_ptr_other (P := Tryd.prog) w2 Tryd.underlying50 Tryd.underlying142 hi hcmp hj (by rw [hjs]; decide) hne ((k.block a.block (Array.getElem?_eq_some_iff.1 ha).1).trans ha) ((k.block b.block (Array.getElem?_eq_some_iff.1 hb).1).trans hb)
  have hty := run_eql_iface_types (P := Tryd.prog) 76 142 (.agg #[.int .i64 x, snt a]) (.pointer (some b)) Tryd.underlying50 (by decide) w
  go_enter Tryd.func48, Tryd.ntmps48
  go_wp2
  refine wp_loop_rounds 2 ?_
  rw [rounds_succ]
  go_wp2_with fail
  refine (kU _).mono ?_
  rintro e w2 ⟨rfl, hb2⟩
  have heq2 := heq w2 hb2
  clear heq
  go_wp2
  rw [rounds_succ]
  go_wp2
  go_ret
  exact ⟨rfl, hb2⟩
end Go.Proofs.YtmlfijapndkfhaaDoor
