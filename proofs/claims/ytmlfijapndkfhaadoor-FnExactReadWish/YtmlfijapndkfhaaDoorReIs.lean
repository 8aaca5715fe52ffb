/- errors.Is where the target is a sentinel: of nil, and of a fault that wraps a sentinel by a method of its own. -/
import Derived.Test.YtmlfijapndkfhaaDoorInCore
import Derived.WalkKit
import Derived.LaidEql
import Derived.Stop.Asserts
import Derived.RowKitTokens
namespace Go.Proofs.YtmlfijapndkfhaaDoor
open Go.RowKit Go.Extern.Stop Go.Stop Go.Extern
theorem reTypeOf (v : Value) (w : World) : (Extern.ReflectliteType.typeOf #[.iface 142 v]).run Tryd.prog w = .ok (.iface 123 (.agg #[.pointer (some ⟨9, 142, none⟩)])) w := by kernel_rfl
/-- the entry for Comparable -/
def reCmp : Array Value → Sem Value := Extern.ReflectliteType.method fun t => do Extern.Rtype.noPackHeld "Comparable" t; pure (.bool (← typeInfo t).comparable)
theorem reComparable (w : World) : (reCmp #[.agg #[.pointer (some ⟨9, 142, none⟩)]]).run Tryd.prog w = .ok (.bool true) w := by kernel_rfl
theorem reMethodComparable (v : Value) (w : World) : (Go.method 280 123 v "Comparable").run Tryd.prog w = .ok (111, v) w := by kernel_rfl
theorem reComp : (Tryd.prog.info? 142).map (·.comparable) = some true := by kernel_rfl
theorem reSize : (Tryd.prog.info? 164).map (·.size) = some 1 := by kernel_rfl
theorem reNoIs (v : Value) (xT : TypeId) (w : World) : (Instr.typeAssert (.iface 142 v) xT 125 true).run Tryd.prog w = .ok (.tuple #[.nilIface, .bool false]) w := run_typeAssert_lacksB Tryd.underlying125 (by kernel_rfl) (by kernel_rfl) v xT w
theorem reNoUn (v : Value) (xT : TypeId) (w : World) : (Instr.typeAssert (.iface 142 v) xT 128 true).run Tryd.prog w = .ok (.tuple #[.nilIface, .bool false]) w := run_typeAssert_lacksB Tryd.underlying128 (by kernel_rfl) (by kernel_rfl) v xT w
theorem reNoUns (v : Value) (xT : TypeId) (w : World) : (Instr.typeAssert (.iface 142 v) xT 130 true).run Tryd.prog w = .ok (.tuple #[.nilIface, .bool false]) w := run_typeAssert_lacksB Tryd.underlying130 (by kernel_rfl) (by kernel_rfl) v xT w
theorem reNoIsA (v : Value) (xT : TypeId) (w : World) : (Instr.typeAssert (.iface 76 v) xT 125 true).run Tryd.prog w = .ok (.tuple #[.nilIface, .bool false]) w := run_typeAssert_lacksB Tryd.underlying125 (by kernel_rfl) (by kernel_rfl) v xT w
theorem reUnA (v : Value) (xT : TypeId) (w : World) : (Instr.typeAssert (.iface 76 v) xT 128 true).run Tryd.prog w = .ok (.tuple #[.iface 76 v, .bool true]) w := run_typeAssert_hasB Tryd.underlying128 (by kernel_rfl) v xT w
theorem reMethodUn (v : Value) (w : World) : (Go.method 280 76 v "Unwrap").run Tryd.prog w = .ok (105, v) w := by kernel_rfl
/-- a sentinel's own value -/
abbrev snt (a : Addr) : Value := .iface 142 (.pointer (some a))
/-- a fault at a byte -/
abbrev atB (x : Int) (a : Addr) : Value := .iface 76 (.agg #[.int .i64 x, snt a])
theorem unwrapA (x : Int) (v : Value) (w : World) :
    Calls Tryd.prog 105 #[.agg #[.int .i64 x, v]] w fun e w' => e = .returned v ∧ Below w.heap.size w w' := by
  have h0 : Below w.heap.size w (w.alloc (.cells #[.int .i64 x, v] 76)) := (Below.refl _ _).alloc (Nat.le_refl _) _
  go_enter Tryd.func105, Tryd.ntmps105
  go_wp2
  go_ret
  exact ⟨rfl, h0⟩
theorem is_nil (b : Addr) (w : World) :
    Calls Tryd.prog 48 #[.nilIface, snt b] w fun e w' => e = .returned (.bool false) ∧ Below w.heap.size w w' := by
  have hn := run_eql_iface_nil_left (P := Tryd.prog) w 142 (.pointer (some b)) Tryd.underlying50
  go_enter Tryd.func48, Tryd.ntmps48
  go_wp2
  go_ret
  exact ⟨rfl, Below.refl _ _⟩
end Go.Proofs.YtmlfijapndkfhaaDoor
