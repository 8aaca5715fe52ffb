/- errors.Is where the target is a sentinel: of nil, and of a fault that wraps a sentinel by a method of its own. -/
import Derived.Test.YtmlfijapndkfhaaDoorQInCore
import Derived.WalkKit
import Derived.LaidEql
import Derived.Stop.Asserts
import Derived.RowKitTokens
namespace Go.Proofs.YtmlfijapndkfhaaDoor
open Go.RowKit Go.Extern.Stop Go.Stop Go.Extern
theorem reTypeOf (v : Value) (w : World) : (Extern.ReflectliteType.typeOf #[.iface 142 v]).run Tryd.prog w = .ok (.iface 123 (.agg #[.pointer (some ⟨9, 142, none⟩)])) w := by kernel_rfl
/-- the entry for Comparable -/
def reCmp : Array Value → Sem Value := Extern.ReflectliteType.method fun t => do Extern.Rtype.noPackHeld "Comparable" t; pure (.bool (← typeInfo t).comparable)
theorem reComparable (w : World) : (reCmp #[.agg #[.pointer (some ⟨9, 142, none⟩)]]).run Tryd.prog w = .ok (.bool true) w := by kernel_rfl
theorem reMethodComparable (v : Value) (w : World) : (Go.method 280 123 v "Comparable").run Tryd.prog w = .ok (111, v) w := by kernel_rfl
theorem reComp : (Tryd.prog.info? 142).map (·.comparable) = some true := by kernel_rfl
theorem reSize : (Tryd.prog.info? 164).map (·.size) = some 1 := by kernel_rfl
theorem reNoIs (v : Value) (xT : TypeId) (w : World) : (Instr.typeAssert (.iface 142 v) xT 125 true).run Tryd.prog w = .ok (.tuple #[.nilIface, .bool false]) w := run_typeAssert_lacksB Tryd.underlying125 (by kernel_rfl) (by kernel_rfl) v xT w
theorem reNoUn (v : Value) (xT : TypeId) (w : World) : (Instr.typeAssert (.iface 142 v) xT 128 true).run Tryd.prog w = .ok (.tuple #[.nilIface, .bool false]) w := run_typeAssert_lacksB Tryd.underlying128 (by kernel_rfl) (by kernel_rfl) v xT w
theorem reNoUns (v : Value) (xT : TypeId) (w : World) : (Instr.typeAssert (.iface 142 v) xT 130 true).run Tryd.prog w = .ok (.tuple #[.nilIface, .bool false]) w := run_typeAssert_lacksB Tryd.underlying130 (by kernel_rfl) (by kernel_rfl) v xT w
theorem reNoIsA (v : Value) (xT : TypeId) (w : World) : (Instr.typeAssert (.iface 76 v) xT 125 true).run Tryd.prog w = .ok (.tuple #[.nilIface, .bool false]) w := run_typeAssert_lacksB Tryd.underlying125 (by kernel_rfl) (by kernel_rfl) v xT w
theorem reUnA (v : Value) (xT : TypeId) (w : World) : (Instr.typeAssert (.iface 76 v) xT 128 true).run Tryd.prog w = .ok (.tuple #[.iface 76 v, .bool true]) w := run_typeAssert_hasB Tryd.underlying128 (by kernel_rfl) v xT w
theorem reMethodUn (v : Value) (w : World) : (Go.method 280 76 v "Unwrap").run Tryd.prog w = .ok (105, v) w := by kernel_rfl
/-- a sentinel's own value -/
abbrev snt (a : Addr) : Value := .iface 142 (.pointer (some a))
/-- a fault at a byte -/
abbrev atB (x : Int) (a : Addr) : Value := .iface 76 (.agg #[.int .i64 x, snt a])
theorem unwrapA (x : Int) (v : Value) (w : World) :
    Calls Tryd.prog 105 #[.agg #[.int .i64 x, v]] w fun e w' => e = .returned v ∧ Below w.heap.size w w' := by
  have h0 : Below w.heap.size w (w.alloc (.cells #[.int .i64 x, v] 76)) := (Below.refl _ _).alloc (Nat.le_refl _) _
  go_enter Tryd.func105, Tryd.ntmps105
  go_wp2
  go_ret
  exact ⟨rfl, h0⟩
theorem is_nil (b : Addr) (w : World) :
    Calls Tryd.prog 48 #[.nilIface, snt b] w fun e w' => e = .returned (.bool false) ∧ Below w.heap.size w w' := by
  have hn := run_eql_iface_nil_left (P := Tryd.prog) w 142 (.pointer (some b)) Tryd.underlying50
  go_enter Tryd.func48, Tryd.ntmps48
  go_wp2
  go_ret
  exact ⟨rfl, Below.refl _ _⟩
end Go.Proofs.YtmlfijapndkfhaaDoor

/- errors.As at a fault at a byte: what the entries of internal/reflectlite give. -/
namespace Go.Proofs.YtmlfijapndkfhaaDoor
open Go.RowKit Go.Extern.Stop Go.Stop Go.Extern
abbrev avT (f : Nat) (a : Addr) : Value := .agg #[.pointer (some ⟨9, 76, none⟩), .pointer (some a), .int .u64 (f : Int)]
abbrev avP (a : Addr) : Value := .agg #[.pointer (some ⟨9, 88, none⟩), .pointer (some a), .int .u64 150]
abbrev avR (t : Nat) : Value := .iface 123 (.agg #[.pointer (some ⟨9, t, none⟩)])
theorem avValueP (t : Addr) (w : World) : (ReflectliteValue.unpack (.iface 88 (.pointer (some t)))).run Tryd.prog w = .ok (avP ⟨w.heap.size, 0, none⟩) (w.alloc (.cells #[.pointer (some t)] 88)) := by kernel_rfl
theorem avTypeP (a : Addr) (w : World) : (ReflectliteValue.methodAny (ReflectliteValue.valueError "reflectlite.Value.Type" 0) (fun t _ _ _ => ReflectliteType.toType t) #[avP a]).run Tryd.prog w = .ok (avR 88) w := by kernel_rfl
theorem avMethodKind (h : Value) (w : World) : (Go.method 280 123 (.agg #[h]) "Kind").run Tryd.prog w = .ok (99, h) w := by kernel_rfl
theorem avKindP (w : World) : ((ReflectliteType.abiMethod fun t => (fun a : Nat => Value.int IntKind.u8 (a : Int)) <$> Rtype.kind t) #[.pointer (some ⟨9, 88, none⟩)]).run Tryd.prog w = .ok (.int .u8 22) w := by kernel_rfl
theorem avKindT (w : World) : ((ReflectliteType.abiMethod fun t => (fun a : Nat => Value.int IntKind.u8 (a : Int)) <$> Rtype.kind t) #[.pointer (some ⟨9, 76, none⟩)]).run Tryd.prog w = .ok (.int .u8 25) w := by kernel_rfl
theorem avRlm (z : Sem Value) (f : TypeId → Addr → Nat → Nat → Sem Value) (v : Value) :
    ReflectliteValue.method z f #[v] = (do match ← ReflectliteValue.parts v with | none => z | some (t, a, fl) => f t a fl (fl % 32)) := rfl
theorem avPartsP (a : Addr) (w : World) : (ReflectliteValue.parts (avP a)).run Tryd.prog w = .ok (some (88, a, 150)) w := by kernel_rfl
theorem avIsNil (a p : Addr) (W : World) (ha : W.cell? a = some (.pointer (some p))) :
    (ReflectliteValue.method (ReflectliteValue.valueError "reflectlite.Value.IsNil" 0) ReflectliteValue.isNil #[avP a]).run Tryd.prog W = .ok (.bool false) W := by
  rw [avRlm]
  simp only [Sem.run_bind, avPartsP, Result.andThen]
  simp [ReflectliteValue.isNil, loadVar, isAgg, underlying, Tryd.underlying88, ha, Result.andThen]
theorem avMethodElem (h : Value) (w : World) : (Go.method 280 123 (.agg #[h]) "Elem").run Tryd.prog w = .ok (112, .agg #[h]) w := by kernel_rfl
theorem avMethodImpl (h : Value) (w : World) : (Go.method 280 123 (.agg #[h]) "Implements").run Tryd.prog w = .ok (113, .agg #[h]) w := by kernel_rfl
theorem avMethodAssign (h : Value) (w : World) : (Go.method 280 123 (.agg #[h]) "AssignableTo").run Tryd.prog w = .ok (110, .agg #[h]) w := by kernel_rfl
theorem avElem (w : World) : (ReflectliteType.method ReflectliteType.elem #[.agg #[.pointer (some ⟨9, 88, none⟩)]]).run Tryd.prog w = .ok (avR 76) w := by kernel_rfl
theorem avImpl (w : World) : (ReflectliteType.relation "Implements" ReflectliteType.implements_ #[.agg #[.pointer (some ⟨9, 76, none⟩)], avR 50]).run Tryd.prog w = .ok (.bool true) w := by kernel_rfl
theorem avTypeOf (v : Value) (w : World) : (ReflectliteType.typeOf #[.iface 76 v]).run Tryd.prog w = .ok (avR 76) w := by kernel_rfl
theorem avAssign (w : World) : (ReflectliteType.relation "AssignableTo" ReflectliteType.assignableTo #[.agg #[.pointer (some ⟨9, 76, none⟩)], avR 76]).run Tryd.prog w = .ok (.bool true) w := by kernel_rfl
theorem avValueT (x : Int) (v : Value) (w : World) : (ReflectliteValue.unpack (.iface 76 (.agg #[.int .i64 x, v]))).run Tryd.prog w = .ok (avT 153 ⟨w.heap.size, 0, none⟩) (w.alloc (.cells #[.int .i64 x, v] 76)) := by kernel_rfl
theorem avElemOf (w : World) : (Rtype.elem? 88).run Tryd.prog w = .ok (some 76) w := by kernel_rfl
theorem avMk (p : Addr) (w : World) : (ReflectliteValue.mk 76 p ReflectliteValue.flagAddr).run Tryd.prog w = .ok (avT 409 p) w := by kernel_rfl
theorem avElemV (a p : Addr) (W : World) (ha : W.cell? a = some (.pointer (some p))) :
    (ReflectliteValue.method (ReflectliteValue.valueError "reflectlite.Value.Elem" 0) ReflectliteValue.elem #[avP a]).run Tryd.prog W = .ok (avT 409 p) W := by
  rw [avRlm]
  simp only [Sem.run_bind, avPartsP, Result.andThen]
  simp [ReflectliteValue.elem, loadVar, isAgg, underlying, Tryd.underlying88, ha, Result.andThen, avElemOf, avMk]
theorem avPartsA (a : Addr) (w : World) : (ReflectliteValue.parts (avT 409 a)).run Tryd.prog w = .ok (some (76, a, 409)) w := by kernel_rfl
theorem avParts (a : Addr) (w : World) : (ReflectliteValue.parts (avT 153 a)).run Tryd.prog w = .ok (some (76, a, 153)) w := by kernel_rfl
theorem avDirect (w : World) : (Rtype.directlyAssignable 76 76).run Tryd.prog w = .ok true w := by kernel_rfl
theorem avSize (w : World) : (sizeOf 76).run Tryd.prog w = .ok 2 w := by kernel_rfl
end Go.Proofs.YtmlfijapndkfhaaDoor
