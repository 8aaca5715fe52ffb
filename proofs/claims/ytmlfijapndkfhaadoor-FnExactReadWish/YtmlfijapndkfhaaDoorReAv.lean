/- errors.As at a fault at a byte: what the entries of internal/reflectlite give. -/
import Derived.Test.YtmlfijapndkfhaaDoorReIs
namespace Go.Proofs.YtmlfijapndkfhaaDoor
open Go.RowKit Go.Extern.Stop Go.Stop Go.Extern
abbrev avT (f : Nat) (a : Addr) : Value := .agg #[.pointer (some ⟨9, 76, none⟩), .pointer (some a), .int .u64 (f : Int)]
abbrev avP (a : Addr) : Value := .agg #[.pointer (some ⟨9, 88, none⟩), .pointer (some a), .int .u64 150]
abbrev avR (t : Nat) : Value := .iface 123 (.agg #[.pointer (some ⟨9, t, none⟩)])
theorem avValueP (t : Addr) (w : World) : (ReflectliteValue.unpack (.iface 88 (.pointer (some t)))).run Tryd.prog w = .ok (avP ⟨w.heap.size, 0, none⟩) (w.alloc (.cells #[.pointer (some t)] 88)) := by kernel_rfl
theorem avTypeP (a : Addr) (w : World) : (ReflectliteValue.methodAny (ReflectliteValue.valueError "reflectlite.Value.Type" 0) (fun t _ _ _ => ReflectliteType.toType t) #[avP a]).run Tryd.prog w = .ok (avR 88) w := by kernel_rfl
theorem avMethodKind (h : Value) (w : World) : (Go.method 280 123 (.agg #[h]) "Kind").run Tryd.prog w = .ok (99, h) w := by kernel_rfl
theorem avKindP (w : World) : ((ReflectliteType.abiMethod fun t => (fun a : Nat => Value.int IntKind.u8 (a : Int)) <$> Rtype.kind t) #[.pointer (some ⟨9, 88, none⟩)]).run Tryd.prog w = .ok (.int .u8 22) w := by kernel_rfl
theorem avKindT (w : World) : ((ReflectliteType.abiMethod fun t => (fun a : Nat => Value.int IntKind.u8 (a : Int)) <$> Rtype.kind t) #[.pointer (some ⟨9, 76, none⟩)]).run Tryd.prog w = .ok (.int .u8 25) w := by kernel_rfl
theorem avRlm (z : Sem Value) (f : TypeId → Addr → Nat → Nat → Sem Value) (v : Value) :
    ReflectliteValue.method z f #[v] = (do match ← ReflectliteValue.parts v with | none => z | some (t, a, fl) => f t a fl (fl % 32)) := rfl
theorem avPartsP (a : Addr) (w : World) : (ReflectliteValue.parts (avP a)).run Tryd.prog w = .ok (some (88, a, 150)) w := by kernel_rfl
theorem avIsNil (a p : Addr) (W : World) (ha : W.cell? a = some (.pointer (some p))) :
    (ReflectliteValue.method (ReflectliteValue.valueError "reflectlite.Value.IsNil" 0) ReflectliteValue.isNil #[avP a]).run Tryd.prog W = .ok (.bool false) W := by
  rw [avRlm]
  simp only [Sem.run_bind, avPartsP, Result.andThen]
  simp [ReflectliteValue.isNil, loadVar, isAgg, underlying, Tryd.underlying88, ha, Result.andThen]
theorem avMethodElem (h : Value) (w : World) : (Go.method 280 123 (.agg #[h]) "Elem").run Tryd.prog w = .ok (112, .agg #[h]) w := by kernel_rfl
theorem avMethodImpl (h : Value) (w : World) : (Go.method 280 123 (.agg #[h]) "Implements").run Tryd.prog w = .ok (113, .agg #[h]) w := by kernel_rfl
theorem avMethodAssign (h : Value) (w : World) : (Go.method 280 123 (.agg #[h]) "AssignableTo").run Tryd.prog w = .ok (110, .agg #[h]) w := by kernel_rfl
theorem avElem (w : World) : (ReflectliteType.method ReflectliteType.elem #[.agg #[.pointer (some ⟨9, 88, none⟩)]]).run Tryd.prog w = .ok (avR 76) w := by kernel_rfl
theorem avImpl (w : World) : (ReflectliteType.relation "Implements" ReflectliteType.implements_ #[.agg #[.pointer (some ⟨9, 76, none⟩)], avR 50]).run Tryd.prog w = .ok (.bool true) w := by kernel_rfl
theorem avTypeOf (v : Value) (w : World) : (ReflectliteType.typeOf #[.iface 76 v]).run Tryd.prog w = .ok (avR 76) w := by kernel_rfl
theorem avAssign (w : World) : (ReflectliteType.relation "AssignableTo" ReflectliteType.assignableTo #[.agg #[.pointer (some ⟨9, 76, none⟩)], avR 76]).run Tryd.prog w = .ok (.bool true) w := by kernel_rfl
theorem avValueT (x : Int) (v : Value) (w : World) : (ReflectliteValue.unpack (.iface 76 (.agg #[.int .i64 x, v]))).run Tryd.prog w = .ok (avT 153 ⟨w.heap.size, 0, none⟩) (w.alloc (.cells #[.int .i64 x, v] 76)) := by kernel_rfl
theorem avElemOf (w : World) : (Rtype.elem? 88).run Tryd.prog w = .ok (some 76) w := by kernel_rfl
theorem avMk (p : Addr) (w : World) : (ReflectliteValue.mk 76 p ReflectliteValue.flagAddr).run Tryd.prog w = .ok (avT 409 p) w := by kernel_rfl
theorem avElemV (a p : Addr) (W : World) (ha : W.cell? a = some (.pointer (some p))) :
    (ReflectliteValue.method (ReflectliteValue.valueError "reflectlite.Value.Elem" 0) ReflectliteValue.elem #[avP a]).run Tryd.prog W = .ok (avT 409 p) W := by
  rw [avRlm]
  simp only [Sem.run_bind, avPartsP, Result.andThen]
  simp [ReflectliteValue.elem, loadVar, isAgg, underlying, Tryd.underlying88, ha, Result.andThen, avElemOf, avMk]
theorem avPartsA (a : Addr) (w : World) : (ReflectliteValue.parts (avT 409 a)).run Tryd.prog w = .ok (some (76, a, 409)) w := by kernel_rfl
theorem avParts (a : Addr) (w : World) : (ReflectliteValue.parts (avT 153 a)).run Tryd.prog w = .ok (some (76, a, 153)) w := by kernel_rfl
theorem avDirect (w : World) : (Rtype.directlyAssignable 76 76).run Tryd.prog w = .ok true w := by kernel_rfl
theorem avSize (w : World) : (sizeOf 76).run Tryd.prog w = .ok 2 w := by kernel_rfl
end Go.Proofs.YtmlfijapndkfhaaDoor
