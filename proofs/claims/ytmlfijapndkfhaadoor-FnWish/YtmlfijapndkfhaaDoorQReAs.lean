/- errors.As at a fault at a byte: the contract. -/
import Derived.Test.YtmlfijapndkfhaaDoorQReAv
import Derived.Test.YtmlfijapndkfhaaDoorQLqBase
import Derived.Deep.MidRow
namespace Go.Proofs.YtmlfijapndkfhaaDoor
open Go.RowKit Go.Extern.Stop Go.Stop Go.Extern
theorem avRls (v x : Value) : ReflectliteValue.set #[v, x] = (do
    let (some (dst, a, fl), some (src, b, _)) := (← ReflectliteValue.parts v, ← ReflectliteValue.parts x)
      | unsupported (.noEntry "extern/(internal/reflectlite.Value).Set.zeroValue")
    if fl / ReflectliteValue.flagAddr % 2 == 0 then unsupported (.noEntry "extern/(internal/reflectlite.Value).Set.unaddressable")
    let val ← loadVar src b
    if ← Rtype.directlyAssignable dst src then storeVar dst a val
    else if ← Rtype.implements dst src then
      if (← Rtype.kind src) == 20 then
        match val with
        | .nilIface => unsupported (.noEntry "extern/reflectlite: a nil value of one interface type handed on as a value of another")
        | _ => storeVar dst a val
      else storeVar dst a (.iface src val)
    else panicString ("reflectlite.Set: value of type " ++ (← Rtype.spelt src) ++ " is not assignable to type " ++ (← Rtype.spelt dst))
    pure (.tuple #[])) := rfl
theorem avInfo : (Tryd.prog.info? 76).map (·.size) = some 2 := by kernel_rfl
theorem avSet (T B : Nat) (x : Int) (u : Value) (W : World) (hB : Bx W B [.int .i64 x, .iface 142 u]) {o1 o2 : Value} (hT : Bx W T [o1, o2]) :
    (ReflectliteValue.set #[avT 409 ⟨T, 0, none⟩, avT 153 ⟨B, 0, none⟩]).run Tryd.prog W = .ok (.tuple #[]) ((W.setCell ⟨T, 0, none⟩ (.int .i64 x)).setCell ⟨T, 1, none⟩ (.iface 142 u)) := by
  have hr : W.rangeAt B 0 [.int .i64 x, .iface 142 u] := by
    intro j y hu
    have hj : j < 2 := by simpa using (List.getElem?_eq_some_iff.1 hu).1
    rw [Nat.zero_add, hB.c j (by simpa using hj)]
    exact hu
  have ht : W.there T 0 2 := by
    intro j hj
    rw [Nat.zero_add]
    refine ⟨?_, hT.fz j⟩
    rw [hT.c j (by simpa using hj)]
    match j, hj with
    | 0, _ => rfl
    | 1, _ => rfl
  have hl : (loadVar 76 ⟨B, 0, none⟩).run Tryd.prog W = .ok (.agg #[.int .i64 x, .iface 142 u]) W := run_loadVar_mid W B 0 76 [.int .i64 x, .iface 142 u] _ hr Tryd.underlying76 rfl avInfo
  have hst : (storeVar 76 ⟨T, 0, none⟩ (.agg #[.int .i64 x, .iface 142 u])).run Tryd.prog W = .ok () (W.setCells T 0 [.int .i64 x, .iface 142 u]) := run_storeVar_mid W T 0 76 #[.int .i64 x, .iface 142 u] ht avInfo (by simp [Value.oneCell'])
  have hsc : W.setCells T 0 [.int .i64 x, .iface 142 u] = (W.setCell ⟨T, 0, none⟩ (.int .i64 x)).setCell ⟨T, 1, none⟩ (.iface 142 u) := rfl
  rw [hsc] at hst
  rw [avRls]
  simp only [Sem.run_bind, avPartsA, avParts, Result.andThen]
  simp [ReflectliteValue.flagAddr, hl, Result.andThen, avDirect, hst]
theorem as_nil (t : Value) (w : World) : Calls Tryd.prog 49 #[.nilIface, t] w fun e w' => e = .returned (.bool false) ∧ w' = w := by
  go_enter Tryd.func49, Tryd.ntmps49
  go_wp2
  go_ret
  exact ⟨rfl, rfl⟩
abbrev avPO (a : Addr) : Obj := .cells #[.pointer (some ⟨9, 88, none⟩), .pointer (some a), .int .u64 150] 109
set_option maxHeartbeats 4000000 in
theorem as_at (x : Int) (a : Addr) (T : Nat) {o1 o2 : Value} (w : World) (hg : w.cell? ⟨5, 0, none⟩ = some (avR 50)) (hgl : 5 < w.heap.size) (hT : Bx w T [o1, o2]) :
    Calls Tryd.prog 49 #[atB x a, .iface 88 (.pointer (some ⟨T, 0, none⟩))] w fun e w' => e = .returned (.bool true) ∧ Turns T (T + 1) w w' ∧ Bx w' T [.int .i64 x, snt a] := by
  have h71 := fun (args : Array Value) (w : World) => run_callFunc_extern (e := fun args => ReflectliteValue.unpack (args.getD 0 (.tuple #[]))) Tryd.func71 (by kernel_rfl) (by kernel_rfl) (by kernel_rfl) (by kernel_rfl) args w
  have h72 := fun (args : Array Value) (w : World) => run_callFunc_extern (e := ReflectliteValue.methodAny (ReflectliteValue.valueError "reflectlite.Value.Type" 0) (fun t _ _ _ => ReflectliteType.toType t)) Tryd.func72 (by kernel_rfl) (by kernel_rfl) (by kernel_rfl) (by kernel_rfl) args w
  have h73 := fun (args : Array Value) (w : World) => run_callFunc_extern (e := ReflectliteValue.method (ReflectliteValue.valueError "reflectlite.Value.IsNil" 0) ReflectliteValue.isNil) Tryd.func73 (by kernel_rfl) (by kernel_rfl) (by kernel_rfl) (by kernel_rfl) args w
  have h99 := fun (args : Array Value) (w : World) => run_callFunc_extern (e := ReflectliteType.abiMethod fun t => do pure (.int .u8 (← Rtype.kind t))) Tryd.func99 (by kernel_rfl) (by kernel_rfl) (by kernel_rfl) (by kernel_rfl) args w
  have h112 := fun (args : Array Value) (w : World) => run_callFunc_extern (e := ReflectliteType.method ReflectliteType.elem) Tryd.func112 (by kernel_rfl) (by kernel_rfl) (by kernel_rfl) (by kernel_rfl) args w
  have h113 := fun (args : Array Value) (w : World) => run_callFunc_extern (e := ReflectliteType.relation "Implements" ReflectliteType.implements_) Tryd.func113 (by kernel_rfl) (by kernel_rfl) (by kernel_rfl) (by kernel_rfl) args w
  have h69 := fun (args : Array Value) (w : World) => run_callFunc_extern (e := ReflectliteType.typeOf) Tryd.func69 (by kernel_rfl) (by kernel_rfl) (by kernel_rfl) (by kernel_rfl) args w
  have h110 := fun (args : Array Value) (w : World) => run_callFunc_extern (e := ReflectliteType.relation "AssignableTo" ReflectliteType.assignableTo) Tryd.func110 (by kernel_rfl) (by kernel_rfl) (by kernel_rfl) (by kernel_rfl) args w
  have h82 := fun (args : Array Value) (w : World) => run_callFunc_extern (e := ReflectliteValue.method (ReflectliteValue.valueError "reflectlite.Value.Elem" 0) ReflectliteValue.elem) Tryd.func82 (by kernel_rfl) (by kernel_rfl) (by kernel_rfl) (by kernel_rfl) args w
  have h83 := fun (args : Array Value) (w : World) => run_callFunc_extern (e := ReflectliteValue.set) Tryd.func83 (by kernel_rfl) (by kernel_rfl) (by kernel_rfl) (by kernel_rfl) args w
  have tO := avTypeOf
  have mA := avMethodAssign
  have aT := avAssign
  have vT := avValueT
  have vP := avValueP
  have tP := avTypeP
  have mK := avMethodKind
  have mE := avMethodElem
  have mI := avMethodImpl
  have kP := avKindP
  have kT := avKindT
  have eP := avElem
  have iT := avImpl
  have hA1 : Below w.heap.size w (w.alloc (.cells #[.pointer (some ⟨T, 0, none⟩)] 88)) := (Below.refl _ _).alloc (Nat.le_refl _) _
  have hA2 : Below w.heap.size w ((w.alloc (.cells #[.pointer (some ⟨T, 0, none⟩)] 88)).alloc (avPO ⟨w.heap.size, 0, none⟩)) := hA1.alloc (by simp) _
  have hA3 : Below w.heap.size w (((w.alloc (.cells #[.pointer (some ⟨T, 0, none⟩)] 88)).alloc (avPO ⟨w.heap.size, 0, none⟩)).alloc (avPO ⟨w.heap.size, 0, none⟩)) := hA2.alloc (by simp; omega) _
  have hA4 : Below w.heap.size w ((((w.alloc (.cells #[.pointer (some ⟨T, 0, none⟩)] 88)).alloc (avPO ⟨w.heap.size, 0, none⟩)).alloc (avPO ⟨w.heap.size, 0, none⟩)).alloc (.cells #[.int .i64 x, snt a] 76)) := hA3.alloc (by simp; omega) _
  have b1 := bx_new (w := w) [.pointer (some ⟨T, 0, none⟩)] 88 rfl
  have n8 := avIsNil ⟨w.heap.size, 0, none⟩ ⟨T, 0, none⟩ ((w.alloc (.cells #[.pointer (some ⟨T, 0, none⟩)] 88)).alloc (avPO ⟨w.heap.size, 0, none⟩)) (b1.alloc _).c0
  have el := avElemV ⟨w.heap.size, 0, none⟩ ⟨T, 0, none⟩ (((w.alloc (.cells #[.pointer (some ⟨T, 0, none⟩)] 88)).alloc (avPO ⟨w.heap.size, 0, none⟩)).alloc (avPO ⟨w.heap.size, 0, none⟩)) ((b1.alloc _).alloc _).c0
  have b4 := bx_new (w := ((w.alloc (.cells #[.pointer (some ⟨T, 0, none⟩)] 88)).alloc (avPO ⟨w.heap.size, 0, none⟩)).alloc (avPO ⟨w.heap.size, 0, none⟩)) (b := w.heap.size + 1 + 1 + 1) [.int .i64 x, snt a] 76 (by simp)
  have hT4 := hT.on hA4
  have st := avSet T (w.heap.size + 1 + 1 + 1) x (.pointer (some a)) _ b4 hT4
  have hg2 : ((w.alloc (.cells #[.pointer (some ⟨T, 0, none⟩)] 88)).alloc (avPO ⟨w.heap.size, 0, none⟩)).cell? ⟨5, 0, none⟩ = some (avR 50) := (hA2.cell (p := ⟨5, 0, none⟩) hgl).trans hg
  have hTl := hT.lt
  have hfin : Turns T (T + 1) w (((((w.alloc (.cells #[.pointer (some ⟨T, 0, none⟩)] 88)).alloc (avPO ⟨w.heap.size, 0, none⟩)).alloc (avPO ⟨w.heap.size, 0, none⟩)).alloc (.cells #[.int .i64 x, snt a] 76)).setCell ⟨T, 0, none⟩ (.int .i64 x) |>.setCell ⟨T, 1, none⟩ (snt a)) :=
    (turns_of hA4).trans (OnlyIn.of (((Only.refl T _).set 0 _).set 1 _) (Nat.le_refl _) (Nat.lt_succ_self _)).turns
  have bfin := (hT4.set 0 (by simp) (.int .i64 x)).set 1 (by simp) (snt a)
  clear hA1 hA2 hA3 hA4 b1 b4 hT4 hT
  go_enter Tryd.func49, Tryd.ntmps49
  go_wp2
  refine wp_loop_rounds 1 ?_
  rw [rounds_succ]
  go_wp2
  go_ret
  exact ⟨rfl, hfin, bfin⟩
end Go.Proofs.YtmlfijapndkfhaaDoor
