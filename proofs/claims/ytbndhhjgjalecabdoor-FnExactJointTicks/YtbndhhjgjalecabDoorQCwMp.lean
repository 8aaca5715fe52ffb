/- A map of the call's own, from keys of any kind to ints: what is looked up, what a store leaves. -/
import Derived.Test.YtbndhhjgjalecabDoorQLqBase
import Derived.Maps.OwnSet
namespace Go.Proofs.YtbndhhjgjalecabDoor
open Go.RowKit Go.Maps Go.ChangeMaps

/-- keys of a type: each x that is ok is told as a value -/
structure KK {κ : Type} (Mt Kt : TypeId) (kv : κ → Value) (ok : κ → Prop) : Prop where
  law : Keyed Tryd.prog Kt
  ty : Tryd.prog.underlying Mt = some (.map Kt 3)
  key : ∀ x, ok x → ∃ l, keyOf Tryd.prog Kt (kv x) = some l
  inj : ∀ x y, kv x = kv y → x = y
/-- block Mb is a map that tells M -/
def MI {κ : Type} (Kt : TypeId) (kv : κ → Value) (ok : κ → Prop) (w : World) (Mb n : Nat) (M : κ → Option Int) : Prop :=
  ∃ D : DataW Unit, w.ownsMap Tryd.prog Kt (plainElem Tryd.prog 3) Mb n D ∧ ∀ x l, ok x → keyOf Tryd.prog Kt (kv x) = some l → has D l = (M x).isSome ∧ D.atKey l (.lit (.int .i64 0)) = .lit (.int .i64 ((M x).getD 0))
theorem zeroI (w : World) : (zeroValue 3).run Tryd.prog w = .ok (.int .i64 0) w := by kernel_rfl
section
variable {κ : Type} {Mt Kt : TypeId} {kv : κ → Value} {ok : κ → Prop} {w w' : World} {Mb n : Nat} {M : κ → Option Int}
theorem MI.look (h : MI Kt kv ok w Mb n M) (K : KK Mt Kt kv ok) {x : κ} (hx : ok x) :
    (Instr.lookup Mt (.map (some Mb)) (kv x) true).run Tryd.prog w = .ok (.tuple #[.int .i64 ((M x).getD 0), .bool (M x).isSome]) w := by
  obtain ⟨D, hD, hM⟩ := h
  obtain ⟨l, hl⟩ := K.key x hx
  obtain ⟨v, ps, hr, hv⟩ := hD.look_ok K.law K.ty (zeroI w) (plainElem_int Tryd.underlying3 (by decide)) hl
  obtain ⟨c, rfl, hc, -⟩ := plainElem_int_inv Tryd.underlying3 hv
  have e := hM x l hx hl
  rw [hr, e.1]
  have e2 : DataW.lit (.int .i64 ((M x).getD 0)) = (.lit (.int .i64 c) : DataW Unit) := by rw [← e.2]; exact congrArg Prod.fst hc
  simp only [DataW.lit.injEq, Lit.int.injEq] at e2
  rw [e2.2]
theorem MI.at (h : MI Kt kv ok w Mb n M) (K : KK Mt Kt kv ok) {x : κ} (hx : ok x) :
    (Instr.lookup Mt (.map (some Mb)) (kv x) false).run Tryd.prog w = .ok (.int .i64 ((M x).getD 0)) w := by
  obtain ⟨D, hD, hM⟩ := h
  obtain ⟨l, hl⟩ := K.key x hx
  obtain ⟨c, hr, hat, -⟩ := hD.lookup_int K.law K.ty Tryd.underlying3 (zeroI w) hl
  have e := hM x l hx hl
  rw [e.2] at hat
  simp only [DataW.lit.injEq, Lit.int.injEq] at hat
  rw [hr, hat.2]
theorem MI.store (h : MI Kt kv ok w Mb n M) (K : KK Mt Kt kv ok) (hn : n ≤ 1000000) {x : κ} (hx : ok x) {v : Int} (hv : (Lit.int .i64 v).wf = true) {M' : κ → Option Int} (e1 : M' x = some v) (e2 : ∀ y, y ≠ x → M' y = M y) :
    ∃ w', (Instr.mapUpdate Mt (.map (some Mb)) (kv x) (.int .i64 v)).run Tryd.prog w = .ok () w' ∧ MI Kt kv ok w' Mb (n + 1) M' ∧ w.mapTurned w' Mb := by
  obtain ⟨D, hD, hM⟩ := h
  obtain ⟨l, hl⟩ := K.key x hx
  obtain ⟨w', hr, hD', ht⟩ := hD.store K.law K.ty (by unfold maxLen; omega) hl (plainElem_int Tryd.underlying3 hv)
  refine ⟨w', hr, ⟨_, hD', fun y ly hy hly => ?_⟩, ht⟩
  by_cases e : y = x
  · subst e
    obtain rfl : ly = l := Option.some.inj (hly.symm.trans hl)
    rw [has_put_same hD.isMap (K.law.key hl), atKey_put_same hD.isMap (K.law.key hl), e1]
    exact ⟨rfl, rfl⟩
  · have ne : ly ≠ l := fun q => e (K.inj y x (K.law.inj hly (by rw [q]; exact hl)))
    rw [has_put_other ne, atKey_put_other ne, e2 y e]
    exact hM y ly hy hly
theorem mi_made (w : World) (Kt : TypeId) (kv : κ → Value) (ok : κ → Prop) : MI Kt kv ok (w.alloc (.map #[] 0)) w.heap.size 0 (fun _ => none) :=
  ⟨_, World.ownsMap_made w Tryd.prog Kt (plainElem Tryd.prog 3), fun _ _ _ _ => ⟨rfl, rfl⟩⟩
theorem MI.heap (h : MI Kt kv ok w Mb n M) (e : w'.heap[Mb]? = w.heap[Mb]?) : MI Kt kv ok w' Mb n M := by
  obtain ⟨D, ⟨es, clock, hb, r⟩, hL⟩ := h
  exact ⟨D, ⟨es, clock, e.trans hb, r⟩, hL⟩
theorem MI.lt (h : MI Kt kv ok w Mb n M) : Mb < w.heap.size := by
  obtain ⟨D, hD, _⟩ := h
  exact hD.lt
theorem MI.on (h : MI Kt kv ok w Mb n M) (k : Below w.heap.size w w') : MI Kt kv ok w' Mb n M := h.heap (k.block Mb h.lt)
theorem MI.below {B : Nat} (h : MI Kt kv ok w Mb n M) (k : Below B w w') (hB : Mb < B) : MI Kt kv ok w' Mb n M := h.heap (k.block Mb hB)
theorem MI.mono {n' : Nat} (h : MI Kt kv ok w Mb n M) (hn : n ≤ n') : MI Kt kv ok w Mb n' M := by
  obtain ⟨D, hD, hL⟩ := h
  exact ⟨D, hD.mono hn, hL⟩
theorem MI.congr {M' : κ → Option Int} (h : MI Kt kv ok w Mb n M) (e : ∀ x, ok x → M x = M' x) : MI Kt kv ok w Mb n M' := by
  obtain ⟨D, hD, hL⟩ := h
  exact ⟨D, hD, fun x l hx hl => by rw [← e x hx]; exact hL x l hx hl⟩
/-- a map that turned: its block alone -/
theorem turned_turns (h : w.mapTurned w' Mb) : Turns Mb (Mb + 1) w w' := by
  obtain ⟨es, clock, es', clock', hb, rfl⟩ := h
  refine ⟨rfl, rfl, rfl, by simp [setBlock], fun c hc hd => ?_⟩
  simp only [setBlock]
  rw [Array.getElem?_setIfInBounds_ne (by omega)]
end
end Go.Proofs.YtbndhhjgjalecabDoor
