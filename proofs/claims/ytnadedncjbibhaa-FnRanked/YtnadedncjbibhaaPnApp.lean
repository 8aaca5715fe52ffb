/- An append inside a region that draws its order; a list cut at its end. -/
import Derived.Test.YtnadedncjbibhaaPnM
import Derived.Deep.RegionHeld
namespace Go.Proofs.Ytnadedncjbibhaa
open Go.RowKit
theorem held_append {P : Program} {o : Oper} {a : Act} {w w' : World} {K : Act → World → Prop} {Q : Exit → Act → World → Prop} {b : Prop} [Decidable b] (hb : b) (s x : Operand) (t : TypeId) (ho : o.op = .call { callee := .builtin .append, args := #[s, x], argTypes := #[t, t] }) {v vx v' : Value} (hs : a.eval s = v) (hx : a.eval x = vx) (hr : (Builtin.append_ #[t, t] o.type #[v, vx]).run P w = .ok v' w') (h : K (a.put o.dst v') w') : if b then Oper.wp P o a w K Q else K (a.put o.dst undef) w := by
  rw [if_pos hb]
  unfold Oper.wp execOp
  simp only [ho, resolve, invoke, builtin, Sem.run_bind, Sem.run_pure, Result.andThen_ok, List.map_toArray, List.map_cons, List.map_nil, hs, hx, hr]
  exact h
/-- the answer time of a chore -/
noncomputable def atV (F : Nat → Int) (i : Nat) : Int := open Classical in if h : ∃ v, AtIs F i v then Classical.choose h else 0
theorem atV_of {F : Nat → Int} {i : Nat} {v : Int} (a : AtIs F i v) : v = atV F i := by
  have h : ∃ v, AtIs F i v := ⟨v, a⟩
  unfold atV
  rw [dif_pos h]
  exact a.uniq (Classical.choose_spec h)
/-- how many answer times are told -/
def atN (n : Nat) (F : Nat → Int) : Nat := if gcV n F then n else 0
end Go.Proofs.Ytnadedncjbibhaa
