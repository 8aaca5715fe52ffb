/- Cells as a value. -/
import Derived.Test.YtgfmeineialcgaaLqBase
namespace Go.Proofs.Ytgfmeineialcgaa
open Go.RowKit

/-- cells as a value -/
abbrev cel (W : Int) (a : Option Addr) (n c : Nat) : Value := .agg #[.int .i64 W, .slice a n c]
abbrev celL (W : Int) (a : Option Addr) (n c : Nat) : List Value := [.int .i64 W, .slice a n c]
abbrev celO (W : Int) (a : Option Addr) (n c : Nat) (t : TypeId) : Obj := .cells #[.int .i64 W, .slice a n c] t
theorem lq_zero (w : World) (lo hi : Nat) (F : Nat → Int) : LQ w lo hi none 0 F := lq_none _ _ _ _ _

/-- a return of cells out of their box -/
theorem ret_cel {fn : Func} {t : Tmp} {R : Ending → World → Prop} {a : Act} {w : World} {b : Nat} {u v : Value} (h : fn.results = #[.cell t 29]) (hp : a.tmps.getD t undef = .pointer (some ⟨b, 0, none⟩)) (c0 : w.cell? ⟨b, 0, none⟩ = some u) (c1 : w.cell? ⟨b, 1, none⟩ = some v) (hd : a.defers = [])
    (hR : R (.returned (.agg #[u, v])) w) : bodyPost Try.prog fn R .ret a w := by
  refine bodyPost_ret ?_ hd hR
  have hp' : a.tmps[t]?.getD undef = .pointer (some ⟨b, 0, none⟩) := by simpa using hp
  simp [results, h, hp', asAddr, loadVar, go_sem, c0, c1]

end Go.Proofs.Ytgfmeineialcgaa
