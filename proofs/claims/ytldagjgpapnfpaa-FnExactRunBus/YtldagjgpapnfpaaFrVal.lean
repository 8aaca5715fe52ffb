/- A frame as a value. -/
import Derived.Test.YtldagjgpapnfpaaLqBase
namespace Go.Proofs.Ytldagjgpapnfpaa
open Go.RowKit

/-- a frame as a value -/
abbrev frv (W : Int) (a : Option Addr) (n c : Nat) : Value := .agg #[.int .i64 W, .slice a n c]
abbrev frvL (W : Int) (a : Option Addr) (n c : Nat) : List Value := [.int .i64 W, .slice a n c]
abbrev frvO (W : Int) (a : Option Addr) (n c : Nat) (t : TypeId) : Obj := .cells #[.int .i64 W, .slice a n c] t

/-- a return of a frame out of its box -/
theorem ret_frv {fn : Func} {t : Tmp} {R : Ending → World → Prop} {a : Act} {w : World} {b : Nat} {u v : Value} (h : fn.results = #[.cell t 54]) (hp : a.tmps.getD t undef = .pointer (some ⟨b, 0, none⟩)) (c0 : w.cell? ⟨b, 0, none⟩ = some u) (c1 : w.cell? ⟨b, 1, none⟩ = some v) (hd : a.defers = [])
    (hR : R (.returned (.agg #[u, v])) w) : bodyPost Try.prog fn R .ret a w := by
  refine bodyPost_ret ?_ hd hR
  have hp' : a.tmps[t]?.getD undef = .pointer (some ⟨b, 0, none⟩) := by simpa using hp
  simp [results, h, hp', asAddr, loadVar, go_sem, c0, c1]

end Go.Proofs.Ytldagjgpapnfpaa
