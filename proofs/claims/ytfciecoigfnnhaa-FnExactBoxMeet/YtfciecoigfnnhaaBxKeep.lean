/- What of two boxes stands behind a step. -/
import Derived.Test.YtfciecoigfnnhaaBxMath
namespace Go.Proofs.Ytfciecoigfnnhaa
open Go.RowKit
theorem keepB {w w' : World} {b1 b2 : Nat} {u v u' v' : Value} (h1 : Bx w b1 [u, v]) (h2 : Bx w b2 [u', v']) (k : Below w.heap.size w w') :
    w'.cell? ⟨b1, 0, none⟩ = some u ∧ w'.cell? ⟨b1, 1, none⟩ = some v ∧ w'.cell? ⟨b2, 0, none⟩ = some u' ∧ w'.cell? ⟨b2, 1, none⟩ = some v' :=
  ⟨(h1.on k).c0, (h1.on k).c1, (h2.on k).c0, (h2.on k).c1⟩
end Go.Proofs.Ytfciecoigfnnhaa
