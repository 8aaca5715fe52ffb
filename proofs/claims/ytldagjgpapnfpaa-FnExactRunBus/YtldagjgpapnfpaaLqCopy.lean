/- The law's own copy of a list of ints, with its range. -/
import Derived.Test.YtldagjgpapnfpaaLqBase
import Derived.Test.YtldagjgpapnfpaaInCopy
namespace Go.Proofs.Ytldagjgpapnfpaa
open Go.RowKit

theorem copyQ (a : Option Addr) (len cap : Nat) (f : Nat → Int) (w : World) (hl : len ≤ 1048576) (hc : IL w a len f) :
    Calls Try.prog 11 #[.slice a len cap] w fun e w' => e = .returned (.slice (some ⟨w.heap.size, 0, none⟩) len len) ∧ LQ w' w.heap.size (w.heap.size + 1) (some ⟨w.heap.size, 0, none⟩) len f ∧ w.heap.size < w'.heap.size ∧ Below w.heap.size w w' :=
  (copyI_any a len cap f w hl hc).mono fun e w' ⟨v, h1, h2, h3, h4⟩ => ⟨by rw [h1, h2], lq_of (row_ip h3) (Nat.le_refl _) (Nat.lt_succ_self _), h3.lt, h4⟩
end Go.Proofs.Ytldagjgpapnfpaa
