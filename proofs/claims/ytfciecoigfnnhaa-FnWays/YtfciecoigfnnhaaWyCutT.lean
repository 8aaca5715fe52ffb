/- What a region leaves that lays a step's toll into a new variable. -/
import Derived.Test.YtfciecoigfnnhaaLqBase
namespace Go.Proofs.Ytfciecoigfnnhaa
open Go.RowKit
/-- what a region leaves that lays a step's toll into a new variable -/
def CutT (wr wx : World) (u v : Int) (q : Bool) (s1 s2 : Value) : Prop := ∃ g, s1 = .pointer (some ⟨g, 0, none⟩) ∧ s2 = .bool q ∧ wr.heap.size ≤ g ∧ Bx wx g [.int .i64 u, .int .i64 v] ∧ Below wr.heap.size wr wx
end Go.Proofs.Ytfciecoigfnnhaa
