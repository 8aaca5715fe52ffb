/- A row of texts of a call's own. -/
import Derived.Test.YtoleblhidieheaaLqBase
namespace Go.Proofs.Ytoleblhidieheaa
open Go.RowKit
theorem infoS : (Try.prog.info? 9).map (fun i => (i.zero, i.size, i.bytes)) = some (some (.string ⟨#[]⟩), 1, 16) := by kernel_rfl
/-- a row of texts of a call's own -/
def OwS (w : World) (base : Nat) (v : Value) (l : List ByteArray) : Prop := w.ownsRow base 9 1 v l.length (l.map Value.string)
theorem OwS.below {w w' : World} {base : Nat} {v : Value} {l : List ByteArray} (h : OwS w base v l) (b : Below w.heap.size w w') : OwS w' base v l := by
  unfold OwS at h ⊢
  obtain ⟨hl, h⟩ := h
  refine ⟨hl, ?_⟩
  rcases h with h | ⟨g, cap, cur, h1, h2, h3, h4⟩
  · exact .inl h
  · have hg : g < w.heap.size := (Array.getElem?_eq_some_iff.1 h3).1
    exact .inr ⟨g, cap, cur, h1, h2, (b.block g hg).trans h3, h4⟩
theorem OwS.shape {w : World} {base : Nat} {v : Value} {l : List ByteArray} (h : OwS w base v l) : ∃ a c, v = .slice a l.length c := by
  obtain ⟨_, ⟨h1, h2⟩ | ⟨g, cap, cur, hv, hb, hg, h3, _⟩⟩ := h
  · exact ⟨none, 0, by rw [h1, h2]⟩
  · exact ⟨_, cap, hv⟩
theorem ows_snoc {w : World} {base : Nat} {v : Value} {l : List ByteArray} {x : ByteArray} (h : w.ownsRow base 9 1 v (l.length + 1) (l.map Value.string ++ [.string x])) : OwS w base v (l ++ [x]) := by
  unfold OwS
  rw [List.length_append, List.map_append]
  exact h
theorem ows_nil (w : World) (base : Nat) : OwS w base (.slice none 0 0) [] := ⟨rfl, .inl ⟨rfl, rfl⟩⟩
/-- the answer of a function that tells texts -/
def AnsTs (w w' : World) (e : Ending) (l : List ByteArray) : Prop := ∃ a c, e = .returned (.slice a l.length c) ∧ OwS w' w.heap.size (.slice a l.length c) l
end Go.Proofs.Ytoleblhidieheaa
