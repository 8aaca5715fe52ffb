/- Lists of texts in memory; a row of texts of a call's own. -/
import Derived.Test.YthhaemdpnphhoaaDoorLqBase
import Derived.Test.YthhaemdpnphhoaaDoorTpM
namespace Go.Proofs.YthhaemdpnphhoaaDoor
open Go.RowKit
theorem infoS : (Tryd.prog.info? 9).map (fun i => (i.zero, i.size, i.bytes)) = some (some (.string ⟨#[]⟩), 1, 16) := by kernel_rfl
/-- the texts of a slice -/
def TL (w : World) (a : Option Addr) (l : List ByteArray) : Prop := l ≠ [] → ∃ b off, a = some ⟨b, off, none⟩ ∧ b < w.heap.size ∧ ∀ i x, l[i]? = some x → w.cell? ⟨b, off + i, none⟩ = some (.string x)
theorem TL.on {w w' : World} {a : Option Addr} {l : List ByteArray} (h : TL w a l) (k : Below w.heap.size w w') : TL w' a l := fun hl => by
  obtain ⟨b, off, rfl, hb, hc⟩ := h hl
  exact ⟨b, off, rfl, Nat.lt_of_lt_of_le hb k.size, fun i x hx => (k.cell (p := ⟨b, off + i, none⟩) hb).trans (hc i x hx)⟩
theorem tl_new (w : World) (l : List ByteArray) (t : TypeId) : TL (w.alloc (.cells (l.map Value.string).toArray t)) (some ⟨w.heap.size, 0, none⟩) l := fun hl => by
  have hr := World.rowIs_alloc w (l.map Value.string).toArray t (fun i => .string (l.getD i ⟨#[]⟩)) (by
    intro i hi
    have hi' : i < l.length := by simpa using hi
    simp [hi', List.getD])
  refine ⟨_, 0, rfl, hr.lt, fun i x hx => ?_⟩
  have hi : i < l.length := (List.getElem?_eq_some_iff.1 hx).1
  rw [Nat.zero_add, hr.cell (by simpa using hi)]
  simp [List.getD, hx]
/-- a row of texts of a call's own -/
def OwS (w : World) (base : Nat) (v : Value) (l : List ByteArray) : Prop := w.ownsRow base 9 1 v l.length (l.map Value.string)
theorem OwS.below {w w' : World} {base : Nat} {v : Value} {l : List ByteArray} (h : OwS w base v l) (b : Below w.heap.size w w') : OwS w' base v l := by
  unfold OwS at h ⊢
  obtain ⟨hl, h⟩ := h
  refine ⟨hl, ?_⟩
  rcases h with h | ⟨g, cap, cur, h1, h2, h3, h4⟩
  · exact .inl h
  · have hg : g < w.heap.size := (Array.getElem?_eq_some_iff.1 h3).1
    exact .inr ⟨g, cap, cur, h1, h2, (b.block g hg).trans h3, h4⟩
theorem OwS.shape {w : World} {base : Nat} {v : Value} {l : List ByteArray} (h : OwS w base v l) : ∃ a c, v = .slice a l.length c := by
  obtain ⟨_, ⟨h1, h2⟩ | ⟨g, cap, cur, hv, hb, hg, h3, _⟩⟩ := h
  · exact ⟨none, 0, by rw [h1, h2]⟩
  · exact ⟨_, cap, hv⟩
theorem OwS.tl {w : World} {base : Nat} {a : Option Addr} {c : Nat} {l : List ByteArray} (h : OwS w base (.slice a l.length c) l) : TL w a l := fun h0 => by
  have h' := h
  obtain ⟨_, ⟨_, h2⟩ | ⟨g, cap, cur, hv, hb, hg, _⟩⟩ := h
  · exact absurd (List.length_eq_zero_iff.1 h2) h0
  · cases hv
    refine ⟨g, 0, rfl, (Array.getElem?_eq_some_iff.1 hg).1, fun i x hx => ?_⟩
    have hi : i < l.length := (List.getElem?_eq_some_iff.1 hx).1
    rw [Nat.zero_add, World.ownsRow.cellAt h' i (by omega)]
    simp [hx]
theorem ows_snoc {w : World} {base : Nat} {v : Value} {l : List ByteArray} {x : ByteArray} (h : w.ownsRow base 9 1 v (l.length + 1) (l.map Value.string ++ [.string x])) : OwS w base v (l ++ [x]) := by
  unfold OwS
  rw [List.length_append, List.map_append]
  exact h
theorem ows_nil (w : World) (base : Nat) : OwS w base (.slice none 0 0) [] := ⟨rfl, .inl ⟨rfl, rfl⟩⟩
theorem tl_at {w : World} {a : Option Addr} {l : List ByteArray} (h : TL w a l) {k : Nat} (hk : k < l.length) : ∃ b off, a = some ⟨b, off, none⟩ ∧ b < w.heap.size ∧ w.cell? ⟨b, off + k, none⟩ = some (.string l[k]) := by
  obtain ⟨b, off, e, hb, hc⟩ := h (by intro e; rw [e] at hk; simp at hk)
  exact ⟨b, off, e, hb, hc k _ (List.getElem?_eq_getElem hk)⟩
end Go.Proofs.YthhaemdpnphhoaaDoor
