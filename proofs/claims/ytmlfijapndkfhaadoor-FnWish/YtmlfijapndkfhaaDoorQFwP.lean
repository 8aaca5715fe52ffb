/- A part of a wish's text, and its parts laid together, as the program does it. -/
import Derived.Test.YtmlfijapndkfhaaDoorQFwC
import Derived.Test.YtmlfijapndkfhaaDoorQJnShelf
namespace Go.Proofs.YtmlfijapndkfhaaDoor
open Go.RowKit
theorem OwS.mono {w : World} {base base' : Nat} {v : Value} {l : List ByteArray} (h : OwS w base v l) (hb : base' ≤ base) : OwS w base' v l := by
  obtain ⟨hl, h | ⟨g, cap, cur, h1, h2, h3⟩⟩ := h
  · exact ⟨hl, .inl h⟩
  · exact ⟨hl, .inr ⟨g, cap, cur, h1, Nat.le_trans hb h2, h3⟩⟩
theorem slL_get (l : List ByteArray) : slL (fun i => l[i]!) l.length = l := by
  apply List.ext_getElem?
  intro i
  by_cases h : i < l.length
  · simp [slL, h]
  · simp [slL, h]
/-- a list of texts that a function tells -/
def AnsT (w' : World) (e : Ending) (l : List ByteArray) : Prop := ∃ a c, e = .returned (.slice a l.length c) ∧ ((a = none ∧ l.length = 0 ∧ c = 0) ∨ ∃ b o, a = some ⟨b, o, none⟩) ∧ SL w' a l.length (fun i => l[i]!)
theorem ansT_ows {w' : World} {base : Nat} {v : Value} {l : List ByteArray} (h : OwS w' base v l) : AnsT w' (.returned v) l := by
  rcases h.shape with ⟨rfl, rfl⟩ | ⟨g, c, rfl, _, _, _⟩
  · exact ⟨none, 0, rfl, .inl ⟨rfl, rfl, rfl⟩, SL.none _ _⟩
  · exact ⟨_, c, rfl, .inr ⟨g, 0, rfl⟩, ows_sl h rfl⟩
theorem cell_str (w : World) (s : ByteArray) (t : TypeId) : SL (w.alloc (.cells #[.string s] t)) (some ⟨w.heap.size, 0, none⟩) 1 (fun _ => s) := fun _ => ⟨w.heap.size, 0, rfl, by simp, fun i hi => by
  have : i = 0 := by omega
  subst this
  exact cell_one_new _ _ _ 0 _ (by simp)⟩
set_option maxRecDepth 20000 in
set_option maxHeartbeats 2000000 in
theorem iPart (wd : ByteArray) (a : Option Addr) (n c : Nat) (f : Nat → ByteArray) (w : World) (hn : n ≤ 1048575) (ha : SL w a n f) :
    Calls Tryd.prog 20 #[.string wd, .slice a n c] w fun e w' => AnsT w' e (prtL wd f n) ∧ Below w.heap.size w w' := by
  by_cases h0 : n = 0
  · subst h0
    rw [prtL_zero]
    go_enter Tryd.func20, Tryd.ntmps20
    go_wp2
    go_ret
    exact ⟨⟨none, 0, rfl, .inl ⟨rfl, rfl, rfl⟩, SL.none _ _⟩, Below.refl _ _⟩
  · have HP : Hid (prtL wd f n = slL (fun _ => wd) 1 ++ slL f n) := by
      show prtL wd f n = _
      unfold prtL
      rw [if_neg h0]
      simp [slL]
    have hb1 : Below w.heap.size w (w.alloc (.cells #[.string wd] 9)) := (Below.refl _ _).alloc (Nat.le_refl _) _
    have hb2 : Below w.heap.size w ((w.alloc (.cells #[.string wd] 9)).alloc (.cells #[.slice (some ⟨w.heap.size, 0, none⟩) 1 1, .slice a n c] 23)) := hb1.alloc (by simp) _
    have bx := bx_new (w := w.alloc (.cells #[.string wd] 9)) (b := w.heap.size + 1) [.slice (some ⟨w.heap.size, 0, none⟩) 1 1, .slice a n c] 23 (by simp)
    have s1 := (cell_str w wd 9).alloc (.cells #[.slice (some ⟨w.heap.size, 0, none⟩) 1 1, .slice a n c] 23)
    have k2 : (a = none ∧ n = 0 ∧ c = 0) ∨ ∃ b o, a = some ⟨b, o, none⟩ := by
      obtain ⟨b, o, e, _⟩ := ha (by omega)
      exact .inr ⟨b, o, e⟩
    have kC := iConcat (w.heap.size + 1) (some ⟨w.heap.size, 0, none⟩) a 1 1 n c (fun _ => wd) f _ (by omega) (by omega) (by simp) bx.c0 bx.c1 (.inr ⟨_, _, rfl⟩) k2 s1 (ha.below hb2)
    have e0 : ((n : Int) == 0) = false := by simp; omega
    clear bx s1 k2
    go_enter Tryd.func20, Tryd.ntmps20
    go_wp2_with fail
    refine kC.mono ?_
    rintro e w4 ⟨⟨v, rfl, hO⟩, hb4⟩
    have hB4 := stepA hb2 hb4
    have hA := ansT_ows hO
    rw [← HP.out] at hA
    clear kC HP hO
    go_wp2
    go_ret
    exact ⟨hA, hB4⟩
theorem iJoin {base : Nat} (v : Value) (l : List ByteArray) (w : World) (h : OwS w base v l) (hl : l.length ≤ 1048576) (hs : (Lib.join (l.map (·.data.toList)) wsp.data.toList).length ≤ 140737488355328) :
    Calls Tryd.prog 18 #[v, .string wsp] w fun e w' => e = .returned (.string ⟨(Lib.join (l.map (·.data.toList)) wsp.data.toList).toArray⟩) ∧ Below w.heap.size w w' := by
  rcases h.shape with ⟨rfl, rfl⟩ | ⟨g, c, rfl, _, hg, hc⟩
  · refine (Tryd.strings_Join_none none 0 wsp w).mono ?_
    rintro e w' ⟨rfl, rfl⟩
    exact ⟨rfl, Below.refl _ _⟩
  · refine Tryd.strings_Join g 0 c l wsp w (fun j x hx => ?_) hg (by omega) hc hs
    have hj : j < l.length := (List.getElem?_eq_some_iff.1 hx).1
    rw [Nat.zero_add, World.ownsRow.cellAt h j (by omega)]
    simp [hx]
end Go.Proofs.YtmlfijapndkfhaaDoor
