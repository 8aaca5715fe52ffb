/- Rows of texts of a call's own; the reader of a wish. -/
import Derived.Test.YtmlfijapndkfhaaDoorQReM
import Derived.Test.YtmlfijapndkfhaaDoorQLqBase
import Derived.Test.YtmlfijapndkfhaaDoorQReCd
import Derived.Test.YtmlfijapndkfhaaDoorQWhWtH
import Derived.OwnWalk
namespace Go.Proofs.YtmlfijapndkfhaaDoor
open Go.RowKit
theorem infoSt : (Tryd.prog.info? 9).map (fun i => (i.zero, i.size, i.bytes)) = some (some (.string ⟨#[]⟩), 1, 16) := by kernel_rfl
def OrS (w : World) (base : Nat) (v : Value) (l : List ByteArray) : Prop := w.ownsRow base 9 1 v l.length (l.map Value.string)
theorem OrS.shape {w : World} {base : Nat} {v : Value} {l : List ByteArray} (h : OrS w base v l) : ∃ a c, v = .slice a l.length c := by
  obtain ⟨_, ⟨rfl, h0⟩ | ⟨g, cap, cur, rfl, _⟩⟩ := h
  · exact ⟨none, 0, by rw [h0]⟩
  · exact ⟨_, _, rfl⟩
theorem OrS.same {w w' : World} {base : Nat} {v : Value} {l : List ByteArray} (h : OrS w base v l) (hb : ∀ q, v.ownBlock = some q → w'.heap[q]? = w.heap[q]?) : OrS w' base v l := by
  obtain ⟨hl, h0 | ⟨g, cap, cur, h1, h2, h3, h4⟩⟩ := h
  · exact ⟨hl, .inl h0⟩
  · exact ⟨hl, .inr ⟨g, cap, cur, h1, h2, (hb g (by rw [h1]; rfl)).trans h3, h4⟩⟩
theorem OrS.on {w w' : World} {base : Nat} {v : Value} {l : List ByteArray} (h : OrS w base v l) (k : Below w.heap.size w w') : OrS w' base v l := h.same fun q hq => k.block q (World.ownsRow.lt h q hq).2
theorem OrS.sl {w : World} {base : Nat} {a : Option Addr} {c : Nat} {l : List ByteArray} (h : OrS w base (.slice a l.length c) l) : SL w a l.length (gS l) := fun h0 => by
  have ho := h
  obtain ⟨_, ⟨_, h1⟩ | ⟨g, cap, cur, h1, h2, h3, h4, _⟩⟩ := h
  · omega
  · cases h1
    refine ⟨g, 0, rfl, (Array.getElem?_eq_some_iff.1 h3).1, fun i hi => ?_⟩
    rw [Nat.zero_add, World.ownsRow.cellAt ho i (by omega), List.getElem?_map]
    unfold gS
    rw [List.getElem?_eq_getElem hi, getElem!_pos l i hi]
    rfl
def wdP (p : Nat) : ByteArray := if p = 0 then ⟨#[]⟩ else if p = 1 then wdR else wdA
/-- but for block B, what lies below b0 stands -/
structure Kb (B b0 : Nat) (w w' : World) : Prop where
  os : w'.os = w.os
  tape : w'.tape = w.tape
  output : w'.output = w.output
  size : w.heap.size ≤ w'.heap.size
  block : ∀ x, x < b0 → x ≠ B → w'.heap[x]? = w.heap[x]?
section
variable {B b0 : Nat} {w w' w'' : World}
theorem Kb.of (h : Below b0 w w') : Kb B b0 w w' := ⟨h.os, h.tape, h.output, h.size, fun x hx _ => h.block x hx⟩
theorem Kb.refl (B b0 : Nat) (w : World) : Kb B b0 w w := ⟨rfl, rfl, rfl, Nat.le_refl _, fun _ _ _ => rfl⟩
theorem Kb.set (h : Kb B b0 w w') (o : Only B w' w'') : Kb B b0 w w'' := ⟨o.below.os.trans h.os, o.below.tape.trans h.tape, o.below.output.trans h.output, by rw [o.size]; exact h.size, fun x hx hn => (o.block x hn).trans (h.block x hx hn)⟩
theorem Kb.more (h : Kb B b0 w w') (k : Below w'.heap.size w' w'') (hb : b0 ≤ w'.heap.size) : Kb B b0 w w'' := ⟨k.os.trans h.os, k.tape.trans h.tape, k.output.trans h.output, Nat.le_trans h.size k.size, fun x hx hn => (k.block x (by omega)).trans (h.block x hx hn)⟩
theorem Kb.join (h : Kb B b0 w w') (k : Kb B b0 w' w'') : Kb B b0 w w'' := ⟨k.os.trans h.os, k.tape.trans h.tape, k.output.trans h.output, Nat.le_trans h.size k.size, fun x hx hn => (k.block x hx hn).trans (h.block x hx hn)⟩
theorem Kb.below (h : Kb B b0 w w') (hl : B < b0) : Below B w w' := ⟨h.os, h.tape, h.output, h.size, fun x hx => h.block x (by omega) (by omega)⟩
end
/-- the reader, in block B, its lists from block b0 on -/
structure Rd (w : World) (B b0 : Nat) (s : WS) (ra : Option Addr) (rc : Nat) (aa : Option Addr) (ac : Nat) : Prop where
  lb : B < b0 ∧ b0 ≤ w.heap.size
  bx : Bx w B [.slice ra s.R.length rc, .slice aa s.A.length ac, .string (wdP s.p)]
  r : OrS w b0 (.slice ra s.R.length rc) s.R
  a : OrS w b0 (.slice aa s.A.length ac) s.A
  ne : ∀ q, (Value.slice ra s.R.length rc).ownBlock = some q → (Value.slice aa s.A.length ac).ownBlock ≠ some q
theorem Rd.on {w w' : World} {B b0 : Nat} {s : WS} {ra aa : Option Addr} {rc ac : Nat} (h : Rd w B b0 s ra rc aa ac) (k : Below w.heap.size w w') : Rd w' B b0 s ra rc aa ac := ⟨⟨h.lb.1, Nat.le_trans h.lb.2 k.size⟩, h.bx.on k, h.r.on k, h.a.on k, h.ne⟩
theorem iNamesP (w : World) (B p : Nat) (v1 v2 : Value) (hp : 1 ≤ p ∧ p ≤ 2) (h : Bx w B [v1, v2, .string (wdP p)]) :
    Calls Tryd.prog 68 #[.pointer (some ⟨B, 0, none⟩)] w fun e w' => e = .returned (.pointer (some ⟨B, p - 1, none⟩)) ∧ w' = w := by
  have z := h.c2
  have zl := h.lt
  match p, hp with
  | 1, _ =>
    have e1 : (wdR.toList == [114, 101, 97, 99, 104]) = true := by simp [ByteArray.toList_eq, wdR]
    change w.cell? ⟨B, 2, none⟩ = some (.string wdR) at z
    go_enter Tryd.func68, Tryd.ntmps68
    go_wp2
    go_ret
    exact ⟨rfl, rfl⟩
  | 2, _ =>
    have e1 : (wdA.toList == [114, 101, 97, 99, 104]) = false := by simp [ByteArray.toList_eq, wdA]
    change w.cell? ⟨B, 2, none⟩ = some (.string wdA) at z
    go_enter Tryd.func68, Tryd.ntmps68
    go_wp2
    go_ret
    exact ⟨rfl, rfl⟩
theorem eq0 (k : Nat) : ((k : Int) == 0) = decide (k = 0) := by
  by_cases h : k = 0
  · subst h; rfl
  · rw [decide_eq_false h]; exact beq_eq_false_iff_ne.2 (by omega)
/-- how many names the last word has: none is a lack -/
theorem iLacks (w : World) (B : Nat) (s : WS) (ra : Option Addr) (rc : Nat) (aa : Option Addr) (ac : Nat) (hp : s.p ≤ 2) (h : Bx w B [.slice ra s.R.length rc, .slice aa s.A.length ac, .string (wdP s.p)]) :
    Calls Tryd.prog 47 #[.pointer (some ⟨B, 0, none⟩)] w fun e w' => e = .returned (.bool (decide (s.many = 0))) ∧ w' = w := by
  have z := h.c2
  have y0 := h.c0
  have y1 := h.c1
  have zl := h.lt
  obtain ⟨p, R, A⟩ := s
  match p, hp with
  | 0, _ =>
    have e1 : ((⟨#[]⟩ : ByteArray).toList != (⟨#[]⟩ : ByteArray).toList) = false := by simp
    change w.cell? ⟨B, 2, none⟩ = some (.string ⟨#[]⟩) at z
    go_enter Tryd.func47, Tryd.ntmps47
    go_wp2
    go_ret
    exact ⟨rfl, rfl⟩
  | 1, _ =>
    have kN := iNamesP w B 1 _ _ (by omega) h
    have e1 : (wdR.toList == (⟨#[]⟩ : ByteArray).toList) = false := by simp [ByteArray.toList_eq, wdR]
    have e2 : (wdR.toList == []) = false := by simp [ByteArray.toList_eq, wdR]
    have e3 : wdR.toList.isEmpty = false := by simp [ByteArray.toList_eq, wdR]
    have e4 : ¬ wdR.toList = [] := by simp [ByteArray.toList_eq, wdR]
    change w.cell? ⟨B, 2, none⟩ = some (.string wdR) at z
    change w.cell? ⟨B, 0, none⟩ = some (.slice ra R.length rc) at y0
    go_enter Tryd.func47, Tryd.ntmps47
    go_wp2_with fail
    refine kN.mono ?_
    rintro e w2 ⟨rfl, hw⟩
    have hs := hw.symm
    clear hw kN
    subst hs
    go_wp2
    go_ret
    exact ⟨ret_bool (eq0 R.length), rfl⟩
  | 2, _ =>
    have kN := iNamesP w B 2 _ _ (by omega) h
    have e1 : (wdA.toList == (⟨#[]⟩ : ByteArray).toList) = false := by simp [ByteArray.toList_eq, wdA]
    have e2 : (wdA.toList == []) = false := by simp [ByteArray.toList_eq, wdA]
    have e3 : wdA.toList.isEmpty = false := by simp [ByteArray.toList_eq, wdA]
    have e4 : ¬ wdA.toList = [] := by simp [ByteArray.toList_eq, wdA]
    change w.cell? ⟨B, 2, none⟩ = some (.string wdA) at z
    change w.cell? ⟨B, 1, none⟩ = some (.slice aa A.length ac) at y1
    go_enter Tryd.func47, Tryd.ntmps47
    go_wp2_with fail
    refine kN.mono ?_
    rintro e w2 ⟨rfl, hw⟩
    have hs := hw.symm
    clear hw kN
    subst hs
    go_wp2
    go_ret
    exact ⟨ret_bool (eq0 A.length), rfl⟩
end Go.Proofs.YtmlfijapndkfhaaDoor
