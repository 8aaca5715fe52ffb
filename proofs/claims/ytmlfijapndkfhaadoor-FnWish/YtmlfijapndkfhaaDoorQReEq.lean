/- Wishes as they were read: compared, marked, held. -/
import Derived.Test.YtmlfijapndkfhaaDoorQReIm
import Derived.Test.YtmlfijapndkfhaaDoorQWhMkQ
import Derived.Laws.OwnMore
namespace Go.Proofs.YtmlfijapndkfhaaDoor
open Go.RowKit
theorem bl_same (a : ByteArray) : (a.toList == a.toList) = true := by simp
theorem bl_same' (a : ByteArray) : (a.toList != a.toList) = false := by simp
theorem VQ.sl {w : World} {lo hi : Nat} {a : Option Addr} {n : Nat} {S : Nat → ByteArray} (h : VQ w lo hi a n (fun i => .string (S i))) : SL w a n S := fun h0 => by
  obtain ⟨b, e, _, _, hP⟩ := h h0
  exact ⟨b, 0, e, hP.lt, fun i hi => by rw [Nat.zero_add]; exact hP.c i hi⟩
theorem OrS.at {w : World} {base : Nat} {a : Option Addr} {c : Nat} {l : List ByteArray} (h : OrS w base (.slice a l.length c) l) (h0 : 0 < l.length) : ∃ g, a = some ⟨g, 0, none⟩ ∧ base ≤ g ∧ VP w g l.length (fun i => .string (gS l i)) := by
  have ho := h
  obtain ⟨_, ⟨_, h1⟩ | ⟨g, cap, cur, h1, h2, h3, h4, _⟩⟩ := h
  · omega
  · cases h1
    refine ⟨g, rfl, h2, (Array.getElem?_eq_some_iff.1 h3).1, fun i hi => ?_, fun i => World.ownsRow.frozenAt ho i⟩
    rw [World.ownsRow.cellAt ho i (by omega), List.getElem?_map]
    unfold gS
    rw [List.getElem?_eq_getElem hi, getElem!_pos l i hi]
    rfl
/-- two lists of texts of a call's own, in blocks from lo on, below hi, not in the same one -/
def WQ (w : World) (lo hi : Nat) (a : Option Addr) (n : Nat) (F : Nat → ByteArray) (b : Option Addr) (m : Nat) (G : Nat → ByteArray) : Prop :=
  ∃ l1 h1 l2 h2, lo ≤ l1 ∧ h1 ≤ hi ∧ lo ≤ l2 ∧ h2 ≤ hi ∧ (h1 ≤ l2 ∨ h2 ≤ l1) ∧ VQ w l1 h1 a n (fun i => .string (F i)) ∧ VQ w l2 h2 b m (fun i => .string (G i))
theorem OrS.wq {w : World} {base : Nat} {ra aa : Option Addr} {rc ac : Nat} {R A : List ByteArray} (h1 : OrS w base (.slice ra R.length rc) R) (h2 : OrS w base (.slice aa A.length ac) A) (hne : ∀ q, (Value.slice ra R.length rc).ownBlock = some q → (Value.slice aa A.length ac).ownBlock ≠ some q) (hb : base ≤ w.heap.size) : WQ w base w.heap.size ra R.length (gS R) aa A.length (gS A) := by
  by_cases c1 : 0 < R.length
  · obtain ⟨g, rfl, e1, p1⟩ := h1.at c1
    by_cases c2 : 0 < A.length
    · obtain ⟨g', rfl, e2, p2⟩ := h2.at c2
      have hn : g ≠ g' := fun e => hne g rfl (by rw [e]; rfl)
      have := p1.lt
      have := p2.lt
      exact ⟨g, g + 1, g', g' + 1, by omega, by omega, by omega, by omega, by omega, fun _ => ⟨g, rfl, by omega, by omega, p1⟩, fun _ => ⟨g', rfl, by omega, by omega, p2⟩⟩
    · have := p1.lt
      exact ⟨g, g + 1, base, base, by omega, by omega, by omega, by omega, by omega, fun _ => ⟨g, rfl, by omega, by omega, p1⟩, fun h => absurd h c2⟩
  · by_cases c2 : 0 < A.length
    · obtain ⟨g', rfl, e2, p2⟩ := h2.at c2
      have := p2.lt
      exact ⟨base, base, g', g' + 1, by omega, by omega, by omega, by omega, by omega, fun h => absurd h c1, fun _ => ⟨g', rfl, by omega, by omega, p2⟩⟩
    · exact ⟨base, base, base, base, by omega, by omega, by omega, by omega, by omega, fun h => absurd h c1, fun h => absurd h c2⟩
/-- what is told of a text: the two lists, the code, the place -/
def rdR : Except (Nat × Int) WS → List ByteArray
  | .error _ => []
  | .ok s => s.R
def rdA : Except (Nat × Int) WS → List ByteArray
  | .error _ => []
  | .ok s => s.A
def rdK : Except (Nat × Int) WS → Int
  | .error q => (q.1 : Int)
  | .ok _ => 0
def rdX : Except (Nat × Int) WS → Int
  | .error q => q.2
  | .ok _ => 0
theorem AnsWr.wq {w w' : World} {e : Ending} {r : Except (Nat × Int) WS} (h : AnsWr w w' e r) (hb : w.heap.size ≤ w'.heap.size) : ∃ ra rc aa ac, e = .returned (wrd ra (rdR r).length rc aa (rdA r).length ac (rdK r) (rdX r)) ∧ WQ w' w.heap.size w'.heap.size ra (rdR r).length (gS (rdR r)) aa (rdA r).length (gS (rdA r)) := by
  rcases r with ⟨k, x⟩ | s
  · exact ⟨none, 0, none, 0, h, w.heap.size, w.heap.size, w.heap.size, w.heap.size, by omega, by omega, by omega, by omega, by omega, vq_none _ _ _ _ _, vq_none _ _ _ _ _⟩
  · obtain ⟨ra, rc, aa, ac, rfl, ⟨h1, h2⟩, _, hne⟩ := h
    exact ⟨ra, rc, aa, ac, rfl, h1.wq h2 hne hb⟩
section
variable {w w' : World} {lo hi lo' hi' : Nat} {a b : Option Addr} {n m : Nat} {F G : Nat → ByteArray}
theorem WQ.sl1 (h : WQ w lo hi a n F b m G) : SL w a n F := by
  obtain ⟨_, _, _, _, _, _, _, _, _, h, _⟩ := h; exact h.sl
theorem WQ.sl2 (h : WQ w lo hi a n F b m G) : SL w b m G := by
  obtain ⟨_, _, _, _, _, _, _, _, _, _, h⟩ := h; exact h.sl
theorem WQ.on (h : WQ w lo hi a n F b m G) (k : Below w.heap.size w w') : WQ w' lo hi a n F b m G := by
  obtain ⟨l1, h1, l2, h2, i1, i2, i3, i4, i5, j1, j2⟩ := h
  exact ⟨l1, h1, l2, h2, i1, i2, i3, i4, i5, j1.on k, j2.on k⟩
end
/-- a wish as a value -/
abbrev wsv (a : Option Addr) (n c : Nat) (b : Option Addr) (m d : Nat) : Value := .agg #[.slice a n c, .slice b m d]
set_option maxHeartbeats 800000 in
theorem eqSt (a1 a2 : Option Addr) (len c1 c2 : Nat) (S : Nat → ByteArray) (w : World) (hl : len ≤ 1048576) (hc1 : SL w a1 len S) (hc2 : SL w a2 len S) :
    Calls Tryd.prog 53 #[.slice a1 len c1, .slice a2 len c2] w fun e w' => e = .returned (.bool true) ∧ Below w.heap.size w w' := by
  go_enter Tryd.func53, Tryd.ntmps53
  go_wp2
  go_loopw [5] (fun i wr => ∃ k : Nat, k ≤ len ∧ i = .int .i64 k ∧ Below w.heap.size w wr) (fun i _ => len - (intOf i).toNat)
  case atStart => exact ⟨0, Nat.zero_le _, rfl, Below.refl _ _⟩
  case round =>
    obtain ⟨k, hk, rfl, hB⟩ := hrel
    by_cases hlt : k < len
    · obtain ⟨b1, o1, rfl, hb1, hcell1⟩ := hc1 (by omega)
      obtain ⟨b2, o2, rfl, hb2, hcell2⟩ := hc2 (by omega)
      have hk1 : wr.cell? ⟨b1, o1 + k, none⟩ = some (.string (S k)) := (hB.cell (p := ⟨b1, _, none⟩) hb1).trans (hcell1 k hlt)
      have hk2 : wr.cell? ⟨b2, o2 + k, none⟩ = some (.string (S k)) := (hB.cell (p := ⟨b2, _, none⟩) hb2).trans (hcell2 k hlt)
      have hlt' : (k : Int) < (len : Int) := by omega
      clear hcell1 hcell2 hc1 hc2
      have hse := bl_same (S k)
      have hsn := bl_same' (S k)
      generalize S k = s at *
      go_wp2
      go_region
      go_wp2
      exact ⟨⟨k + 1, by omega, by go_num, by first | exact hB | exact below_dr hB _ | exact hB.drew⟩, by simp [intOf]; omega⟩
    · clear hc1 hc2
      go_wp2
      go_ret
      exact ⟨rfl, hB⟩
set_option maxHeartbeats 2000000 in
theorem eqW (a b a' b' : Option Addr) (n m c d c' d' : Nat) (F G : Nat → ByteArray) (w : World) (hn : n ≤ 1048576) (hm : m ≤ 1048576) (h1 : SL w a n F) (h2 : SL w b m G) (h3 : SL w a' n F) (h4 : SL w b' m G) :
    Calls Tryd.prog 32 #[wsv a n c b m d, wsv a' n c' b' m d'] w fun e w' => e = .returned (.bool true) ∧ Below w.heap.size w w' := by
  have hb0 : Below w.heap.size w (w.alloc (.cells #[.slice a n c, .slice b m d] 25)) := (Below.refl _ _).alloc (Nat.le_refl _) _
  have bA := bx_new (w := w) [.slice a n c, .slice b m d] 25 rfl
  have hb1 : Below (w.alloc (.cells #[.slice a n c, .slice b m d] 25)).heap.size (w.alloc (.cells #[.slice a n c, .slice b m d] 25)) ((w.alloc (.cells #[.slice a n c, .slice b m d] 25)).alloc (.cells #[.slice a' n c', .slice b' m d'] 25)) := (Below.refl _ _).alloc (Nat.le_refl _) _
  have bC := bx_new (w := w.alloc (.cells #[.slice a n c, .slice b m d] 25)) [.slice a' n c', .slice b' m d'] 25 rfl
  have bA1 := bA.on hb1
  rw [size_al] at bC
  have hB := stepA hb0 hb1
  clear hb0 hb1 bA
  go_enter Tryd.func32, Tryd.ntmps32
  go_upto_region 1 with fail
  generalize (w.alloc (.cells #[.slice a n c, .slice b m d] 25)).alloc (.cells #[.slice a' n c', .slice b' m d'] 25) = w1 at *
  have x0 := bA1.c0
  have y0 := bC.c0
  go_wp2_with fail
  refine (eqSt a a' n c c' F w1 hn (h1.below hB) (h3.below hB)).mono ?_
  rintro e w2 ⟨rfl, hb2⟩
  have x1 := (bA1.on hb2).c1
  have y1 := (bC.on hb2).c1
  have hB2 := stepA hB hb2
  clear x0 y0 hb2
  go_wp2_with fail
  refine (eqSt b b' m d d' G w2 hm (h2.below hB2) (h4.below hB2)).mono ?_
  rintro e w3 ⟨rfl, hb3⟩
  have hB3 := stepA hB2 hb3
  go_wp2
  go_ret
  exact ⟨rfl, hB3⟩
set_option maxHeartbeats 2000000 in
theorem eqWr (a b a' b' : Option Addr) (n m c d c' d' : Nat) (k x : Int) (F G : Nat → ByteArray) (w : World) (hn : n ≤ 1048576) (hm : m ≤ 1048576) (h1 : SL w a n F) (h2 : SL w b m G) (h3 : SL w a' n F) (h4 : SL w b' m G) :
    Calls Tryd.prog 12 #[wrd a n c b m d k x, wrd a' n c' b' m d' k x] w fun e w' => e = .returned (.bool true) ∧ Below w.heap.size w w' := by
  have hb0 : Below w.heap.size w (w.alloc (.cells #[.slice a n c, .slice b m d, .int .i64 k, .int .i64 x] 30)) := (Below.refl _ _).alloc (Nat.le_refl _) _
  have bA := bx_new (w := w) [.slice a n c, .slice b m d, .int .i64 k, .int .i64 x] 30 rfl
  have hb1 : Below (w.alloc (.cells #[.slice a n c, .slice b m d, .int .i64 k, .int .i64 x] 30)).heap.size (w.alloc (.cells #[.slice a n c, .slice b m d, .int .i64 k, .int .i64 x] 30)) ((w.alloc (.cells #[.slice a n c, .slice b m d, .int .i64 k, .int .i64 x] 30)).alloc (.cells #[.slice a' n c', .slice b' m d', .int .i64 k, .int .i64 x] 30)) := (Below.refl _ _).alloc (Nat.le_refl _) _
  have bC := bx_new (w := w.alloc (.cells #[.slice a n c, .slice b m d, .int .i64 k, .int .i64 x] 30)) [.slice a' n c', .slice b' m d', .int .i64 k, .int .i64 x] 30 rfl
  have bA1 := bA.on hb1
  rw [size_al] at bC
  have hB := stepA hb0 hb1
  clear hb0 hb1 bA
  go_enter Tryd.func12, Tryd.ntmps12
  go_upto_region 1 with fail
  generalize (w.alloc (.cells #[.slice a n c, .slice b m d, .int .i64 k, .int .i64 x] 30)).alloc (.cells #[.slice a' n c', .slice b' m d', .int .i64 k, .int .i64 x] 30) = w1 at *
  have x0 := bA1.c0
  have y0 := bC.c0
  have x1 := bA1.c1
  have y1 := bC.c1
  go_wp2_with fail
  refine (eqW a b a' b' n m c d c' d' F G w1 hn hm (h1.below hB) (h2.below hB) (h3.below hB) (h4.below hB)).mono ?_
  rintro e w2 ⟨rfl, hb2⟩
  have x2 := (bA1.on hb2).c2
  have y2 := (bC.on hb2).c2
  have x3 := (bA1.on hb2).c3
  have y3 := (bC.on hb2).c3
  have hB2 := stepA hB hb2
  clear x0 y0 x1 y1 hb2
  have ek : (k != k) = false := by simp
  have ex : (x != x) = false := by simp
  go_wp2
  go_ret
  exact ⟨rfl, hB2⟩
end Go.Proofs.YtmlfijapndkfhaaDoor
