/- What was sent: compared by the law, marked and looked at again. -/
import Derived.Test.YtldagjgpapnfpaaQBuR
import Derived.Test.YtldagjgpapnfpaaQBuEq
namespace Go.Proofs.Ytldagjgpapnfpaa
open Go.RowKit
abbrev snv (a b c : Int) (d : Bool) : Value := .agg #[.int .i64 a, .int .i64 b, .int .i64 c, .bool d]
/-- what was sent, in block g -/
structure SnP (w : World) (g n : Nat) (X Y Z : Nat → Int) (G : Nat → Bool) : Prop where
  lt : g < w.heap.size
  c : ∀ j, j < n → w.cell? ⟨g, j * 4, none⟩ = some (.int .i64 (X j)) ∧ w.cell? ⟨g, j * 4 + 1, none⟩ = some (.int .i64 (Y j)) ∧ w.cell? ⟨g, j * 4 + 2, none⟩ = some (.int .i64 (Z j)) ∧ w.cell? ⟨g, j * 4 + 3, none⟩ = some (.bool (G j))
  fz : ∀ j, w.frozen? ⟨g, j, none⟩ = false
def SnQ (w : World) (lo hi : Nat) (a : Option Addr) (n : Nat) (X Y Z : Nat → Int) (G : Nat → Bool) : Prop := 0 < n → ∃ g, a = some ⟨g, 0, none⟩ ∧ lo ≤ g ∧ g < hi ∧ SnP w g n X Y Z G
section
variable {w w' : World} {lo hi lo' hi' g n : Nat} {a : Option Addr} {X Y Z X' Y' Z' : Nat → Int} {G G' : Nat → Bool}
theorem SnP.of (h : SnP w g n X Y Z G) (hs : w.heap.size ≤ w'.heap.size) (e : w'.heap[g]? = w.heap[g]?) : SnP w' g n X Y Z G :=
  ⟨Nat.lt_of_lt_of_le h.lt hs, fun j hj => ⟨(cell_same e _).trans (h.c j hj).1, (cell_same e _).trans (h.c j hj).2.1, (cell_same e _).trans (h.c j hj).2.2.1, (cell_same e _).trans (h.c j hj).2.2.2⟩, fun j => (frozen_same e j).trans (h.fz j)⟩
theorem SnQ.on (h : SnQ w lo hi a n X Y Z G) (k : Below w.heap.size w w') : SnQ w' lo hi a n X Y Z G := fun h0 => by
  obtain ⟨g, e, h1, h2, hP⟩ := h h0
  exact ⟨g, e, h1, h2, hP.of k.size (k.block g hP.lt)⟩
theorem SnQ.turns (h : SnQ w lo hi a n X Y Z G) (k : Turns lo' hi' w w') (hd : hi ≤ lo' ∨ hi' ≤ lo) : SnQ w' lo hi a n X Y Z G := fun h0 => by
  obtain ⟨g, e, h1, h2, hP⟩ := h h0
  exact ⟨g, e, h1, h2, hP.of k.size (k.block g hP.lt (by omega))⟩
end
theorem snC_get : ∀ (l : List (Int × Int × Int × Bool)) (j : Nat) (x : Int × Int × Int × Bool), l[j]? = some x → (snC l)[j * 4]? = some (.int .i64 x.1) ∧ (snC l)[j * 4 + 1]? = some (.int .i64 x.2.1) ∧ (snC l)[j * 4 + 2]? = some (.int .i64 x.2.2.1) ∧ (snC l)[j * 4 + 3]? = some (.bool x.2.2.2)
  | [], j, x, h => by simp at h
  | (a, b, c, d) :: l, 0, x, h => by
    simp at h
    subst h
    exact ⟨rfl, rfl, rfl, rfl⟩
  | (a, b, c, d) :: l, j + 1, x, h => by
    have ih := snC_get l j x (by simpa using h)
    have e : ∀ r, (snC ((a, b, c, d) :: l))[(j + 1) * 4 + r]? = (snC l)[j * 4 + r]? := fun r => by
      rw [snC, show (j + 1) * 4 + r = j * 4 + r + 4 by omega]
      rfl
    exact ⟨by have := e 0; simp only [Nat.add_zero] at this; rw [this]; exact ih.1, (e 1).trans ih.2.1, (e 2).trans ih.2.2.1, (e 3).trans ih.2.2.2⟩
def sn1 (l : List (Int × Int × Int × Bool)) (j : Nat) : Int := (l.getD j (0, 0, 0, false)).1
def sn2 (l : List (Int × Int × Int × Bool)) (j : Nat) : Int := (l.getD j (0, 0, 0, false)).2.1
def sn3 (l : List (Int × Int × Int × Bool)) (j : Nat) : Int := (l.getD j (0, 0, 0, false)).2.2.1
def sn4 (l : List (Int × Int × Int × Bool)) (j : Nat) : Bool := (l.getD j (0, 0, 0, false)).2.2.2
theorem OwS.sq {w : World} {base mid : Nat} {a : Option Addr} {c : Nat} {l : List (Int × Int × Int × Bool)} (h : OwS w base (.slice a l.length c) l) (hm : ∀ q, (Value.slice a l.length c).ownBlock = some q → q < mid) : SnQ w base mid a l.length (sn1 l) (sn2 l) (sn3 l) (sn4 l) := fun h0 => by
  have h' := h
  obtain ⟨_, ⟨_, h1⟩ | ⟨g, cap, cur, h1, h2, h3, h4, _⟩⟩ := h
  · omega
  · cases h1
    refine ⟨g, rfl, h2, hm g rfl, (Array.getElem?_eq_some_iff.1 h3).1, fun j hj => ?_, fun j => World.ownsRow.frozenAt h' j⟩
    have hx : l[j]? = some (l.getD j (0, 0, 0, false)) := by simp [List.getD, List.getElem?_eq_getElem hj]
    obtain ⟨x1, x2, x3, x4⟩ := snC_get l j _ hx
    have hl := snC_len l
    exact ⟨(World.ownsRow.cellAt h' _ (by omega)).trans x1, (World.ownsRow.cellAt h' _ (by omega)).trans x2, (World.ownsRow.cellAt h' _ (by omega)).trans x3, (World.ownsRow.cellAt h' _ (by omega)).trans x4⟩
set_option maxHeartbeats 400000 in
theorem eqSent_any (a b c : Int) (d : Bool) (w : World) :
    Calls Try.prog 39 #[snv a b c d, snv a b c d] w fun e w' => e = .returned (.bool true) ∧ Below w.heap.size w w' := by
  have j1 : (d != d) = false := by cases d <;> rfl
  go_enter Try.func39, Try.ntmps39
  go_wp2
  go_returns
  refine ⟨rfl, ?_⟩
  repeat' (first | exact Below.refl _ _ | refine below_dr ?_ _ | refine Below.alloc ?_ (by simp <;> omega) _ | refine Below.setCell ?_ (by simp <;> omega) _)
set_option maxRecDepth 20000 in
set_option maxHeartbeats 4000000 in
theorem eqSentS_any (a1 a2 : Option Addr) (n c1 c2 l1 h1 l2 h2 : Nat) (X Y Z : Nat → Int) (G : Nat → Bool) (w : World) (hn : n ≤ 1048576) (q1 : SnQ w l1 h1 a1 n X Y Z G) (q2 : SnQ w l2 h2 a2 n X Y Z G) :
    Calls Try.prog 12 #[.slice a1 n c1, .slice a2 n c2] w fun e w' => e = .returned (.bool true) ∧ Below w.heap.size w w' := by
  have Q1 : Hid (SnQ w l1 h1 a1 n X Y Z G) := q1
  have Q2 : Hid (SnQ w l2 h2 a2 n X Y Z G) := q2
  clear q1 q2
  go_enter Try.func12, Try.ntmps12
  go_wp2
  go_loopw [5] (fun i wr => ∃ k : Nat, k ≤ n ∧ i = .int .i64 k ∧ Below w.heap.size w wr) (fun i _ => n - (intOf i).toNat)
  case atStart => exact ⟨0, Nat.zero_le _, rfl, Below.refl _ _⟩
  case round =>
    obtain ⟨k, hk, rfl, hB⟩ := hrel
    by_cases hlt : k < n
    · obtain ⟨b1, rfl, -, -, P1⟩ := (Q1.out.on hB) (by omega)
      obtain ⟨b2, rfl, -, -, P2⟩ := (Q2.out.on hB) (by omega)
      obtain ⟨x0, x1, x2, x3⟩ := P1.c k hlt
      obtain ⟨y0, y1, y2, y3⟩ := P2.c k hlt
      have l1 := P1.lt
      have l2 := P2.lt
      have hlt' : (k : Int) < (n : Int) := by omega
      have hw0 := Below.refl wr.heap.size wr
      clear P1 P2
      generalize X k = A at *
      generalize Y k = B at *
      generalize Z k = C at *
      generalize G k = D at *
      go_wp2_with fail
      go_region_held3 (fun w' => w'.cell? ⟨b1, k * 4, none⟩ = some (.int .i64 A) ∧ w'.cell? ⟨b1, k * 4 + 1, none⟩ = some (.int .i64 B) ∧ w'.cell? ⟨b1, k * 4 + 2, none⟩ = some (.int .i64 C) ∧ w'.cell? ⟨b1, k * 4 + 3, none⟩ = some (.bool D) ∧ w'.cell? ⟨b2, k * 4, none⟩ = some (.int .i64 A) ∧ w'.cell? ⟨b2, k * 4 + 1, none⟩ = some (.int .i64 B) ∧ w'.cell? ⟨b2, k * 4 + 2, none⟩ = some (.int .i64 C) ∧ w'.cell? ⟨b2, k * 4 + 3, none⟩ = some (.bool D))
        (first | (exact ⟨keepN x0 l1 hw0.drew, keepN x1 l1 hw0.drew, keepN x2 l1 hw0.drew, keepN x3 l1 hw0.drew, keepN y0 l2 hw0.drew, keepN y1 l2 hw0.drew, keepN y2 l2 hw0.drew, keepN y3 l2 hw0.drew⟩) | (exact ⟨keepN x0 l1 hw1, keepN x1 l1 hw1, keepN x2 l1 hw1, keepN x3 l1 hw1, keepN y0 l2 hw1, keepN y1 l2 hw1, keepN y2 l2 hw1, keepN y3 l2 hw1⟩) | (fail))
        ((go_at_call 39; refine (eqSent_any _ _ _ _ _).mono ?_; rintro e w1 ⟨rfl, hbn⟩; have hw1 := stepA hw0.drew hbn; clear hbn))
      go_wp2
      go_roundw
      case rel => exact ⟨k + 1, by omega, by go_num, hB.trans (hw1.mono hB.size)⟩
      case measure => simp [intOf]; omega
    · go_wp2
      go_ret
      exact ⟨rfl, hB⟩
end Go.Proofs.Ytldagjgpapnfpaa
