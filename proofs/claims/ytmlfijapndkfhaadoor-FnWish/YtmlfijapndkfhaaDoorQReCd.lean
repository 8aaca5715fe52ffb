/- What a fault of a wish is told as (tools/gen_recd.py). -/
import Derived.Test.YtmlfijapndkfhaaDoorQReAs
import Derived.Test.YtmlfijapndkfhaaDoorQReIt
namespace Go.Proofs.YtmlfijapndkfhaaDoor
open Go.RowKit
/-- the sentinels as they are laid -/
structure Se (w : World) (a : Nat → Addr) : Prop where
  c1 : w.cell? ⟨3, 0, none⟩ = some (snt (a 1))
  c2 : w.cell? ⟨2, 0, none⟩ = some (snt (a 2))
  c3 : w.cell? ⟨1, 0, none⟩ = some (snt (a 3))
  c4 : w.cell? ⟨4, 0, none⟩ = some (snt (a 4))
  c5 : w.cell? ⟨0, 0, none⟩ = some (snt (a 5))
  g : w.cell? ⟨5, 0, none⟩ = some (avR 50)
  l : 6 < w.heap.size
  ne : ∀ i j, 1 ≤ i → i ≤ 5 → 1 ≤ j → j ≤ 5 → i ≠ j → a i ≠ a j
  r : ∀ i, 1 ≤ i → i ≤ 5 → ∃ (c : Array Value) (t : TypeId), w.heap[(a i).block]? = some (.cells c t (0, 0))
theorem Se.of {w w' : World} {a : Nat → Addr} {B : Nat} (h : Se w a) (k : Below B w w') (hB : w.heap.size ≤ B) : Se w' a := by
  have hl := h.l
  have hc : ∀ {b : Nat} {v : Value}, b < 7 → w.cell? ⟨b, 0, none⟩ = some v → w'.cell? ⟨b, 0, none⟩ = some v := fun hb hv => (k.cell (p := ⟨_, 0, none⟩) (by simp; omega)).trans hv
  exact ⟨hc (by decide) h.c1, hc (by decide) h.c2, hc (by decide) h.c3, hc (by decide) h.c4, hc (by decide) h.c5, hc (by decide) h.g, Nat.lt_of_lt_of_le hl k.size, h.ne, fun i h1 h2 => by
    obtain ⟨c, t, e⟩ := h.r i h1 h2
    exact ⟨c, t, (k.block _ (Nat.lt_of_lt_of_le (Array.getElem?_eq_some_iff.1 e).1 hB)).trans e⟩⟩
theorem Se.on {w w' : World} {a : Nat → Addr} (h : Se w a) (k : Below w.heap.size w w') : Se w' a := h.of k (Nat.le_refl _)
theorem isNe {w : World} {a : Nat → Addr} (h : Se w a) (x : Int) (i j : Nat) (h1 : 1 ≤ i) (h2 : i ≤ 5) (h3 : 1 ≤ j) (h4 : j ≤ 5) (hne : i ≠ j) :
    Calls Tryd.prog 48 #[atB x (a i), snt (a j)] w fun e w' => e = .returned (.bool false) ∧ Below w.heap.size w w' := by
  obtain ⟨c, t, e⟩ := h.r i h1 h2
  obtain ⟨c', t', e'⟩ := h.r j h3 h4
  exact is_at_other x (a i) (a j) c c' t t' w (h.ne i j h1 h2 h3 h4 hne) e e'
theorem code_nil (a : Nat → Addr) (w : World) (h : Se w a) : Calls Tryd.prog 23 #[.nilIface] w fun e w' => e = .returned (.int .i64 0) ∧ Below w.heap.size w w' := by
  go_enter Tryd.func23, Tryd.ntmps23
  have y1 := h.c1
  go_wp2_with fail
  refine (is_nil (a 1) _).mono ?_
  rintro e w1 ⟨rfl, hb1⟩
  have h1 := h.on hb1
  clear y1
  have y2 := h1.c2
  go_wp2_with fail
  refine (is_nil (a 2) _).mono ?_
  rintro e w2 ⟨rfl, hb2⟩
  have h2 := h1.on hb2
  clear y2
  have y3 := h2.c3
  go_wp2_with fail
  refine (is_nil (a 3) _).mono ?_
  rintro e w3 ⟨rfl, hb3⟩
  have h3 := h2.on hb3
  clear y3
  have y4 := h3.c4
  go_wp2_with fail
  refine (is_nil (a 4) _).mono ?_
  rintro e w4 ⟨rfl, hb4⟩
  have h4 := h3.on hb4
  clear y4
  have y5 := h4.c5
  go_wp2_with fail
  refine (is_nil (a 5) _).mono ?_
  rintro e w5 ⟨rfl, hb5⟩
  have h5 := h4.on hb5
  clear y5
  have hB := stepA hb1 (stepA hb2 (stepA hb3 (stepA hb4 hb5)))
  go_wp2
  go_ret
  exact ⟨rfl, hB⟩
theorem code_1 (x : Int) (a : Nat → Addr) (w : World) (h : Se w a) : Calls Tryd.prog 23 #[atB x (a 1)] w fun e w' => e = .returned (.int .i64 1) ∧ Below w.heap.size w w' := by
  go_enter Tryd.func23, Tryd.ntmps23
  have y1 := h.c1
  go_wp2_with fail
  refine (is_at_same x (a 1) _).mono ?_
  rintro e w1 ⟨rfl, hb1⟩
  have h1 := h.on hb1
  clear y1
  have hB := hb1
  go_wp2
  go_ret
  exact ⟨rfl, hB⟩
theorem code_2 (x : Int) (a : Nat → Addr) (w : World) (h : Se w a) : Calls Tryd.prog 23 #[atB x (a 2)] w fun e w' => e = .returned (.int .i64 2) ∧ Below w.heap.size w w' := by
  go_enter Tryd.func23, Tryd.ntmps23
  have y1 := h.c1
  go_wp2_with fail
  refine (isNe h x 2 1 (by decide) (by decide) (by decide) (by decide) (by decide)).mono ?_
  rintro e w1 ⟨rfl, hb1⟩
  have h1 := h.on hb1
  clear y1
  have y2 := h1.c2
  go_wp2_with fail
  refine (is_at_same x (a 2) _).mono ?_
  rintro e w2 ⟨rfl, hb2⟩
  have h2 := h1.on hb2
  clear y2
  have hB := (stepA hb1 hb2)
  go_wp2
  go_ret
  exact ⟨rfl, hB⟩
theorem code_3 (x : Int) (a : Nat → Addr) (w : World) (h : Se w a) : Calls Tryd.prog 23 #[atB x (a 3)] w fun e w' => e = .returned (.int .i64 3) ∧ Below w.heap.size w w' := by
  go_enter Tryd.func23, Tryd.ntmps23
  have y1 := h.c1
  go_wp2_with fail
  refine (isNe h x 3 1 (by decide) (by decide) (by decide) (by decide) (by decide)).mono ?_
  rintro e w1 ⟨rfl, hb1⟩
  have h1 := h.on hb1
  clear y1
  have y2 := h1.c2
  go_wp2_with fail
  refine (isNe h1 x 3 2 (by decide) (by decide) (by decide) (by decide) (by decide)).mono ?_
  rintro e w2 ⟨rfl, hb2⟩
  have h2 := h1.on hb2
  clear y2
  have y3 := h2.c3
  go_wp2_with fail
  refine (is_at_same x (a 3) _).mono ?_
  rintro e w3 ⟨rfl, hb3⟩
  have h3 := h2.on hb3
  clear y3
  have hB := (stepA hb1 (stepA hb2 hb3))
  go_wp2
  go_ret
  exact ⟨rfl, hB⟩
theorem code_4 (x : Int) (a : Nat → Addr) (w : World) (h : Se w a) : Calls Tryd.prog 23 #[atB x (a 4)] w fun e w' => e = .returned (.int .i64 4) ∧ Below w.heap.size w w' := by
  go_enter Tryd.func23, Tryd.ntmps23
  have y1 := h.c1
  go_wp2_with fail
  refine (isNe h x 4 1 (by decide) (by decide) (by decide) (by decide) (by decide)).mono ?_
  rintro e w1 ⟨rfl, hb1⟩
  have h1 := h.on hb1
  clear y1
  have y2 := h1.c2
  go_wp2_with fail
  refine (isNe h1 x 4 2 (by decide) (by decide) (by decide) (by decide) (by decide)).mono ?_
  rintro e w2 ⟨rfl, hb2⟩
  have h2 := h1.on hb2
  clear y2
  have y3 := h2.c3
  go_wp2_with fail
  refine (isNe h2 x 4 3 (by decide) (by decide) (by decide) (by decide) (by decide)).mono ?_
  rintro e w3 ⟨rfl, hb3⟩
  have h3 := h2.on hb3
  clear y3
  have y4 := h3.c4
  go_wp2_with fail
  refine (is_at_same x (a 4) _).mono ?_
  rintro e w4 ⟨rfl, hb4⟩
  have h4 := h3.on hb4
  clear y4
  have hB := (stepA hb1 (stepA hb2 (stepA hb3 hb4)))
  go_wp2
  go_ret
  exact ⟨rfl, hB⟩
theorem code_5 (x : Int) (a : Nat → Addr) (w : World) (h : Se w a) : Calls Tryd.prog 23 #[atB x (a 5)] w fun e w' => e = .returned (.int .i64 5) ∧ Below w.heap.size w w' := by
  go_enter Tryd.func23, Tryd.ntmps23
  have y1 := h.c1
  go_wp2_with fail
  refine (isNe h x 5 1 (by decide) (by decide) (by decide) (by decide) (by decide)).mono ?_
  rintro e w1 ⟨rfl, hb1⟩
  have h1 := h.on hb1
  clear y1
  have y2 := h1.c2
  go_wp2_with fail
  refine (isNe h1 x 5 2 (by decide) (by decide) (by decide) (by decide) (by decide)).mono ?_
  rintro e w2 ⟨rfl, hb2⟩
  have h2 := h1.on hb2
  clear y2
  have y3 := h2.c3
  go_wp2_with fail
  refine (isNe h2 x 5 3 (by decide) (by decide) (by decide) (by decide) (by decide)).mono ?_
  rintro e w3 ⟨rfl, hb3⟩
  have h3 := h2.on hb3
  clear y3
  have y4 := h3.c4
  go_wp2_with fail
  refine (isNe h3 x 5 4 (by decide) (by decide) (by decide) (by decide) (by decide)).mono ?_
  rintro e w4 ⟨rfl, hb4⟩
  have h4 := h3.on hb4
  clear y4
  have y5 := h4.c5
  go_wp2_with fail
  refine (is_at_same x (a 5) _).mono ?_
  rintro e w5 ⟨rfl, hb5⟩
  have h5 := h4.on hb5
  clear y5
  have hB := (stepA hb1 (stepA hb2 (stepA hb3 (stepA hb4 hb5))))
  go_wp2
  go_ret
  exact ⟨rfl, hB⟩
theorem code_at (x : Int) (k : Nat) (h1 : 1 ≤ k) (h5 : k ≤ 5) (a : Nat → Addr) (w : World) (h : Se w a) : Calls Tryd.prog 23 #[atB x (a k)] w fun e w' => e = .returned (.int .i64 (k : Int)) ∧ Below w.heap.size w w' := by
  match k, h1, h5 with
  | 1, _, _ => exact code_1 x a w h
  | 2, _, _ => exact code_2 x a w h
  | 3, _, _ => exact code_3 x a w h
  | 4, _, _ => exact code_4 x a w h
  | 5, _, _ => exact code_5 x a w h
theorem fault_nil (w : World) : Calls Tryd.prog 24 #[.nilIface] w fun e w' => e = .returned (.int .i64 0) ∧ Below w.heap.size w w' := by
  have h1 : Below w.heap.size w (w.alloc (.cells #[.int .i64 0, .nilIface] 76)) := (Below.refl _ _).alloc (Nat.le_refl _) _
  go_enter Tryd.func24, Tryd.ntmps24
  go_wp2_with fail
  refine (as_nil _ _).mono ?_
  rintro e w2 ⟨rfl, hw⟩
  have hs := hw.symm
  clear hw
  subst hs
  go_wp2
  go_ret
  exact ⟨rfl, h1⟩
theorem fault_at (x : Int) (b : Addr) (a : Nat → Addr) (w : World) (h : Se w a) : Calls Tryd.prog 24 #[atB x b] w fun e w' => e = .returned (.int .i64 x) ∧ Below w.heap.size w w' := by
  have h1 : Below w.heap.size w (w.alloc (.cells #[.int .i64 0, .nilIface] 76)) := (Below.refl _ _).alloc (Nat.le_refl _) _
  have bT := bx_new (w := w) [.int .i64 0, .nilIface] 76 rfl
  have h2 := h.on h1
  go_enter Tryd.func24, Tryd.ntmps24
  go_wp2_with fail
  refine (as_at x b w.heap.size _ h2.g (by have := h2.l; omega) bT).mono ?_
  rintro e w2 ⟨rfl, hT, hB⟩
  have z0 := hB.c0
  have zl := hB.lt
  have hb2 : Below w.heap.size w w2 := h1.trans (hT.below (Nat.le_refl _) (by simp))
  go_wp2
  go_ret
  exact ⟨rfl, hb2⟩
end Go.Proofs.YtmlfijapndkfhaaDoor
