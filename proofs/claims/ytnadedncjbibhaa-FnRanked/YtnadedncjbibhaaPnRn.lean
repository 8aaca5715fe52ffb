/- What a play of chores tells; a play's memory as the model keeps it. -/
import Derived.Test.YtnadedncjbibhaaPnOwn
import Derived.Test.YtnadedncjbibhaaPnGood
import Derived.Test.YtnadedncjbibhaaPnAtS
namespace Go.Proofs.Ytnadedncjbibhaa
open Go.RowKit
/-- the arguments of a play are good -/
def okR (n : Nat) (F : Nat → Int) (m : Nat) (f : Nat → Int) (u : Int) : Bool := gcV n F && (decide (m = n) && (gfK f m && decide (0 ≤ u ∧ u ≤ 2000)))
theorem okR_no {n m : Nat} {F f : Nat → Int} {u : Int} (h : ¬ (gcV n F = true ∧ m = n ∧ gfK f m = true ∧ 0 ≤ u ∧ u ≤ 2000)) : okR n F m f u = false := by
  cases e : okR n F m f u with
  | false => rfl
  | true =>
    unfold okR at e
    simp only [Bool.and_eq_true, decide_eq_true_eq] at e
    exact absurd ⟨e.1, e.2.1, e.2.2.1, e.2.2.2.1, e.2.2.2.2⟩ h
theorem okR_yes {n m : Nat} {F f : Nat → Int} {u : Int} (h1 : gcV n F = true) (h2 : m = n) (h3 : gfK f m = true) (h4 : 0 ≤ u) (h5 : u ≤ 2000) : okR n F m f u = true := by
  unfold okR
  rw [h1, decide_eq_true h2, h3, decide_eq_true ⟨h4, h5⟩]
  rfl
/-- what a play tells: slices, the longest times, whether it is one; the two lists lie apart -/
def AnsRn (w w' : World) (e : Ending) (M : Nat) (G : Nat → Int) (N : Nat) (W : Nat → Int) (q : Bool) : Prop :=
  ∃ a1 c1 a2 c2 X, e = .returned (.tuple #[.slice a1 M c1, .slice a2 N c2, .bool q]) ∧ w.heap.size ≤ X ∧ X ≤ w'.heap.size ∧ LQ w' X w'.heap.size a1 (M * 3) G ∧ LQ w' w.heap.size X a2 N W
theorem ansRn_nil {w w' : World} (h : w.heap.size ≤ w'.heap.size) (G W : Nat → Int) (q : Bool) : AnsRn w w' (.returned (.tuple #[.slice none 0 0, .slice none 0 0, .bool q])) 0 G 0 W q :=
  ⟨none, 0, none, 0, w.heap.size, rfl, Nat.le_refl _, h, lq_none _ _ _ _ _, lq_none _ _ _ _ _⟩
/-- what is told of a play up to u -/
def rnM (ur : Bool) (n : Nat) (F : Nat → Int) (m : Nat) (f : Nat → Int) (u : Int) : Nat := if okR n F m f u then (ruP ur n F f u.toNat).m else 0
def rnN (n : Nat) (F : Nat → Int) (m : Nat) (f : Nat → Int) (u : Int) : Nat := if okR n F m f u then n else 0
def rnG (ur : Bool) (n : Nat) (F f : Nat → Int) (u : Int) : Nat → Int := (ruP ur n F f u.toNat).G
def rnW (ur : Bool) (n : Nat) (F f : Nat → Int) (u : Int) : Nat → Int := (ruP ur n F f u.toNat).wo
def AnsPy (ur : Bool) (n : Nat) (F : Nat → Int) (m : Nat) (f : Nat → Int) (u : Int) (w w' : World) (e : Ending) : Prop :=
  AnsRn w w' e (rnM ur n F m f u) (rnG ur n F f u) (rnN n F m f u) (rnW ur n F f u) (okR n F m f u)
theorem ansPy_no {ur : Bool} {n m : Nat} {F f : Nat → Int} {u : Int} (h : okR n F m f u = false) {w w' : World} (hs : w.heap.size ≤ w'.heap.size) : AnsPy ur n F m f u w w' (.returned (.tuple #[.slice none 0 0, .slice none 0 0, .bool false])) := by
  unfold AnsPy rnM rnN
  rw [h]
  exact ansRn_nil hs _ _ _
/-- the model's memory: three lists of ints and the slices, each in a block of its own -/
structure Sm (w : World) (K n : Nat) (s : Pl) (v : Value) : Prop where
  dn : IP w K n s.dn
  sp : IP w (K + 1) n s.sp
  wo : IP w (K + 2) n s.wo
  sl : OwnL w (K + 3) v s.m s.G
theorem Sm.below {w w' : World} {K n : Nat} {s : Pl} {v : Value} (h : Sm w K n s v) (b : Below w.heap.size w w') : Sm w' K n s v :=
  ⟨h.dn.below b h.dn.lt, h.sp.below b h.sp.lt, h.wo.below b h.wo.lt, h.sl.below b⟩
theorem made3 (w1 : World) (n : Nat) : Sm (((w1.alloc (.cells (madeCells #[.int .i64 0] n) 3)).alloc (.cells (madeCells #[.int .i64 0] n) 3)).alloc (.cells (madeCells #[.int .i64 0] n) 3)) w1.heap.size n ⟨fun _ => 0, fun _ => 0, fun _ => 0, 0, fun _ => 0⟩ (.slice none 0 0) := by
  have a0 := row_zero (World.rowIs_made w1 (.int .i64 0) n 3)
  have a1 := row_zero (World.rowIs_made (w1.alloc (.cells (madeCells #[.int .i64 0] n) 3)) (.int .i64 0) n 3)
  have a2 := row_zero (World.rowIs_made ((w1.alloc (.cells (madeCells #[.int .i64 0] n) 3)).alloc (.cells (madeCells #[.int .i64 0] n) 3)) (.int .i64 0) n 3)
  rw [size_al] at a1
  rw [size_al, size_al] at a2
  have b1 : ∀ (w : World) o, Below w.heap.size w (w.alloc o) := fun w o => (Below.refl _ _).alloc (Nat.le_refl _) o
  have c0 := a0.below (b1 _ (.cells (madeCells #[.int .i64 0] n) 3)) a0.lt
  exact ⟨c0.below (b1 _ _) c0.lt, a1.below (b1 _ _) a1.lt, a2, own_newL _ _ _⟩
theorem new3 (w : World) (p q r : Value) (t : TypeId) : ∀ j u, [p, q, r][j]? = some u → (w.alloc (.cells #[p, q, r] t)).cell? ((⟨w.heap.size, 0, none⟩ : Addr).add j) = some u := by
  intro j u hj
  match j, hj with
  | 0, hj => simp at hj; subst hj; simp [Addr.add]
  | 1, hj => simp at hj; subst hj; simp [Addr.add]
  | 2, hj => simp at hj; subst hj; simp [Addr.add]
theorem sx_zero {G : Nat → Int} {t who : Int} {m : Nat} (h : m = 0) : sxB m G t who = false := by unfold sxB; rw [decide_eq_false (by omega)]; rfl
theorem sx_who {G : Nat → Int} {t who : Int} {m : Nat} (h : (G (m * 3 + 2) == who) = false) : sxB (m + 1) G t who = false := by unfold sxB; rw [Nat.add_sub_cancel, h]; simp
theorem sx_to {G : Nat → Int} {t who : Int} {m : Nat} (h : (G (m * 3 + 1) == t) = false) : sxB (m + 1) G t who = false := by unfold sxB; rw [Nat.add_sub_cancel, h]; simp
theorem sx_yes {G : Nat → Int} {t who : Int} {m : Nat} (h1 : (G (m * 3 + 2) == who) = true) (h2 : (G (m * 3 + 1) == t) = true) : sxB (m + 1) G t who = true := by unfold sxB; rw [Nat.add_sub_cancel, h1, h2, decide_eq_true (by omega)]; rfl
theorem sx_inv {G : Nat → Int} {t who : Int} {m : Nat} (h : sxB m G t who = true) : 0 < m ∧ G ((m - 1) * 3 + 2) = who ∧ G ((m - 1) * 3 + 1) = t := by
  unfold sxB at h
  simp only [Bool.and_eq_true, decide_eq_true_eq, beq_iff_eq] at h
  exact ⟨h.1, h.2.1, h.2.2⟩
/-- the slices behind a tick -/
def SlN (w : World) (base : Nat) (v : Value) (m : Nat) (G : Nat → Int) (t who : Int) : Prop := OwnL w base v (slM m G t who) (slG m G t who)
theorem sln_more {w : World} {base : Nat} {v : Value} {m : Nat} {G : Nat → Int} {t who : Int} (hb : sxB m G t who = false) (h : w.ownsRow base 66 3 v (m + 1) (vL G (m * 3) ++ [.int .i64 t, .int .i64 (t + 1), .int .i64 who])) : SlN w base v m G t who := by
  unfold SlN slM slG
  rw [hb]
  rw [← vL_tri] at h
  exact own_appL h
theorem sln_long {w : World} {base g m M c : Nat} {G : Nat → Int} {t who : Int} (e : M = m + 1) (hb : sxB M G t who = true) (h : OwnL w base (.slice (some ⟨g, 0, none⟩) M c) M G) : SlN (w.setCell ⟨g, m * 3 + 1, none⟩ (.int .i64 (t + 1))) base (.slice (some ⟨g, 0, none⟩) M c) M G t who := by
  subst e
  unfold SlN slM slG
  rw [hb]
  have := h.set (m * 3 + 1) (t + 1)
  simpa using this
end Go.Proofs.Ytnadedncjbibhaa
