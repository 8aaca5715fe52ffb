/- Copies of two lists made in one region: what stands between its steps. -/
import Derived.Test.YtnoaonflphameaaRyImplA
import Derived.Test.YtnoaonflphameaaFltG
import Derived.Deep.AppendLies
namespace Go.Proofs.Ytnoaonflphameaa
open Go.RowKit

abbrev emp (g : Nat) : Value := .slice (some ⟨g, 0, none⟩) 0 0
abbrev oE : Obj := .cells #[] 3
abbrev oC : Obj := cntO 0 none 0 0 none 0 0 25
theorem own_emp (w : World) (base : Nat) (hb : base ≤ w.heap.size) : Own (w.alloc oE) base (emp w.heap.size) 0 (fun _ => 0) :=
  World.ownsRow_lit w #[] 0 hb (Nat.zero_le _) rfl
theorem own_turnsE {w w' : World} {base g q : Nat} {F : Nat → Int} (h : Own w base (emp g) 0 F) (t : Turns q (q + 1) w w') (hne : g ≠ q) : Own w' base (emp g) 0 F := by
  obtain ⟨hl, h⟩ := h
  refine ⟨hl, ?_⟩
  rcases h with ⟨h, -⟩ | ⟨g', cap, cur, h1, h2, h3, h4⟩
  · cases h
  · cases h1
    have hg : g < w.heap.size := (Array.getElem?_eq_some_iff.1 h3).1
    exact .inr ⟨g, 0, cur, rfl, h2, (t.block g hg (by omega)).trans h3, h4⟩
theorem ip_turns {w w' : World} {b n q : Nat} {F : Nat → Int} (h : IP w b n F) (t : Turns q (q + 1) w w') (hne : b ≠ q) : IP w' b n F := by
  have e := t.block b h.lt (by omega)
  exact ⟨Nat.lt_of_lt_of_le h.lt t.size, fun i hi => (cell_same e i).trans (h.c i hi), fun j => (frozen_same e j).trans (h.fz j)⟩
theorem grown_turnsE {w w' : World} {q : Nat} (h : w.grownBy w' (some q)) : Turns q (q + 1) w w' :=
  ⟨h.os, h.tape, h.output, h.size, fun k hk hne => h.block k hk (fun e => by injection e with e; omega)⟩

/-- 'append([]int{}, l...)' at a step of a region -/
theorem copy_step {ops : Array Oper} {Q : Exit → Act → World → Prop} {c : Nat} {o : Oper} {K : Act → World → Prop} {a : Act} {w : World} (ho : ops[c]? = some o) (hgd : o.guard = none) (s x : Operand)
    (hop : o.op = .call { callee := .builtin .append, args := #[s, x], argTypes := #[23, 23] }) {g1 base n cap0 : Nat} {p : Option Addr} {f F0 : Nat → Int} (hs : a.eval s = emp g1) (hx : a.eval x = .slice p n cap0) (hO : Own w base (emp g1) 0 F0) (hI : IL w p n f) (h1 : 1 ≤ n) (h2 : n ≤ 1000) (hb : base ≤ w.heap.size)
    (h : ∀ q cap w', IP w' q n f → base ≤ q → (q = g1 ∨ w.heap.size ≤ q) → Turns g1 (g1 + 1) w w' → K (a.put o.dst (.slice (some ⟨q, 0, none⟩) n cap)) w') : wpOp Try.prog ops Q c K a w := by
  obtain ⟨b, off, rfl, hbw, hc⟩ := hI (by omega)
  obtain ⟨i0, hi, hzz⟩ := Option.map_eq_some_iff.1 infoI
  simp only [Prod.mk.injEq] at hzz
  obtain ⟨hz0, hz1, hz2⟩ := hzz
  refine wpOp_step ho (fun K' hK => ?_)
  refine step_append_lies w hgd s x 23 hop base 3 i0 (.int .i64 0) 1 8 Try.underlying23 hi hz0 hz1 hz2 rfl (by decide) (emp g1) 0 (vL F0 0) hs hO ⟨b, off, none⟩ n cap0 (vL f n) hx (by rw [vL_len, Nat.mul_one]) (fun j u hu => ?_) (fun u hu => ?_) (by omega) (by unfold maxLen; omega) (by omega) hb _ rfl ?_
  · have hj : j < n := by
      rcases Nat.lt_or_ge j n with h0 | h0
      · exact h0
      · rw [List.getElem?_eq_none (by rw [vL_len]; exact h0)] at hu; cases hu
    have hu2 := Option.some.inj ((vL_get (F := f) hj).symm.trans hu)
    rw [← hu2]
    have hadd : (⟨b, off, none⟩ : Addr).add j = ⟨b, off + j, none⟩ := by unfold Addr.add; split <;> simp_all
    rw [hadd]
    exact hc j hj
  · obtain ⟨j, -, rfl⟩ := List.mem_map.1 hu
    rfl
  · intro q cap w' hown hgrow hat hlt
    have hO' : Own w' base (.slice (some ⟨q, 0, none⟩) n cap) n f := by
      have e : vL F0 0 ++ vL f n = vL f n := by simp [vL]
      rw [Nat.zero_add, e] at hown
      exact hown
    rw [Nat.zero_add]
    obtain ⟨q', cap', e, hq, hP⟩ := hO'.some (by omega)
    cases e
    refine hK _ _ (h q cap w' hP hq ?_ (grown_turnsE hgrow))
    rcases hat with hat | hat
    · exact .inl (Option.some.inj (show some g1 = some q from hat)).symm
    · right; omega

/-- what stands: the boxes made so far, what Z says, and the blocks Bs apart from them -/
structure Gx (W0 : World) (Z : World → Prop) (Bs : List Nat) (ua ub : Option Nat) (w : World) : Prop where
  be : Below W0.heap.size W0 w
  a : ∀ g, ua = some g → Bx w g (cntL 0 none 0 0 none 0 0) ∧ W0.heap.size ≤ g
  b : ∀ g, ub = some g → Own w W0.heap.size (emp g) 0 (fun _ => 0) ∧ W0.heap.size ≤ g ∧ g < w.heap.size
  ab : ∀ g h, ua = some g → ub = some h → g ≠ h
  z : Z w
  bs : ∀ x ∈ Bs, x < w.heap.size ∧ W0.heap.size ≤ x ∧ ua ≠ some x ∧ ub ≠ some x
theorem Gx.cl {S : World → Prop} {W0 : World} {Z : World → Prop} {Bs : List Nat} (hZ : ∀ w w', Z w → Below w.heap.size w w' → Z w') (hS : ∀ w, Below W0.heap.size W0 w → S w) : Cl S oC oE (Gx W0 Z Bs) := by
  refine ⟨fun ub w g _ => ?_, fun ua w g _ => ?_⟩
  · have k := (Below.refl w.heap.size w).alloc (Nat.le_refl _) oC
    have hbe := stepA g.be k
    refine ⟨⟨hbe, fun x e => ?_, fun x e => ?_, fun x y e e2 => ?_, hZ _ _ g.z k, fun x hx => ?_⟩, hS _ hbe⟩
    · injection e with e; subst e; exact ⟨bx_new _ _ rfl, g.be.size⟩
    · obtain ⟨b1, b2, b3⟩ := g.b x e; exact ⟨b1.below k, b2, by rw [size_al]; omega⟩
    · injection e with e; subst e; have := (g.b y e2).2.2; omega
    · obtain ⟨b1, b2, b3, b4⟩ := g.bs x hx; exact ⟨by rw [size_al]; omega, b2, fun e => by injection e with e; omega, b4⟩
  · have k := (Below.refl w.heap.size w).alloc (Nat.le_refl _) oE
    have hbe := stepA g.be k
    refine ⟨⟨hbe, fun x e => ?_, fun x e => ?_, fun x y e e2 => ?_, hZ _ _ g.z k, fun x hx => ?_⟩, hS _ hbe⟩
    · exact ⟨(g.a x e).1.on k, (g.a x e).2⟩
    · injection e with e; subst e; exact ⟨own_emp w _ g.be.size, g.be.size, by rw [size_al]; omega⟩
    · injection e2 with e2; subst e2; have := (g.a x e).1.lt; omega
    · obtain ⟨b1, b2, b3, b4⟩ := g.bs x hx; exact ⟨by rw [size_al]; omega, b2, b3, fun e => by injection e with e; omega⟩
/-- the first list made -/
theorem Gx.new1 {W0 w : World} {ua ub : Option Nat} (g : Gx W0 (fun _ => True) [] ua ub w) : Gx W0 (fun w' => Own w' W0.heap.size (emp w.heap.size) 0 (fun _ => 0)) [w.heap.size] ua ub (w.alloc oE) := by
  have k := (Below.refl w.heap.size w).alloc (Nat.le_refl _) oE
  refine ⟨stepA g.be k, fun x e => ⟨(g.a x e).1.on k, (g.a x e).2⟩, fun x e => ?_, g.ab, own_emp w _ g.be.size, fun x hx => ?_⟩
  · obtain ⟨b1, b2, b3⟩ := g.b x e; exact ⟨b1.below k, b2, by rw [size_al]; omega⟩
  · simp only [List.mem_singleton] at hx
    subst hx
    refine ⟨by rw [size_al]; omega, g.be.size, fun e => ?_, fun e => ?_⟩
    · have := (g.a _ e).1.lt; omega
    · have := (g.b _ e).2.2; omega
/-- the first list copied -/
theorem Gx.app1 {W0 w w' : World} {ua ub : Option Nat} {g1 q n : Nat} {f : Nat → Int} (g : Gx W0 (fun w' => Own w' W0.heap.size (emp g1) 0 (fun _ => 0)) [g1] ua ub w) (hP : IP w' q n f) (hq : q = g1 ∨ w.heap.size ≤ q) (t : Turns g1 (g1 + 1) w w') : Gx W0 (fun w' => IP w' q n f) [q] ua ub w' := by
  obtain ⟨p1, p2, p3, p4⟩ := g.bs g1 (by simp)
  have hsz := g.be.size
  have ne : ∀ x, x < w.heap.size → x ≠ g1 → x ≠ q := fun x hx hn => by omega
  refine ⟨g.be.trans (t.below (B := W0.heap.size) p2 hsz), fun x e => ?_, fun x e => ?_, g.ab, hP, fun x hx => ?_⟩
  · have hx : x ≠ g1 := fun h => p3 (by rw [e, h])
    exact ⟨(g.a x e).1.turns t (by omega), (g.a x e).2⟩
  · have hx : x ≠ g1 := fun h => p4 (by rw [e, h])
    obtain ⟨b1, b2, b3⟩ := g.b x e
    exact ⟨own_turnsE b1 t hx, b2, Nat.lt_of_lt_of_le b3 t.size⟩
  · simp only [List.mem_singleton] at hx
    subst hx
    refine ⟨hP.lt, by omega, fun e => ?_, fun e => ?_⟩
    · exact ne x (g.a x e).1.lt (fun h => p3 (by rw [e, h])) rfl
    · exact ne x (g.b x e).2.2 (fun h => p4 (by rw [e, h])) rfl
/-- both copied -/
structure Gz (W0 : World) (n p q : Nat) (f g : Nat → Int) (ua ub : Option Nat) (w : World) : Prop where
  be : Below W0.heap.size W0 w
  a : ∀ x, ua = some x → Bx w x (cntL 0 none 0 0 none 0 0) ∧ W0.heap.size ≤ x ∧ x ≠ p ∧ x ≠ q
  zp : IP w p n f
  zq : IP w q n g
  lp : W0.heap.size ≤ p
  lq : W0.heap.size ≤ q
  pq : p ≠ q
  bs : ub.isSome = true
theorem Gz.cl {S : World → Prop} {W0 : World} {n p q : Nat} {f g : Nat → Int} (hS : ∀ w, Below W0.heap.size W0 w → S w) : Cl S oC oE (Gz W0 n p q f g) := by
  refine ⟨fun ub w z _ => ?_, fun ua w z _ => ?_⟩
  · have k := (Below.refl w.heap.size w).alloc (Nat.le_refl _) oC
    have hbe := stepA z.be k
    refine ⟨⟨hbe, fun x e => ?_, z.zp.below k z.zp.lt, z.zq.below k z.zq.lt, z.lp, z.lq, z.pq, z.bs⟩, hS _ hbe⟩
    injection e with e
    subst e
    have h1 := z.zp.lt
    have h2 := z.zq.lt
    exact ⟨bx_new _ _ rfl, z.be.size, by omega, by omega⟩
  · have := z.bs
    cases this
theorem Gx.app2 {W0 w w' : World} {ua : Option Nat} {gB p q n : Nat} {f g : Nat → Int} (G : Gx W0 (fun w' => IP w' p n f) [p] ua (some gB) w) (hP : IP w' q n g) (hq : q = gB ∨ w.heap.size ≤ q) (t : Turns gB (gB + 1) w w') : Gz W0 n p q f g ua (some gB) w' := by
  obtain ⟨p1, p2, p3, p4⟩ := G.bs p (by simp)
  obtain ⟨b1, b2, b3⟩ := G.b gB rfl
  have hpB : p ≠ gB := fun h => p4 (by rw [h])
  have hsz := G.be.size
  refine ⟨G.be.trans (t.below (B := W0.heap.size) b2 hsz), fun x e => ?_, ip_turns G.z t hpB, hP, p2, by omega, by omega, rfl⟩
  have h1 := (G.a x e).1.lt
  have h2 := G.ab x gB e rfl
  refine ⟨(G.a x e).1.turns t (by omega), (G.a x e).2, fun h => p3 (by rw [e, h]), by omega⟩
end Go.Proofs.Ytnoaonflphameaa
