/- Regions that draw their order, with calls that come one behind the other and two new variables that may be made at any time between: each step is shown once, not once for each order. -/
import Derived.Test.YtnoaonflphameaaInCore
import Derived.OrdersHeld
namespace Go.Proofs.Ytnoaonflphameaa
open Go.RowKit

section
variable {P : Program} {md : Region.Mode} {ops : Array Oper} {Q : Exit → Act → World → Prop} {S : World → Prop} {G : Option Nat → Option Nat → World → Prop} {ia ib : Nat} {ta tb : Tmp}

/-- the state with the two variables' roads, the list with their two marks -/
def fr (ta tb : Tmp) (a : Act) (x y : Value) : Act := (a.put (some ta) x).put (some tb) y
def fl (ia ib : Nat) (L : Array Bool) (sa sb : Bool) : Array Bool := (L.setIfInBounds ia sa).setIfInBounds ib sb
def rd : Option Nat → Value
  | none => undef
  | some g => .pointer (some ⟨g, 0, none⟩)
def lft : Option Nat → Nat
  | none => 1
  | some _ => 0

theorem put_put (a : Act) (t : Tmp) (x y : Value) : (a.put (some t) x).put (some t) y = a.put (some t) y := by simp [Act.put]
theorem fr_put {a : Act} {x y v : Value} {d : Option Tmp} (h : ∀ e, d = some e → e ≠ ta ∧ e ≠ tb) : (fr ta tb a x y).put d v = fr ta tb (a.put d v) x y := by
  unfold fr
  rw [Act.put_comm (x := some tb) (y := d) _ _ _ (fun e he hd => (h e hd).2 (by injection he with he; exact he.symm)), Act.put_comm (x := some ta) (y := d) _ _ _ (fun e he hd => (h e hd).1 (by injection he with he; exact he.symm))]
theorem fr_a {a : Act} {x y p : Value} (hn : ta ≠ tb) : (fr ta tb a x y).put (some ta) p = fr ta tb a p y := by
  unfold fr
  rw [Act.put_comm (x := some tb) (y := some ta) _ _ _ (fun e he hd => hn (by injection he with he; injection hd with hd; rw [he, hd])), put_put]
theorem fr_b {a : Act} {x y p : Value} : (fr ta tb a x y).put (some tb) p = fr ta tb a x p := by
  unfold fr
  rw [put_put]
theorem fl_set {L : Array Bool} {sa sb : Bool} {c : Nat} (h : c ≠ ia ∧ c ≠ ib) : (fl ia ib L sa sb).setIfInBounds c true = fl ia ib (L.setIfInBounds c true) sa sb := by
  unfold fl
  rw [Array.setIfInBounds_comm _ _ (Ne.symm h.2), Array.setIfInBounds_comm _ _ (Ne.symm h.1)]
theorem fl_a {L : Array Bool} {sa sb : Bool} (hn : ia ≠ ib) : (fl ia ib L sa sb).setIfInBounds ia true = fl ia ib L true sb := by
  unfold fl
  rw [Array.setIfInBounds_comm _ _ (Ne.symm hn), Array.setIfInBounds_setIfInBounds]
theorem fl_b {L : Array Bool} {sa sb : Bool} : (fl ia ib L sa sb).setIfInBounds ib true = fl ia ib L sa true := by
  unfold fl
  rw [Array.setIfInBounds_setIfInBounds]

/-- what is left of a region, from a state without the two variables on -/
inductive Chain (P : Program) (md : Region.Mode) (ops : Array Oper) (Q : Exit → Act → World → Prop) (S : World → Prop) (G : Option Nat → Option Nat → World → Prop) (ia ib : Nat) (ta tb : Tmp) : Nat → Array Bool → Act → Prop
  | done {f : Nat} {L : Array Bool} {a : Act} (hr : ∀ sa sb, (sa && sb) = false → (Region.ready md ops (fl ia ib L sa sb)) ≠ [] ∧ ∀ i ∈ Region.ready md ops (fl ia ib L sa sb), (i = ia ∧ sa = false) ∨ (i = ib ∧ sb = false))
      (h : ∀ ga gb w, G (some ga) (some gb) w → S w → wpAnyH P md ops Q S f (fl ia ib L true true) (fr ta tb a (rd (some ga)) (rd (some gb))) w) : Chain P md ops Q S G ia ib ta tb f L a
  | call {f : Nat} {L : Array Bool} {a : Act} (c : Nat) (d : Tmp) (v : Value) (hr : ∀ sa sb, (Region.ready md ops (fl ia ib L sa sb)) ≠ [] ∧ ∀ i ∈ Region.ready md ops (fl ia ib L sa sb), i = c ∨ (i = ia ∧ sa = false) ∨ (i = ib ∧ sb = false))
      (hc : c ≠ ia ∧ c ≠ ib) (hd : d ≠ ta ∧ d ≠ tb)
      (h : ∀ x y ua ub w (K : Act → World → Prop), G ua ub w → S w → (∀ w', Below w.heap.size w w' → K ((fr ta tb a x y).put (some d) v) w') → wpOp P ops Q c K (fr ta tb a x y) w)
      (next : Chain P md ops Q S G ia ib ta tb f (L.setIfInBounds c true) (a.put (some d) v)) : Chain P md ops Q S G ia ib ta tb (f + 1) L a
  | take {f : Nat} {L : Array Bool} {a : Act} (c : Nat) (o : Oper) (v : Value) (ho : ops[c]? = some o) (hs : Region.noSelect ops = true) (hf : ∀ sa sb, Region.free md ops (fl ia ib L sa sb) c = true ∧ (Region.ready md ops (fl ia ib L sa sb)).contains c = true)
      (hQ : ∀ c a w, Q (.panic c) (a.put o.dst v) w → Q (.panic c) a w) (hc : c ≠ ia ∧ c ≠ ib) (hd : ∀ e, o.dst = some e → e ≠ ta ∧ e ≠ tb)
      (h : ∀ x y, YieldsIf P ops S o v (fr ta tb a x y))
      (next : Chain P md ops Q S G ia ib ta tb f (L.setIfInBounds c true) (a.put o.dst v)) : Chain P md ops Q S G ia ib ta tb (f + 1) L a

theorem chain_all (hi : ia ≠ ib) (ht : ta ≠ tb) (hG : ∀ ua ub w w', G ua ub w → S w → Below w.heap.size w w' → G ua ub w' ∧ S w') (oa ob : Obj)
    (hA : ∀ (K : Act → World → Prop) a w, K (a.put (some ta) (.pointer (some ⟨w.heap.size, 0, none⟩))) (w.alloc oa) → wpOp P ops Q ia K a w)
    (hB : ∀ (K : Act → World → Prop) a w, K (a.put (some tb) (.pointer (some ⟨w.heap.size, 0, none⟩))) (w.alloc ob) → wpOp P ops Q ib K a w)
    (gA : ∀ ub w, G none ub w → S w → G (some w.heap.size) ub (w.alloc oa) ∧ S (w.alloc oa)) (gB : ∀ ua w, G ua none w → S w → G ua (some w.heap.size) (w.alloc ob) ∧ S (w.alloc ob))
    {f : Nat} {L : Array Bool} {a : Act} (C : Chain P md ops Q S G ia ib ta tb f L a) :
    ∀ ua ub w, G ua ub w → S w → wpAnyH P md ops Q S (f + lft ua + lft ub) (fl ia ib L ua.isSome ub.isSome) (fr ta tb a (rd ua) (rd ub)) w := by
  -- once the step of the chain itself is known, the two variables may come
  have close : ∀ (f : Nat) (L : Array Bool) (a : Act), (∀ ua ub w, G ua ub w → S w →
      (ua = none → wpAnyH P md ops Q S (f + lft ub) (fl ia ib L true ub.isSome) (fr ta tb a (rd (some w.heap.size)) (rd ub)) (w.alloc oa)) →
      (ub = none → wpAnyH P md ops Q S (f + lft ua) (fl ia ib L ua.isSome true) (fr ta tb a (rd ua) (rd (some w.heap.size))) (w.alloc ob)) →
      wpAnyH P md ops Q S (f + lft ua + lft ub) (fl ia ib L ua.isSome ub.isSome) (fr ta tb a (rd ua) (rd ub)) w) →
      ∀ ua ub w, G ua ub w → S w → wpAnyH P md ops Q S (f + lft ua + lft ub) (fl ia ib L ua.isSome ub.isSome) (fr ta tb a (rd ua) (rd ub)) w := by
    intro f L a main
    have h11 : ∀ ga gb w, G (some ga) (some gb) w → S w → wpAnyH P md ops Q S (f + lft (some ga) + lft (some gb)) (fl ia ib L true true) (fr ta tb a (rd (some ga)) (rd (some gb))) w :=
      fun ga gb w g s => main (some ga) (some gb) w g s (fun e => by cases e) (fun e => by cases e)
    have h01 : ∀ gb w, G none (some gb) w → S w → wpAnyH P md ops Q S (f + lft none + lft (some gb)) (fl ia ib L false true) (fr ta tb a (rd none) (rd (some gb))) w :=
      fun gb w g s => main none (some gb) w g s (fun _ => h11 _ _ _ (gA _ _ g s).1 (gA _ _ g s).2) (fun e => by cases e)
    have h10 : ∀ ga w, G (some ga) none w → S w → wpAnyH P md ops Q S (f + lft (some ga) + lft none) (fl ia ib L true false) (fr ta tb a (rd (some ga)) (rd none)) w :=
      fun ga w g s => main (some ga) none w g s (fun e => by cases e) (fun _ => h11 _ _ _ (gB _ _ g s).1 (gB _ _ g s).2)
    intro ua ub w g s
    cases ua with
    | some ga =>
      cases ub with
      | some gb => exact h11 ga gb w g s
      | none => exact h10 ga w g s
    | none =>
      cases ub with
      | some gb => exact h01 gb w g s
      | none => exact main none none w g s (fun _ => h10 _ _ (gA _ _ g s).1 (gA _ _ g s).2) (fun _ => h01 _ _ (gB _ _ g s).1 (gB _ _ g s).2)
  -- the step at one of the two variables
  have atA : ∀ (n : Nat) (L : Array Bool) (a : Act) (sb : Bool) (y : Value) (w : World), S (w.alloc oa) → wpAnyH P md ops Q S n (fl ia ib L true sb) (fr ta tb a (rd (some w.heap.size)) y) (w.alloc oa) →
      wpOp P ops Q ia (fun a' w' => S w' ∧ wpAnyH P md ops Q S n ((fl ia ib L false sb).setIfInBounds ia true) a' w') (fr ta tb a (rd none) y) w := by
    intro n L a sb y w s h
    refine hA _ _ _ ⟨s, ?_⟩
    rw [fl_a hi, fr_a ht]
    exact h
  have atB : ∀ (n : Nat) (L : Array Bool) (a : Act) (sa : Bool) (x : Value) (w : World), S (w.alloc ob) → wpAnyH P md ops Q S n (fl ia ib L sa true) (fr ta tb a x (rd (some w.heap.size))) (w.alloc ob) →
      wpOp P ops Q ib (fun a' w' => S w' ∧ wpAnyH P md ops Q S n ((fl ia ib L sa false).setIfInBounds ib true) a' w') (fr ta tb a x (rd none)) w := by
    intro n L a sa x w s h
    refine hB _ _ _ ⟨s, ?_⟩
    rw [fl_b, fr_b]
    exact h
  induction C with
  | @done f L a hr h =>
    refine close f L a ?_
    intro ua ub w g s kA kB
    cases ua with
    | some ga =>
      cases ub with
      | some gb => exact h ga gb w g s
      | none =>
        obtain ⟨hne, hm⟩ := hr true false rfl
        refine wpAnyH_all (fuel := f + lft (some ga)) rfl hne fun i hi' => ?_
        rcases hm i hi' with ⟨-, e⟩ | ⟨rfl, -⟩
        · cases e
        · exact atB _ L a true _ w (gB _ _ g s).2 (kB rfl)
    | none =>
      cases ub with
      | some gb =>
        obtain ⟨hne, hm⟩ := hr false true rfl
        refine wpAnyH_all (fuel := f + lft (some gb)) rfl hne fun i hi' => ?_
        rcases hm i hi' with ⟨rfl, -⟩ | ⟨-, e⟩
        · exact atA _ L a true _ w (gA _ _ g s).2 (kA rfl)
        · cases e
      | none =>
        obtain ⟨hne, hm⟩ := hr false false rfl
        refine wpAnyH_all (fuel := f + 1) rfl hne fun i hi' => ?_
        rcases hm i hi' with ⟨rfl, -⟩ | ⟨rfl, -⟩
        · exact atA _ L a false _ w (gA _ _ g s).2 (kA rfl)
        · exact atB _ L a false _ w (gB _ _ g s).2 (kB rfl)
  | @call f L a c d v hr hc hd h next ih =>
    refine close (f + 1) L a ?_
    intro ua ub w g s kA kB
    have hn : f + 1 + lft ua + lft ub = (f + lft ua + lft ub) + 1 := by omega
    rw [hn]
    obtain ⟨hne, hm⟩ := hr ua.isSome ub.isSome
    refine wpAnyH_all rfl hne fun i hi' => ?_
    rcases hm i hi' with rfl | ⟨rfl, e⟩ | ⟨rfl, e⟩
    · refine h _ _ ua ub w _ g s fun w' hb => ?_
      obtain ⟨g', s'⟩ := hG ua ub w w' g s hb
      refine ⟨s', ?_⟩
      rw [fl_set hc, fr_put (fun e he => by injection he with he; subst he; exact hd)]
      exact ih ua ub w' g' s'
    · cases ua with
      | some _ => cases e
      | none =>
        have k := kA rfl
        have e1 : f + 1 + lft ub = f + lft none + lft ub := rfl
        rw [e1] at k
        exact atA _ L a _ _ w (gA _ _ g s).2 k
    · cases ub with
      | some _ => cases e
      | none =>
        have k := kB rfl
        have e1 : f + 1 + lft ua = f + lft ua + lft none := by show f + 1 + lft ua = f + lft ua + 1; omega
        rw [e1] at k
        exact atB _ L a _ _ w (gB _ _ g s).2 k
  | @take f L a c o v ho hs hf hQ hc hd h next ih =>
    intro ua ub w g s
    have hn : f + 1 + lft ua + lft ub = (f + lft ua + lft ub) + 1 := by omega
    rw [hn]
    obtain ⟨h1, h2⟩ := hf ua.isSome ub.isSome
    refine wpAnyH_take (i := c) ho hs h1 h2 hQ (h _ _) s ?_
    rw [fl_set hc, fr_put hd]
    exact ih ua ub w g s

/-- the beginning -/
theorem chain_start (hi : ia ≠ ib) (ht : ta ≠ tb) (hG : ∀ ua ub w w', G ua ub w → S w → Below w.heap.size w w' → G ua ub w' ∧ S w') (oa ob : Obj)
    (hA : ∀ (K : Act → World → Prop) a w, K (a.put (some ta) (.pointer (some ⟨w.heap.size, 0, none⟩))) (w.alloc oa) → wpOp P ops Q ia K a w)
    (hB : ∀ (K : Act → World → Prop) a w, K (a.put (some tb) (.pointer (some ⟨w.heap.size, 0, none⟩))) (w.alloc ob) → wpOp P ops Q ib K a w)
    (gA : ∀ ub w, G none ub w → S w → G (some w.heap.size) ub (w.alloc oa) ∧ S (w.alloc oa)) (gB : ∀ ua w, G ua none w → S w → G ua (some w.heap.size) (w.alloc ob) ∧ S (w.alloc ob))
    {f : Nat} {L : Array Bool} {a : Act} {w : World} (hl : fl ia ib L false false = L) (ha : fr ta tb a undef undef = a) (g : G none none w) (s : S w) (C : Chain P md ops Q S G ia ib ta tb f L a) :
    wpAnyH P md ops Q S (f + 1 + 1) L a w := by
  have h := chain_all hi ht hG oa ob hA hB gA gB C none none w g s
  have e : fl ia ib L (Option.isSome (none : Option Nat)) (Option.isSome (none : Option Nat)) = L := hl
  have e2 : fr ta tb a (rd none) (rd none) = a := ha
  rw [e, e2] at h
  exact h
end
end Go.Proofs.Ytnoaonflphameaa
