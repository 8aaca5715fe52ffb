/- The same as Flt, for calls whose answers are not known ahead (a new list): what stands changes from step to step. -/
import Derived.Test.YtnoaonflphameaaFlt
namespace Go.Proofs.Ytnoaonflphameaa
open Go.RowKit

section
variable {P : Program} {md : Region.Mode} {ops : Array Oper} {Q : Exit → Act → World → Prop} {S : World → Prop} {ia ib : Nat} {ta tb : Tmp}

def rdv (v : Nat → Value) : Option Nat → Value
  | none => undef
  | some g => v g
/-- it stands behind the making of one of the two -/
def Cl (S : World → Prop) (oa ob : Obj) (G : Option Nat → Option Nat → World → Prop) : Prop :=
  (∀ ub w, G none ub w → S w → G (some w.heap.size) ub (w.alloc oa) ∧ S (w.alloc oa)) ∧ (∀ ua w, G ua none w → S w → G ua (some w.heap.size) (w.alloc ob) ∧ S (w.alloc ob))

inductive Ch (P : Program) (md : Region.Mode) (ops : Array Oper) (Q : Exit → Act → World → Prop) (S : World → Prop) (ia ib : Nat) (ta tb : Tmp) (va vb : Nat → Value) (oa ob : Obj) : (Option Nat → Option Nat → World → Prop) → Nat → Array Bool → Act → Prop
  | done {G : Option Nat → Option Nat → World → Prop} {f : Nat} {L : Array Bool} {a : Act} (cl : Cl S oa ob G) (hr : ∀ ua ub w, G ua ub w → (ua.isSome && ub.isSome) = false → (Region.ready md ops (fl ia ib L ua.isSome ub.isSome)) ≠ [] ∧ ∀ i ∈ Region.ready md ops (fl ia ib L ua.isSome ub.isSome), (i = ia ∧ ua.isSome = false) ∨ (i = ib ∧ ub.isSome = false))
      (h : ∀ ga gb w, G (some ga) (some gb) w → S w → wpAnyH P md ops Q S f (fl ia ib L true true) (fr ta tb a (va ga) (vb gb)) w) : Ch P md ops Q S ia ib ta tb va vb oa ob G f L a
  | call {G : Option Nat → Option Nat → World → Prop} {f : Nat} {L : Array Bool} {a : Act} {α : Type} (c : Nat) (d : Tmp) (v : α → Value) (G' : α → Option Nat → Option Nat → World → Prop) (cl : Cl S oa ob G)
      (hr : ∀ sa sb, (Region.ready md ops (fl ia ib L sa sb)) ≠ [] ∧ ∀ i ∈ Region.ready md ops (fl ia ib L sa sb), i = c ∨ (i = ia ∧ sa = false) ∨ (i = ib ∧ sb = false))
      (hc : c ≠ ia ∧ c ≠ ib) (hd : d ≠ ta ∧ d ≠ tb)
      (h : ∀ ua ub w (K : Act → World → Prop), c ∈ Region.ready md ops (fl ia ib L ua.isSome ub.isSome) → G ua ub w → S w → (∀ y w', G' y ua ub w' → S w' → K ((fr ta tb a (rdv va ua) (rdv vb ub)).put (some d) (v y)) w') → wpOp P ops Q c K (fr ta tb a (rdv va ua) (rdv vb ub)) w)
      (next : ∀ y, Ch P md ops Q S ia ib ta tb va vb oa ob (G' y) f (L.setIfInBounds c true) (a.put (some d) (v y))) : Ch P md ops Q S ia ib ta tb va vb oa ob G (f + 1) L a
  | take {G : Option Nat → Option Nat → World → Prop} {f : Nat} {L : Array Bool} {a : Act} (c : Nat) (o : Oper) (v : Value) (ho : ops[c]? = some o) (hs : Region.noSelect ops = true) (hf : ∀ sa sb, Region.free md ops (fl ia ib L sa sb) c = true ∧ (Region.ready md ops (fl ia ib L sa sb)).contains c = true)
      (hQ : ∀ c a w, Q (.panic c) (a.put o.dst v) w → Q (.panic c) a w) (hc : c ≠ ia ∧ c ≠ ib) (hd : ∀ e, o.dst = some e → e ≠ ta ∧ e ≠ tb)
      (h : ∀ x y, YieldsIf P ops S o v (fr ta tb a x y))
      (next : Ch P md ops Q S ia ib ta tb va vb oa ob G f (L.setIfInBounds c true) (a.put o.dst v)) : Ch P md ops Q S ia ib ta tb va vb oa ob G (f + 1) L a

theorem ch_all {va vb : Nat → Value} {oa ob : Obj} (hi : ia ≠ ib) (ht : ta ≠ tb)
    (hA : ∀ (K : Act → World → Prop) a w, K (a.put (some ta) (va w.heap.size)) (w.alloc oa) → wpOp P ops Q ia K a w)
    (hB : ∀ (K : Act → World → Prop) a w, K (a.put (some tb) (vb w.heap.size)) (w.alloc ob) → wpOp P ops Q ib K a w)
    {G : Option Nat → Option Nat → World → Prop} {f : Nat} {L : Array Bool} {a : Act} (C : Ch P md ops Q S ia ib ta tb va vb oa ob G f L a) :
    ∀ ua ub w, G ua ub w → S w → wpAnyH P md ops Q S (f + lft ua + lft ub) (fl ia ib L ua.isSome ub.isSome) (fr ta tb a (rdv va ua) (rdv vb ub)) w := by
  have close : ∀ (G : Option Nat → Option Nat → World → Prop) (f : Nat) (L : Array Bool) (a : Act), Cl S oa ob G → (∀ ua ub w, G ua ub w → S w →
      (ua = none → wpAnyH P md ops Q S (f + lft ub) (fl ia ib L true ub.isSome) (fr ta tb a (rdv va (some w.heap.size)) (rdv vb ub)) (w.alloc oa)) →
      (ub = none → wpAnyH P md ops Q S (f + lft ua) (fl ia ib L ua.isSome true) (fr ta tb a (rdv va ua) (rdv vb (some w.heap.size))) (w.alloc ob)) →
      wpAnyH P md ops Q S (f + lft ua + lft ub) (fl ia ib L ua.isSome ub.isSome) (fr ta tb a (rdv va ua) (rdv vb ub)) w) →
      ∀ ua ub w, G ua ub w → S w → wpAnyH P md ops Q S (f + lft ua + lft ub) (fl ia ib L ua.isSome ub.isSome) (fr ta tb a (rdv va ua) (rdv vb ub)) w := by
    intro G f L a ⟨gA, gB⟩ main
    have h11 : ∀ ga gb w, G (some ga) (some gb) w → S w → wpAnyH P md ops Q S (f + lft (some ga) + lft (some gb)) (fl ia ib L true true) (fr ta tb a (rdv va (some ga)) (rdv vb (some gb))) w :=
      fun ga gb w g s => main (some ga) (some gb) w g s (fun e => by cases e) (fun e => by cases e)
    have h01 : ∀ gb w, G none (some gb) w → S w → wpAnyH P md ops Q S (f + lft none + lft (some gb)) (fl ia ib L false true) (fr ta tb a (rdv va none) (rdv vb (some gb))) w :=
      fun gb w g s => main none (some gb) w g s (fun _ => h11 _ _ _ (gA _ _ g s).1 (gA _ _ g s).2) (fun e => by cases e)
    have h10 : ∀ ga w, G (some ga) none w → S w → wpAnyH P md ops Q S (f + lft (some ga) + lft none) (fl ia ib L true false) (fr ta tb a (rdv va (some ga)) (rdv vb none)) w :=
      fun ga w g s => main (some ga) none w g s (fun e => by cases e) (fun _ => h11 _ _ _ (gB _ _ g s).1 (gB _ _ g s).2)
    intro ua ub w g s
    cases ua with
    | some ga =>
      cases ub with
      | some gb => exact h11 ga gb w g s
      | none => exact h10 ga w g s
    | none =>
      cases ub with
      | some gb => exact h01 gb w g s
      | none => exact main none none w g s (fun _ => h10 _ _ (gA _ _ g s).1 (gA _ _ g s).2) (fun _ => h01 _ _ (gB _ _ g s).1 (gB _ _ g s).2)
  have atA : ∀ (n : Nat) (L : Array Bool) (a : Act) (sb : Bool) (y : Value) (w : World), S (w.alloc oa) → wpAnyH P md ops Q S n (fl ia ib L true sb) (fr ta tb a (rdv va (some w.heap.size)) y) (w.alloc oa) →
      wpOp P ops Q ia (fun a' w' => S w' ∧ wpAnyH P md ops Q S n ((fl ia ib L false sb).setIfInBounds ia true) a' w') (fr ta tb a (rdv va none) y) w := by
    intro n L a sb y w s h
    refine hA _ _ _ ⟨s, ?_⟩
    rw [fl_a hi, fr_a ht]
    exact h
  have atB : ∀ (n : Nat) (L : Array Bool) (a : Act) (sa : Bool) (x : Value) (w : World), S (w.alloc ob) → wpAnyH P md ops Q S n (fl ia ib L sa true) (fr ta tb a x (rdv vb (some w.heap.size))) (w.alloc ob) →
      wpOp P ops Q ib (fun a' w' => S w' ∧ wpAnyH P md ops Q S n ((fl ia ib L sa false).setIfInBounds ib true) a' w') (fr ta tb a x (rdv vb none)) w := by
    intro n L a sa x w s h
    refine hB _ _ _ ⟨s, ?_⟩
    rw [fl_b, fr_b]
    exact h
  induction C with
  | @done G f L a cl hr h =>
    refine close G f L a cl ?_
    obtain ⟨gA, gB⟩ := cl
    intro ua ub w g s kA kB
    cases ua with
    | some ga =>
      cases ub with
      | some gb => exact h ga gb w g s
      | none =>
        obtain ⟨hne, hm⟩ := hr (some ga) none w g rfl
        refine wpAnyH_all (fuel := f + lft (some ga)) rfl hne fun i hi' => ?_
        rcases hm i hi' with ⟨-, e⟩ | ⟨rfl, -⟩
        · cases e
        · exact atB _ L a true _ w (gB _ _ g s).2 (kB rfl)
    | none =>
      cases ub with
      | some gb =>
        obtain ⟨hne, hm⟩ := hr none (some gb) w g rfl
        refine wpAnyH_all (fuel := f + lft (some gb)) rfl hne fun i hi' => ?_
        rcases hm i hi' with ⟨rfl, -⟩ | ⟨-, e⟩
        · exact atA _ L a true _ w (gA _ _ g s).2 (kA rfl)
        · cases e
      | none =>
        obtain ⟨hne, hm⟩ := hr none none w g rfl
        refine wpAnyH_all (fuel := f + 1) rfl hne fun i hi' => ?_
        rcases hm i hi' with ⟨rfl, -⟩ | ⟨rfl, -⟩
        · exact atA _ L a false _ w (gA _ _ g s).2 (kA rfl)
        · exact atB _ L a false _ w (gB _ _ g s).2 (kB rfl)
  | @call G f L a α c d v G' cl hr hc hd h next ih =>
    refine close G (f + 1) L a cl ?_
    obtain ⟨gA, gB⟩ := cl
    intro ua ub w g s kA kB
    have hn : f + 1 + lft ua + lft ub = (f + lft ua + lft ub) + 1 := by omega
    rw [hn]
    obtain ⟨hne, hm⟩ := hr ua.isSome ub.isSome
    refine wpAnyH_all rfl hne fun i hi' => ?_
    rcases hm i hi' with rfl | ⟨rfl, e⟩ | ⟨rfl, e⟩
    · refine h ua ub w _ hi' g s fun y w' g' s' => ?_
      refine ⟨s', ?_⟩
      rw [fl_set hc, fr_put (fun e he => by injection he with he; subst he; exact hd)]
      exact ih y ua ub w' g' s'
    · cases ua with
      | some _ => cases e
      | none =>
        have k := kA rfl
        have e1 : f + 1 + lft ub = f + lft none + lft ub := rfl
        rw [e1] at k
        exact atA _ L a _ _ w (gA _ _ g s).2 k
    · cases ub with
      | some _ => cases e
      | none =>
        have k := kB rfl
        have e1 : f + 1 + lft ua = f + lft ua + lft none := by show f + 1 + lft ua = f + lft ua + 1; omega
        rw [e1] at k
        exact atB _ L a _ _ w (gB _ _ g s).2 k
  | @take G f L a c o v ho hs hf hQ hc hd h next ih =>
    intro ua ub w g s
    have hn : f + 1 + lft ua + lft ub = (f + lft ua + lft ub) + 1 := by omega
    rw [hn]
    obtain ⟨h1, h2⟩ := hf ua.isSome ub.isSome
    refine wpAnyH_take (i := c) ho hs h1 h2 hQ (h _ _) s ?_
    rw [fl_set hc, fr_put hd]
    exact ih ua ub w g s

/-- the beginning -/
theorem ch_start {va vb : Nat → Value} {oa ob : Obj} (hi : ia ≠ ib) (ht : ta ≠ tb)
    (hA : ∀ (K : Act → World → Prop) a w, K (a.put (some ta) (va w.heap.size)) (w.alloc oa) → wpOp P ops Q ia K a w)
    (hB : ∀ (K : Act → World → Prop) a w, K (a.put (some tb) (vb w.heap.size)) (w.alloc ob) → wpOp P ops Q ib K a w)
    {G : Option Nat → Option Nat → World → Prop} {f : Nat} {L : Array Bool} {a : Act} {w : World} (hl : fl ia ib L false false = L) (ha : fr ta tb a undef undef = a) (g : G none none w) (s : S w) (C : Ch P md ops Q S ia ib ta tb va vb oa ob G f L a) :
    wpAnyH P md ops Q S (f + 1 + 1) L a w := by
  have h := ch_all hi ht hA hB C none none w g s
  have e : fl ia ib L (Option.isSome (none : Option Nat)) (Option.isSome (none : Option Nat)) = L := hl
  have e2 : fr ta tb a (rdv va none) (rdv vb none) = a := ha
  rw [e, e2] at h
  exact h
end
end Go.Proofs.Ytnoaonflphameaa
