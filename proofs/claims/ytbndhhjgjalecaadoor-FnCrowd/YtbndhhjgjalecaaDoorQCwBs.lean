/- A map of the call's own, from keys of any kind to ints: what is looked up, what a store leaves. -/
import Derived.Test.YtbndhhjgjalecaaDoorQClVal
import Derived.Maps.OwnSet
import Derived.DeepKeys4
import Derived.Test.YtbndhhjgjalecaaDoorQCwGpM
import Derived.Test.YtbndhhjgjalecaaDoorQClNxB
namespace Go.Proofs.YtbndhhjgjalecaaDoor
open Go.RowKit Go.Maps Go.ChangeMaps

/-- keys of a type: each x that is ok is told as a value -/
structure KK {κ : Type} (Mt Kt : TypeId) (kv : κ → Value) (ok : κ → Prop) : Prop where
  law : Keyed Tryd.prog Kt
  ty : Tryd.prog.underlying Mt = some (.map Kt 3)
  key : ∀ x, ok x → ∃ l, keyOf Tryd.prog Kt (kv x) = some l
  inj : ∀ x y, kv x = kv y → x = y
/-- block Mb is a map that tells M -/
def MI {κ : Type} (Kt : TypeId) (kv : κ → Value) (ok : κ → Prop) (w : World) (Mb n : Nat) (M : κ → Option Int) : Prop :=
  ∃ D : DataW Unit, w.ownsMap Tryd.prog Kt (plainElem Tryd.prog 3) Mb n D ∧ ∀ x l, ok x → keyOf Tryd.prog Kt (kv x) = some l → has D l = (M x).isSome ∧ D.atKey l (.lit (.int .i64 0)) = .lit (.int .i64 ((M x).getD 0))
theorem zeroI (w : World) : (zeroValue 3).run Tryd.prog w = .ok (.int .i64 0) w := by kernel_rfl
section
variable {κ : Type} {Mt Kt : TypeId} {kv : κ → Value} {ok : κ → Prop} {w w' : World} {Mb n : Nat} {M : κ → Option Int}
theorem MI.look (h : MI Kt kv ok w Mb n M) (K : KK Mt Kt kv ok) {x : κ} (hx : ok x) :
    (Instr.lookup Mt (.map (some Mb)) (kv x) true).run Tryd.prog w = .ok (.tuple #[.int .i64 ((M x).getD 0), .bool (M x).isSome]) w := by
  obtain ⟨D, hD, hM⟩ := h
  obtain ⟨l, hl⟩ := K.key x hx
  obtain ⟨v, ps, hr, hv⟩ := hD.look_ok K.law K.ty (zeroI w) (plainElem_int Tryd.underlying3 (by decide)) hl
  obtain ⟨c, rfl, hc, -⟩ := plainElem_int_inv Tryd.underlying3 hv
  have e := hM x l hx hl
  rw [hr, e.1]
  have e2 : DataW.lit (.int .i64 ((M x).getD 0)) = (.lit (.int .i64 c) : DataW Unit) := by rw [← e.2]; exact congrArg Prod.fst hc
  simp only [DataW.lit.injEq, Lit.int.injEq] at e2
  rw [e2.2]
theorem MI.at (h : MI Kt kv ok w Mb n M) (K : KK Mt Kt kv ok) {x : κ} (hx : ok x) :
    (Instr.lookup Mt (.map (some Mb)) (kv x) false).run Tryd.prog w = .ok (.int .i64 ((M x).getD 0)) w := by
  obtain ⟨D, hD, hM⟩ := h
  obtain ⟨l, hl⟩ := K.key x hx
  obtain ⟨c, hr, hat, -⟩ := hD.lookup_int K.law K.ty Tryd.underlying3 (zeroI w) hl
  have e := hM x l hx hl
  rw [e.2] at hat
  simp only [DataW.lit.injEq, Lit.int.injEq] at hat
  rw [hr, hat.2]
theorem MI.store (h : MI Kt kv ok w Mb n M) (K : KK Mt Kt kv ok) (hn : n ≤ 1000000) {x : κ} (hx : ok x) {v : Int} (hv : (Lit.int .i64 v).wf = true) {M' : κ → Option Int} (e1 : M' x = some v) (e2 : ∀ y, y ≠ x → M' y = M y) :
    ∃ w', (Instr.mapUpdate Mt (.map (some Mb)) (kv x) (.int .i64 v)).run Tryd.prog w = .ok () w' ∧ MI Kt kv ok w' Mb (n + 1) M' ∧ w.mapTurned w' Mb := by
  obtain ⟨D, hD, hM⟩ := h
  obtain ⟨l, hl⟩ := K.key x hx
  obtain ⟨w', hr, hD', ht⟩ := hD.store K.law K.ty (by unfold maxLen; omega) hl (plainElem_int Tryd.underlying3 hv)
  refine ⟨w', hr, ⟨_, hD', fun y ly hy hly => ?_⟩, ht⟩
  by_cases e : y = x
  · subst e
    obtain rfl : ly = l := Option.some.inj (hly.symm.trans hl)
    rw [has_put_same hD.isMap (K.law.key hl), atKey_put_same hD.isMap (K.law.key hl), e1]
    exact ⟨rfl, rfl⟩
  · have ne : ly ≠ l := fun q => e (K.inj y x (K.law.inj hly (by rw [q]; exact hl)))
    rw [has_put_other ne, atKey_put_other ne, e2 y e]
    exact hM y ly hy hly
theorem mi_made (w : World) (Kt : TypeId) (kv : κ → Value) (ok : κ → Prop) : MI Kt kv ok (w.alloc (.map #[] 0)) w.heap.size 0 (fun _ => none) :=
  ⟨_, World.ownsMap_made w Tryd.prog Kt (plainElem Tryd.prog 3), fun _ _ _ _ => ⟨rfl, rfl⟩⟩
theorem MI.heap (h : MI Kt kv ok w Mb n M) (e : w'.heap[Mb]? = w.heap[Mb]?) : MI Kt kv ok w' Mb n M := by
  obtain ⟨D, ⟨es, clock, hb, r⟩, hL⟩ := h
  exact ⟨D, ⟨es, clock, e.trans hb, r⟩, hL⟩
theorem MI.lt (h : MI Kt kv ok w Mb n M) : Mb < w.heap.size := by
  obtain ⟨D, hD, _⟩ := h
  exact hD.lt
theorem MI.on (h : MI Kt kv ok w Mb n M) (k : Below w.heap.size w w') : MI Kt kv ok w' Mb n M := h.heap (k.block Mb h.lt)
theorem MI.below {B : Nat} (h : MI Kt kv ok w Mb n M) (k : Below B w w') (hB : Mb < B) : MI Kt kv ok w' Mb n M := h.heap (k.block Mb hB)
theorem MI.mono {n' : Nat} (h : MI Kt kv ok w Mb n M) (hn : n ≤ n') : MI Kt kv ok w Mb n' M := by
  obtain ⟨D, hD, hL⟩ := h
  exact ⟨D, hD.mono hn, hL⟩
theorem MI.congr {M' : κ → Option Int} (h : MI Kt kv ok w Mb n M) (e : ∀ x, ok x → M x = M' x) : MI Kt kv ok w Mb n M' := by
  obtain ⟨D, hD, hL⟩ := h
  exact ⟨D, hD, fun x l hx hl => by rw [← e x hx]; exact hL x l hx hl⟩
/-- a map that turned: its block alone -/
theorem turned_turns (h : w.mapTurned w' Mb) : Turns Mb (Mb + 1) w w' := by
  obtain ⟨es, clock, es', clock', hb, rfl⟩ := h
  refine ⟨rfl, rfl, rfl, by simp [setBlock], fun c hc hd => ?_⟩
  simp only [setBlock]
  rw [Array.getElem?_setIfInBounds_ne (by omega)]
end
end Go.Proofs.YtbndhhjgjalecaaDoor

/- Pairs of ints as values. -/
namespace Go.Proofs.YtbndhhjgjalecaaDoor
open Go.RowKit Go.Maps

abbrev kvP : Int × Int → Value := fun x => .agg #[.int .i64 x.1, .int .i64 x.2]
abbrev okP : Int × Int → Prop := fun x => (Lit.int .i64 x.1).wf = true ∧ (Lit.int .i64 x.2).wf = true
end Go.Proofs.YtbndhhjgjalecaaDoor

/- Spots as keys of a map. -/
namespace Go.Proofs.YtbndhhjgjalecaaDoor
open Go.RowKit Go.Maps



theorem key_spot (x : Int × Int) (h : okP x) : ∃ l, keyOf Tryd.prog 105 (kvP x) = some l := by
  have h1 : Tryd.prog.keyType 105 = true := by kernel_rfl
  have hc : Tryd.prog.cellsOf 105 = 2 := by kernel_rfl
  have hi : Tryd.prog.cellsOf 3 = 1 := by kernel_rfl
  obtain ⟨S, hS⟩ : ∃ S, Tryd.prog.types.size = S + 1 := ⟨Tryd.prog.types.size - 1, by have : 0 < Tryd.prog.types.size := of_decide_eq_true (by kernel_rfl); omega⟩
  have hu := Tryd.underlying105
  have hui := Tryd.underlying3
  have h3 : Tryd.prog.keyLits (Tryd.prog.types.size + 1) 105 [.int .i64 x.1, .int .i64 x.2] = some [.int .i64 x.1, .int .i64 x.2] := by
    rw [hS]
    simp [Program.keyLits, hu, hui, hc, hi, h.1, h.2]
  refine ⟨.string (keyBytes [.int .i64 x.1, .int .i64 x.2]), ?_⟩
  unfold keyOf
  rw [hu]
  simp only [h1, Value.formed, hu, hc, Value.cells, h3]
  rfl
theorem kkS : KK (κ := Int × Int) 71 105 kvP okP :=
  ⟨Keyed.of_law (deep_law_laid (by kernel_rfl) (m := Tryd.prog.types.size + 1) (of_decide_eq_true (by kernel_rfl)) (of_decide_eq_true (by kernel_rfl)) (by kernel_rfl) (by rw [Tryd.underlying105])), Tryd.underlying71, key_spot, fun x y e => by
    simp only [Value.agg.injEq] at e
    have e2 : #[Value.int .i64 x.1, Value.int .i64 x.2].toList = #[Value.int .i64 y.1, Value.int .i64 y.2].toList := by rw [e]
    simp only [List.cons.injEq, Value.int.injEq, true_and, and_true] at e2
    exact Prod.ext e2.1 e2.2⟩
end Go.Proofs.YtbndhhjgjalecaaDoor

/- The least number of steps from one node to another: a search that goes round by round finds it. Numbers alone. -/
namespace Go.Proofs.YtbndhhjgjalecaaDoor

/-- v is come to from s by k steps -/
inductive Rc (Nb : Nat → Nat → Prop) (s : Nat) : Nat → Nat → Prop
  | start : Rc Nb s 0 s
  | step {k u v : Nat} : Rc Nb s k u → Nb u v → Rc Nb s (k + 1) v
/-- the least number of steps, -1 where there is no way -/
def DistIs (Nb : Nat → Nat → Prop) (s t : Nat) (d : Int) : Prop := (d = -1 ∧ ∀ k, ¬ Rc Nb s k t) ∨ (∃ k : Nat, d = (k : Int) ∧ Rc Nb s k t ∧ ∀ j, Rc Nb s j t → k ≤ j)
theorem DistIs.uniq {Nb : Nat → Nat → Prop} {s t : Nat} {d d' : Int} (h : DistIs Nb s t d) (h' : DistIs Nb s t d') : d = d' := by
  rcases h with ⟨h1, h2⟩ | ⟨k, h1, h2, h3⟩ <;> rcases h' with ⟨g1, g2⟩ | ⟨j, g1, g2, g3⟩
  · rw [h1, g1]
  · exact absurd g2 (h2 j)
  · exact absurd h2 (g2 k)
  · have := h3 j g2
    have := g3 k h2
    omega
theorem DistIs.congr {Nb Nb' : Nat → Nat → Prop} {s t : Nat} {d : Int} (h : DistIs Nb s t d) (e : ∀ u v, Nb u v ↔ Nb' u v) : DistIs Nb' s t d := by
  have : Nb = Nb' := by funext u v; exact propext (e u v)
  rw [← this]; exact h
theorem DistIs.lo {Nb : Nat → Nat → Prop} {s t : Nat} {d : Int} (h : DistIs Nb s t d) : -1 ≤ d := by
  rcases h with ⟨h, _⟩ | ⟨k, h, _⟩ <;> omega

/-- how many of the first n are so -/
def cnF (F : Nat → Int) : Nat → Nat
  | 0 => 0
  | n + 1 => cnF F n + if 0 ≤ F n then 1 else 0
theorem cnF_le (F : Nat → Int) (n : Nat) : cnF F n ≤ n := by
  induction n with
  | zero => simp [cnF]
  | succ n ih => simp only [cnF]; split <;> omega
theorem cnF_put {F : Nat → Int} {u : Nat} {x : Int} (h : F u < 0) (hx : 0 ≤ x) (n : Nat) : cnF (put F u x) n = cnF F n + if u < n then 1 else 0 := by
  induction n with
  | zero => simp [cnF]
  | succ n ih =>
    simp only [cnF, ih]
    by_cases e : n = u
    · subst e
      rw [if_neg (Nat.lt_irrefl n), if_pos (Nat.lt_succ_self n)]
      simp only [put, if_true]
      rw [if_pos hx, if_neg (by omega)]
    · have e1 : put F u x n = F n := by simp [put, e]
      rw [e1]
      generalize (if 0 ≤ F n then 1 else 0) = q
      by_cases h2 : u < n
      · rw [if_pos h2, if_pos (show u < n + 1 by omega)]; omega
      · rw [if_neg h2, if_neg (show ¬ u < n + 1 by omega)]; omega
theorem cnF_none (n : Nat) : cnF (fun _ => -1) n = 0 := by
  induction n with
  | zero => rfl
  | succ n ih => simp [cnF, ih]

/-- the search: F: how far each node is, T: those that were found, in their order; the first i are done, of number i those neighbours that M names were looked at -/
structure Bf (N : Nat) (Nb : Nat → Nat → Prop) (s : Nat) (F T : Nat → Int) (L i : Nat) (M : Nat → Prop) : Prop where
  hs : s < N
  neg : ∀ v, v < N → F v = -1 ∨ 0 ≤ F v
  inT : ∀ j, j < L → 0 ≤ T j ∧ T j < (N : Int) ∧ 0 ≤ F (T j).toNat
  ofT : ∀ v, v < N → 0 ≤ F v → ∃ j, j < L ∧ T j = (v : Int)
  cnt : L = cnF F N
  way : ∀ v, v < N → 0 ≤ F v → Rc Nb s (F v).toNat v
  atS : F s = 0
  mono : ∀ j k, j ≤ k → k < L → F (T j).toNat ≤ F (T k).toNat
  near : ∀ k, k < L → i < L → F (T k).toNat ≤ F (T i).toNat + 1
  done : ∀ j, j < i → ∀ u, Nb (T j).toNat u → 0 ≤ F u ∧ F u ≤ F (T j).toNat + 1
  bnd : ∀ j, j < L → F (T j).toNat ≤ (j : Int)
  look : i < L → ∀ u, M u → Nb (T i).toNat u → 0 ≤ F u ∧ F u ≤ F (T i).toNat + 1
section
variable {N : Nat} {Nb : Nat → Nat → Prop} {s : Nat} {F T : Nat → Int} {L i : Nat} {M : Nat → Prop}
theorem bf_start (hs : s < N) (T : Nat → Int) (hT : T 0 = (s : Int)) : Bf N Nb s (put (fun _ => -1) s 0) T 1 0 (fun _ => False) := by
  have e0 : put (fun _ => -1) s 0 s = 0 := by simp [put]
  have hz : ∀ v, 0 ≤ put (fun _ => -1) s 0 v → v = s := fun v h => by
    by_cases e : v = s
    · exact e
    · simp [put, e] at h
  refine ⟨hs, fun v _ => ?_, fun j hj => ?_, fun v _ h => ⟨0, by omega, by rw [hT, hz v h]⟩, ?_, fun v _ h => ?_, e0, fun j k h1 h2 => ?_, fun k h1 _ => ?_, fun j hj => absurd hj (Nat.not_lt_zero _), fun j hj => ?_, fun _ u h => h.elim⟩
  · by_cases e : v = s
    · subst e; rw [e0]; omega
    · simp [put, e]
  · obtain rfl : j = 0 := by omega
    rw [hT]; simp only [Int.toNat_natCast]; rw [e0]; omega
  · rw [cnF_put (by omega) (Int.le_refl _), cnF_none, if_pos hs]
  · obtain rfl := hz v h
    rw [e0]; exact .start
  · obtain rfl : k = 0 := by omega
    obtain rfl : j = 0 := by omega
    exact Int.le_refl _
  · obtain rfl : k = 0 := by omega
    omega
  · obtain rfl : j = 0 := by omega
    rw [hT, Int.toNat_natCast, e0]; omega
theorem Bf.le (h : Bf N Nb s F T L i M) : L ≤ N := by rw [h.cnt]; exact cnF_le _ _
/-- a neighbour that was found before -/
theorem Bf.skip (h : Bf N Nb s F T L i M) (hi : i < L) {u : Nat} (hu : u < N) (h0 : 0 ≤ F u) : Bf N Nb s F T L i (fun x => M x ∨ x = u) := by
  refine ⟨h.hs, h.neg, h.inT, h.ofT, h.cnt, h.way, h.atS, h.mono, h.near, h.done, h.bnd, fun _ x hx hb => ?_⟩
  rcases hx with hx | rfl
  · exact h.look hi x hx hb
  · obtain ⟨j, hj, e⟩ := h.ofT x hu h0
    have := h.near j hj hi
    rw [e, Int.toNat_natCast] at this
    exact ⟨h0, this⟩
/-- a neighbour that is found now -/
theorem Bf.found (h : Bf N Nb s F T L i M) (hi : i < L) {u : Nat} (hu : u < N) (h0 : F u < 0) (hb : Nb (T i).toNat u) :
    Bf N Nb s (put F u (F (T i).toNat + 1)) (put T L (u : Int)) (L + 1) i (fun x => M x ∨ x = u) := by
  obtain ⟨t0, t1, t2⟩ := h.inT i hi
  have ne : ∀ j, j < L → (T j).toNat ≠ u := fun j hj e => by have := (h.inT j hj).2.2; rw [e] at this; omega
  have pF : ∀ j, j < L → put F u (F (T i).toNat + 1) (T j).toNat = F (T j).toNat := fun j hj => by simp [put, ne j hj]
  have pT : ∀ j, j < L → put T L (u : Int) j = T j := fun j hj => by simp [put, Nat.ne_of_lt hj]
  have pL : put T L (u : Int) L = (u : Int) := by simp [put]
  have pu : put F u (F (T i).toNat + 1) u = F (T i).toNat + 1 := by simp [put]
  have pF2 : ∀ x, 0 ≤ F x → put F u (F (T i).toNat + 1) x = F x := fun x hx => by
    have : x ≠ u := fun e => by subst e; omega
    simp [put, this]
  refine ⟨h.hs, fun v hv => ?_, fun j hj => ?_, fun v hv hF => ?_, ?_, fun v hv hF => ?_, ?_, fun j k hjk hk => ?_, fun k hk _ => ?_, fun j hj x hx => ?_, fun j hj => ?_, fun _ x hx hbx => ?_⟩
  · by_cases e : v = u
    · subst e; rw [pu]; omega
    · simp only [put, if_neg e]; exact h.neg v hv
  · by_cases e : j = L
    · subst e; rw [pL, Int.toNat_natCast, pu]; omega
    · rw [pT j (by omega), pF j (by omega)]; exact h.inT j (by omega)
  · by_cases e : v = u
    · subst e; exact ⟨L, by omega, pL⟩
    · simp only [put, if_neg e] at hF
      obtain ⟨j, hj, ej⟩ := h.ofT v hv hF
      exact ⟨j, by omega, by rw [pT j hj]; exact ej⟩
  · rw [cnF_put h0 (by omega), if_pos hu, ← h.cnt]
  · by_cases e : v = u
    · subst e
      rw [pu, show (F (T i).toNat + 1).toNat = (F (T i).toNat).toNat + 1 by omega]
      exact .step (h.way _ (by omega) t2) hb
    · simp only [put, if_neg e] at hF ⊢; exact h.way v hv hF
  · rw [pF2 s (by rw [h.atS]; omega)]; exact h.atS
  · by_cases e : k = L
    · subst e
      rw [pL, Int.toNat_natCast, pu]
      by_cases e2 : j = k
      · subst e2; rw [pL, Int.toNat_natCast, pu]; omega
      · rw [pT j (by omega), pF j (by omega)]; exact h.near j (by omega) hi
    · rw [pT k (by omega), pF k (by omega), pT j (by omega), pF j (by omega)]; exact h.mono j k hjk (by omega)
  · rw [pT i hi, pF i hi]
    by_cases e : k = L
    · subst e; rw [pL, Int.toNat_natCast, pu]; omega
    · rw [pT k (by omega), pF k (by omega)]; exact h.near k (by omega) hi
  · rw [pT j (by omega)] at hx ⊢
    rw [pF j (by omega)]
    have := h.done j hj x hx
    rw [pF2 x this.1]; exact this
  · by_cases e : j = L
    · subst e
      have := h.bnd i hi
      rw [pL, Int.toNat_natCast, pu]; omega
    · rw [pT j (by omega), pF j (by omega)]; exact h.bnd j (by omega)
  · rw [pT i hi] at hbx ⊢
    rw [pF i hi]
    rcases hx with hx | rfl
    · have := h.look hi x hx hbx
      rw [pF2 x this.1]; exact this
    · rw [pu]; omega
/-- all neighbours of number i were looked at -/
theorem Bf.next (h : Bf N Nb s F T L i M) (hi : i < L) (hM : ∀ u, Nb (T i).toNat u → M u) : Bf N Nb s F T L (i + 1) (fun _ => False) := by
  refine ⟨h.hs, h.neg, h.inT, h.ofT, h.cnt, h.way, h.atS, h.mono, fun k hk h1 => ?_, fun j hj u hu => ?_, h.bnd, fun _ u hu => hu.elim⟩
  · have := h.near k hk hi
    have := h.mono i (i + 1) (Nat.le_succ _) h1
    omega
  · by_cases e : j = i
    · subst e; exact h.look hi u (hM u hu) hu
    · exact h.done j (by omega) u hu
theorem Bf.weak {M' : Nat → Prop} (h : Bf N Nb s F T L i M) (hM : ∀ u, M' u → M u) : Bf N Nb s F T L i M' :=
  ⟨h.hs, h.neg, h.inT, h.ofT, h.cnt, h.way, h.atS, h.mono, h.near, h.done, h.bnd, fun hi u hu => h.look hi u (hM u hu)⟩
/-- the end -/
theorem Bf.dist (h : Bf N Nb s F T L L M) (hN : ∀ u v, u < N → Nb u v → v < N) {t : Nat} (ht : t < N) : DistIs Nb s t (F t) := by
  have key : ∀ k v, Rc Nb s k v → v < N ∧ 0 ≤ F v ∧ F v ≤ (k : Int) := by
    intro k v hr
    induction hr with
    | start => rw [h.atS]; exact ⟨h.hs, Int.le_refl _, Int.le_refl _⟩
    | @step k u v _ hb ih =>
      obtain ⟨h1, h2, h3⟩ := ih
      obtain ⟨j, hj, e⟩ := h.ofT u h1 h2
      have := h.done j hj v (by rw [e]; simpa using hb)
      rw [e, Int.toNat_natCast] at this
      refine ⟨hN u v h1 hb, this.1, ?_⟩
      have h4 := this.2
      have e2 : ((k + 1 : Nat) : Int) = (k : Int) + 1 := by omega
      omega
  rcases h.neg t ht with h0 | h0
  · exact .inl ⟨h0, fun k hk => by have := (key k t hk).2.1; omega⟩
  · exact .inr ⟨(F t).toNat, by omega, h.way t ht h0, fun j hj => by have := (key j t hj).2.2; omega⟩
end
end Go.Proofs.YtbndhhjgjalecaaDoor

/- A search in memory: a table of ints that is written, and a list of ints that grows. -/
namespace Go.Proofs.YtbndhhjgjalecaaDoor
open Go.RowKit

theorem tn_below {lo hi : Nat} {w w' w'' : World} (h : Turns lo hi w w') (k : Below w.heap.size w' w'') : Turns lo hi w w'' :=
  ⟨k.os.trans h.os, k.tape.trans h.tape, k.output.trans h.output, Nat.le_trans h.size k.size, fun c h1 hc => (k.block c h1).trans (h.block c h1 hc)⟩
/-- behind w0: block FB holds a table, v is a list of the call's own -/
structure Bs (w0 wr : World) (FB N : Nat) (F : Nat → Int) (v : Value) (L : Nat) (T : Nat → Int) : Prop where
  ip : IP wr FB N F
  own : Own wr w0.heap.size v L T
  tn : Turns FB (FB + 1) w0 wr
  lt : FB < w0.heap.size
/-- the list's block is none of these -/
def Bn (lo hi : Nat) (v : Value) : Prop := ∀ q, v.ownBlock = some q → q < lo ∨ hi ≤ q
section
variable {w0 wr w' : World} {FB N : Nat} {F : Nat → Int} {v : Value} {L : Nat} {T : Nat → Int}
theorem Bs.size (h : Bs w0 wr FB N F v L T) : w0.heap.size ≤ wr.heap.size := h.tn.size
theorem Bs.on (h : Bs w0 wr FB N F v L T) (k : Below wr.heap.size wr w') : Bs w0 w' FB N F v L T :=
  ⟨h.ip.below k h.ip.lt, h.own.below k, tn_below h.tn (k.mono h.tn.size), h.lt⟩
theorem Bs.set (h : Bs w0 wr FB N F v L T) {u : Nat} (hu : u < N) (x : Int) : Bs w0 (wr.setCell ⟨FB, u, none⟩ (.int .i64 x)) FB N (put F u x) v L T :=
  ⟨h.ip.set hu x, h.own.only ((Only.refl FB wr).set u _) h.lt, h.tn.trans (OnlyIn.turns (OnlyIn.of ((Only.refl FB wr).set u _) (Nat.le_refl _) (Nat.lt_succ_self _))), h.lt⟩
theorem Bs.congr {F' : Nat → Int} (h : Bs w0 wr FB N F v L T) (e : ∀ i, i < N → F i = F' i) : Bs w0 wr FB N F' v L T := ⟨h.ip.congr e, h.own, h.tn, h.lt⟩
theorem Bs.app (h : Bs w0 wr FB N F v L T) {o : Obj} {w3 : World} {v' : Value} {x : Int} (ho : w3.ownsRow w0.heap.size 3 1 v' (L + 1) (vL T L ++ [.int .i64 x])) (hg : (wr.alloc o).grownBy w3 v.ownBlock) : Bs w0 w3 FB N F v' (L + 1) (put T L x) := by
  have hb : Below w0.heap.size wr w3 := ((Below.refl _ _).alloc h.size o).grown hg (by simp; have := h.size; omega) (fun q hq => (World.ownsRow.lt h.own q hq).1)
  exact ⟨h.ip.below hb h.lt, own_put ho, tn_below h.tn hb, h.lt⟩
theorem lq_app {lo hi n : Nat} {a : Option Addr} {G : Nat → Int} (h : LQ wr lo hi a n G) (hb : Bn lo hi v) {o : Obj} {w3 : World} (hg : (wr.alloc o).grownBy w3 v.ownBlock) : LQ w3 lo hi a n G := fun h0 => by
  obtain ⟨b, rfl, h1, h2, hP⟩ := h.on ((Below.refl wr.heap.size wr).alloc (Nat.le_refl _) o) h0
  have e := hg.block b hP.lt (fun e => by have := hb b e.symm; omega)
  exact ⟨b, rfl, h1, h2, Nat.lt_of_lt_of_le hP.lt hg.size, fun i hi => (cell_same e _).trans (hP.c i hi), fun j => (frozen_same e j).trans (hP.fz j)⟩
theorem Bn.app {lo hi : Nat} (hb : Bn lo hi v) {o : Obj} {v' : Value} (ht : v'.ownBlock = v.ownBlock ∨ v'.ownBlock = some (wr.alloc o).heap.size) (hh : hi ≤ wr.heap.size) : Bn lo hi v' := fun q hq => by
  rcases ht with e | e
  · exact hb q (by rw [← e]; exact hq)
  · rw [e] at hq
    have : q = wr.heap.size + 1 := by simpa using hq.symm
    omega
theorem Bs.bn (h : Bs w0 wr FB N F v L T) (lo hi : Nat) (hl : wr.heap.size ≤ lo) : Bn lo hi v := fun q hq => .inl (Nat.lt_of_lt_of_le (World.ownsRow.lt h.own q hq).2 hl)
theorem Bs.below (h : Bs w0 wr FB N F v L T) {B : Nat} (hB : B ≤ FB) : Below B w0 wr := h.tn.below hB (by have := h.lt; omega)
end
theorem own_lit1 (w : World) (base : Nat) (x : Int) (T : Nat → Int) (hT : T 0 = x) (h : base ≤ w.heap.size) : Own (w.alloc (.cells #[.int .i64 x] 3)) base (.slice (some ⟨w.heap.size, 0, none⟩) 1 1) 1 T :=
  ⟨by simp [vL], .inr ⟨w.heap.size, 1, #[.int .i64 x], rfl, h, heap_alloc_new w _, Nat.le_refl _, by unfold maxLen; omega, rfl, by simp [vL, hT]⟩⟩
/-- the trip of a pair of numbers, as a list of one -/
def tg (s t : Int) (i : Nat) : Int := if i = 0 then s else t
/-- what AloneTicks tells -/
def AlnIs (W : Int) (n : Nat) (f : Nat → Int) (s t d : Int) : Prop :=
  (gtB W n f 1 (tg s t) = false ∧ d = -1) ∨ (gtB W n f 1 (tg s t) = true ∧ DistIs (Stp W n f) s.toNat t.toNat d)
theorem AlnIs.uniq {W : Int} {n : Nat} {f : Nat → Int} {s t d d' : Int} (h : AlnIs W n f s t d) (h' : AlnIs W n f s t d') : d = d' := by
  rcases h with ⟨h1, h2⟩ | ⟨h1, h2⟩ <;> rcases h' with ⟨g1, g2⟩ | ⟨g1, g2⟩
  · rw [h2, g2]
  · rw [h1] at g1; cases g1
  · rw [h1] at g1; cases g1
  · exact h2.uniq g2
/-- the first j of a list -/
def SnL (l : List Int) (j u : Nat) : Prop := ∃ p, p < j ∧ gl l p = (u : Int)
end Go.Proofs.YtbndhhjgjalecaaDoor
