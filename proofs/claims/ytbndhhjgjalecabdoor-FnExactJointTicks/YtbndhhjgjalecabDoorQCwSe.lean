/- A search in memory: a map that tells how far each node is, and a queue. -/
import Derived.Test.YtbndhhjgjalecabDoorQCwQi
import Derived.Test.YtbndhhjgjalecabDoorQCwMp
namespace Go.Proofs.YtbndhhjgjalecabDoor
open Go.RowKit Go.ChangeMaps

/-- behind w0: block Mb is a map, v a queue -/
structure Sst {κ : Type} (Kt : TypeId) (kv : κ → Value) (ok : κ → Prop) (sz : Nat) (w0 wr : World) (Mb cnt : Nat) (M : κ → Option Int) (v : Value) (nq : Nat) (G : Nat → Int) : Prop where
  map : MI Kt kv ok wr Mb cnt M
  q : Qi wr w0.heap.size sz v nq G
  tn : Turns Mb (Mb + 1) w0 wr
  lt : Mb < w0.heap.size
section
variable {κ : Type} {Kt : TypeId} {kv : κ → Value} {ok : κ → Prop} {sz : Nat} {w0 wr w' : World} {Mb cnt : Nat} {M M' : κ → Option Int} {v : Value} {nq : Nat} {G G' : Nat → Int}
theorem Sst.size (h : Sst Kt kv ok sz w0 wr Mb cnt M v nq G) : w0.heap.size ≤ wr.heap.size := h.tn.size
theorem Sst.on (h : Sst Kt kv ok sz w0 wr Mb cnt M v nq G) (k : Below wr.heap.size wr w') : Sst Kt kv ok sz w0 w' Mb cnt M v nq G :=
  ⟨h.map.on k, h.q.on k, tn_below h.tn (k.mono h.tn.size), h.lt⟩
theorem Sst.store {cnt' : Nat} (h : Sst Kt kv ok sz w0 wr Mb cnt M v nq G) (k : wr.mapTurned w' Mb) (m : MI Kt kv ok w' Mb cnt' M') : Sst Kt kv ok sz w0 w' Mb cnt' M' v nq G :=
  ⟨m, h.q.turns (turned_turns k) h.lt, h.tn.trans (turned_turns k), h.lt⟩
theorem Sst.app {o : Obj} {w3 : World} {v' : Value} {nq' : Nat} (h : Sst Kt kv ok sz w0 wr Mb cnt M v nq G) (hg : (wr.alloc o).grownBy w3 v.ownBlock) (hq : Qi w3 w0.heap.size sz v' nq' G') : Sst Kt kv ok sz w0 w3 Mb cnt M v' nq' G' := by
  have hb : Below w0.heap.size wr w3 := ((Below.refl _ _).alloc h.size o).grown hg (by simp; have := h.size; omega) (fun q hq => (h.q.lt q hq).1)
  exact ⟨h.map.below hb h.lt, hq, tn_below h.tn hb, h.lt⟩
theorem Sst.cut {v' : Value} {nq' : Nat} (h : Sst Kt kv ok sz w0 wr Mb cnt M v nq G) (hq : Qi wr w0.heap.size sz v' nq' G') : Sst Kt kv ok sz w0 wr Mb cnt M v' nq' G' := ⟨h.map, hq, h.tn, h.lt⟩
theorem Sst.below (h : Sst Kt kv ok sz w0 wr Mb cnt M v nq G) {B : Nat} (hB : B ≤ Mb) : Below B w0 wr := h.tn.below hB (by have := h.lt; omega)
theorem Sst.congr (h : Sst Kt kv ok sz w0 wr Mb cnt M v nq G) (e : ∀ x, ok x → M x = M' x) (e2 : ∀ j, j < nq * sz → G j = G' j) : Sst Kt kv ok sz w0 wr Mb cnt M' v nq G' := ⟨h.map.congr e, h.q.congr e2, h.tn, h.lt⟩
theorem Sst.bn (h : Sst Kt kv ok sz w0 wr Mb cnt M v nq G) (lo hi : Nat) (hl : wr.heap.size ≤ lo) : Bn lo hi v := fun q hq => .inl (Nat.lt_of_lt_of_le (h.q.lt q hq).2 hl)
end
theorem whr_bn {w : World} {v v' : Value} {lo hi : Nat} (h : Whr w v v') (hb : Bn lo hi v) (hh : hi ≤ w.heap.size) : Bn lo hi v' := fun q hq => by
  rcases h with e | ⟨q', e, hq'⟩
  · exact hb q (by rw [← e]; exact hq)
  · rw [e] at hq
    have : q' = q := by simpa using hq
    omega
/-- the front is cut off -/
theorem run_cut (t e : TypeId) (i : TypeInfo) (sz : Nat) (ht : Tryd.prog.underlying t = some (.slice e)) (hi : Tryd.prog.info? e = some i) (hsz : i.size = sz) (a : Option Addr) (len cap : Nat) (h1 : 1 ≤ len) (hlc : len ≤ cap) (w : World) :
    (Instr.slice t (.slice a len cap) (some (.int .i64 1)) none none).run Tryd.prog w = .ok (.slice (if cap - 1 = 0 then a else a.map (·.add (1 * sz))) (len - 1) (cap - 1)) w := by
  subst hsz
  have h2 : (1 : Int) ≤ (len : Int) := by omega
  by_cases hc : cap - 1 = 0
  · obtain rfl : cap = 1 := by omega
    simp [Instr.slice, Instr.sliceBounds, Instr.sliceBound, run_underlying ht, sizeOf, typeInfo, hi, asIntOf, h2]
  · have hc1 : ¬ cap = 1 := by omega
    simp [Instr.slice, Instr.sliceBounds, Instr.sliceBound, run_underlying ht, sizeOf, typeInfo, hi, asIntOf, h2, hc, hc1]
section
variable {N : Nat} {Nb : Nat → Nat → Prop} {s : Nat} {F T : Nat → Int} {L i : Nat} {M : Nat → Prop}
/-- who is taken out of the queue is come to by the least steps -/
theorem Bf.early (h : Bf N Nb s F T L i M) (hi : i < L) (hN : ∀ u v, u < N → Nb u v → v < N) {t : Nat} (ht : T i = (t : Int)) : DistIs Nb s t (F t) := by
  have key : ∀ k v, Rc Nb s k v → v < N ∧ ((0 ≤ F v ∧ F v ≤ (k : Int)) ∨ F t ≤ (k : Int)) := by
    intro k v hr
    induction hr with
    | start => rw [h.atS]; exact ⟨h.hs, .inl ⟨Int.le_refl _, Int.le_refl _⟩⟩
    | @step k u v _ hb ih =>
      obtain ⟨h1, h2⟩ := ih
      refine ⟨hN u v h1 hb, ?_⟩
      have e2 : ((k + 1 : Nat) : Int) = (k : Int) + 1 := by omega
      rcases h2 with ⟨h2, h3⟩ | h2
      · obtain ⟨j, hj, e⟩ := h.ofT u h1 h2
        by_cases hji : j < i
        · have := h.done j hji v (by rw [e]; simpa using hb)
          rw [e, Int.toNat_natCast] at this
          exact .inl ⟨this.1, by omega⟩
        · have := h.mono i j (by omega) hj
          rw [ht, e, Int.toNat_natCast, Int.toNat_natCast] at this
          exact .inr (by omega)
      · exact .inr (by omega)
  have h0 := (h.inT i hi).2
  rw [ht, Int.toNat_natCast] at h0
  refine .inr ⟨(F t).toNat, by omega, h.way t (by omega) h0.2, fun j hj => ?_⟩
  rcases (key j t hj).2 with h9 | h9 <;> omega
/-- nobody is left, and the end was never there -/
theorem Bf.never (h : Bf N Nb s F T L L M) (hN : ∀ u v, u < N → Nb u v → v < N) {t : Nat} (ht : t < N) (hn : ∀ j, j < L → T j ≠ (t : Int)) : DistIs Nb s t (-1) := by
  have e : F t = -1 := by
    rcases h.neg t ht with h0 | h0
    · exact h0
    · obtain ⟨j, hj, e⟩ := h.ofT t ht h0
      exact absurd e (hn j hj)
  rw [← e]; exact h.dist hN ht
end
def AnsDi (Nb : Nat → Nat → Prop) (s t : Nat) (e : Ending) : Prop := ∃ d, e = .returned (.int .i64 d) ∧ DistIs Nb s t d
end Go.Proofs.YtbndhhjgjalecabDoor
