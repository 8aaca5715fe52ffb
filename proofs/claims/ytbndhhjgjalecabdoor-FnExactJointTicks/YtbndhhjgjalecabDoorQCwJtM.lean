/- Two at once: places of both as one number; how they may go on. -/
import Derived.Test.YtbndhhjgjalecabDoorQCwBs
namespace Go.Proofs.YtbndhhjgjalecabDoor
open Go.RowKit

/-- both go on, and don't meet -/
def JNb (W : Int) (n : Nat) (f : Nat → Int) (p q : Nat) : Prop :=
  ∃ a b, q = a * n + b ∧ a < n ∧ b < n ∧ Stp W n f (p / n) a ∧ Stp W n f (p % n) b ∧ a ≠ b ∧ ¬ (a = p % n ∧ b = p / n)
theorem pair_lt {n a b : Nat} (ha : a < n) (hb : b < n) : a * n + b < n * n := by
  have : (a + 1) * n ≤ n * n := Nat.mul_le_mul_right n ha
  rw [Nat.add_mul] at this
  omega
theorem pair_div {n a b : Nat} (hb : b < n) : (a * n + b) / n = a ∧ (a * n + b) % n = b := by
  have hn : 0 < n := by omega
  constructor
  · rw [Nat.add_comm, Nat.add_mul_div_right _ _ hn, Nat.div_eq_of_lt hb, Nat.zero_add]
  · rw [Nat.add_comm, Nat.add_mul_mod_self_right, Nat.mod_eq_of_lt hb]
theorem JNb.lt {W : Int} {n : Nat} {f : Nat → Int} {p q : Nat} (h : JNb W n f p q) : q < n * n := by
  obtain ⟨a, b, rfl, ha, hb, _⟩ := h
  exact pair_lt ha hb
theorem jnb_pair {W : Int} {n : Nat} {f : Nat → Int} {p a b : Nat} (ha : a < n) (hb : b < n) : JNb W n f p (a * n + b) ↔ Stp W n f (p / n) a ∧ Stp W n f (p % n) b ∧ a ≠ b ∧ ¬ (a = p % n ∧ b = p / n) := by
  constructor
  · rintro ⟨a', b', e, ha', hb', h⟩
    have e1 := (pair_div (a := a) hb).1
    have e2 := (pair_div (a := a) hb).2
    rw [e] at e1 e2
    rw [(pair_div hb').1] at e1
    rw [(pair_div hb').2] at e2
    subst e1; subst e2; exact h
  · intro h
    exact ⟨a, b, rfl, ha, hb, h⟩
/-- two trips, as a list of two -/
def tg4 (s t u v : Int) (i : Nat) : Int := if i = 0 then s else if i = 1 then t else if i = 2 then u else v
/-- what JointTicks tells -/
def JntIs (W : Int) (n : Nat) (f : Nat → Int) (s t u v d : Int) : Prop :=
  (¬ (gtB W n f 2 (tg4 s t u v) = true ∧ n ≤ 36) ∧ d = -1) ∨ ((gtB W n f 2 (tg4 s t u v) = true ∧ n ≤ 36) ∧ DistIs (JNb W n f) (s.toNat * n + u.toNat) (t.toNat * n + v.toNat) d)
theorem JntIs.uniq {W : Int} {n : Nat} {f : Nat → Int} {s t u v d d' : Int} (h : JntIs W n f s t u v d) (h' : JntIs W n f s t u v d') : d = d' := by
  rcases h with ⟨h1, h2⟩ | ⟨h1, h2⟩ <;> rcases h' with ⟨g1, g2⟩ | ⟨g1, g2⟩
  · rw [h2, g2]
  · exact absurd g1 h1
  · exact absurd h1 g1
  · exact h2.uniq g2
/-- no neighbour -/
theorem Bf.no {N : Nat} {Nb : Nat → Nat → Prop} {s : Nat} {F T : Nat → Int} {L i : Nat} {M : Nat → Prop} (h : Bf N Nb s F T L i M) {u : Nat} (hu : ¬ Nb (T i).toNat u) : Bf N Nb s F T L i (fun x => M x ∨ x = u) :=
  ⟨h.hs, h.neg, h.inT, h.ofT, h.cnt, h.way, h.atS, h.mono, h.near, h.done, h.bnd, fun hi x hx hb => by
    rcases hx with hx | rfl
    · exact h.look hi x hx hb
    · exact absurd hb hu⟩
/-- the pairs that were looked at: the first j of one list with all of the other, number j with the first k -/
def SnP (G H : List Int) (n j k q : Nat) : Prop := ∃ p r a b, gl G p = ((a : Nat) : Int) ∧ gl H r = ((b : Nat) : Int) ∧ q = a * n + b ∧ ((p < j ∧ r < H.length) ∨ (p = j ∧ r < k))
theorem snP_next {G H : List Int} {n j k a b q : Nat} (ha : gl G j = ((a : Nat) : Int)) (hb : gl H k = ((b : Nat) : Int)) (h : SnP G H n j (k + 1) q) : SnP G H n j k q ∨ q = a * n + b := by
  obtain ⟨p, r, a', b', h1, h2, h3, h4⟩ := h
  rcases h4 with h4 | ⟨h4, h5⟩
  · exact .inl ⟨p, r, a', b', h1, h2, h3, .inl h4⟩
  · by_cases e : r = k
    · subst e; subst h4
      right
      rw [ha] at h1; rw [hb] at h2
      have e1 : a' = a := by omega
      have e2 : b' = b := by omega
      rw [h3, e1, e2]
    · exact .inl ⟨p, r, a', b', h1, h2, h3, .inr ⟨h4, by omega⟩⟩
theorem snP_row {G H : List Int} {n j q : Nat} (h : SnP G H n (j + 1) 0 q) : SnP G H n j H.length q := by
  obtain ⟨p, r, a, b, h1, h2, h3, h4⟩ := h
  rcases h4 with ⟨h4, h5⟩ | ⟨h4, h5⟩
  · by_cases e : p = j
    · exact ⟨p, r, a, b, h1, h2, h3, .inr ⟨e, h5⟩⟩
    · exact ⟨p, r, a, b, h1, h2, h3, .inl ⟨by omega, h5⟩⟩
  · omega
theorem snP_zero {G H : List Int} {n q : Nat} (h : SnP G H n 0 0 q) : False := by
  obtain ⟨p, r, a, b, h1, h2, h3, h4⟩ := h
  omega
theorem snP_all {W : Int} {n : Nat} {f : Nat → Int} {p q : Nat} (h : JNb W n f p q) : SnP (nbL W n f (p / n)) (nbL W n f (p % n)) n (nbL W n f (p / n)).length 0 q := by
  obtain ⟨a, b, e, _, _, h1, h2, _⟩ := h
  obtain ⟨j, hj, ej⟩ := nbL_all h1
  obtain ⟨k, hk, ek⟩ := nbL_all h2
  exact ⟨j, k, a, b, ej, ek, e, .inl ⟨hj, hk⟩⟩
end Go.Proofs.YtbndhhjgjalecabDoor
