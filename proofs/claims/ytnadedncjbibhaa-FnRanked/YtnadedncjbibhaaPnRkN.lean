/- A play by rank is one in numbers; what its slices cover. -/
import Derived.Test.YtnadedncjbibhaaPnRkM
import Derived.Test.YtnadedncjbibhaaPnRn
namespace Go.Proofs.Ytnadedncjbibhaa
open Go.RowKit
theorem chW_rank {c : Nat → Int} {t : Int} : ∀ {m k : Nat}, k < m → c k ≤ t → 0 ≤ chW c (fun k => (k : Int)) t m ∧ chW c (fun k => (k : Int)) t m ≤ (k : Int)
  | 0, k, h, _ => by omega
  | m + 1, k, h, hc => by
    have b := chW_bd c (fun k => (k : Int)) t m
    rw [chW]
    by_cases e : k < m
    · have ih := chW_rank (m := m) e hc
      rw [if_neg (by rintro ⟨_, q | q⟩ <;> omega)]
      exact ih
    · have e2 : k = m := by omega
      subst e2
      by_cases q : chW c (fun k => (k : Int)) t k = -1
      · rw [if_pos ⟨hc, .inl q⟩]; omega
      · rw [if_neg (by rintro ⟨_, z | z⟩ <;> omega)]; omega
theorem chW_none {c u : Nat → Int} {t : Int} : ∀ {m : Nat}, chW c u t m = -1 → ∀ k, k < m → t < c k
  | 0, _, k, hk => by omega
  | m + 1, h, k, hk => by
    have b := chW_bd c u t m
    rw [chW] at h
    split at h
    · omega
    · rename_i q
      by_cases e : k < m
      · exact chW_none h k e
      · have e2 : k = m := by omega
        subst e2
        rcases Int.lt_or_le t (c k) with z | z
        · exact z
        · exact absurd ⟨z, .inl h⟩ q
section
variable {n : Nat} {F f : Nat → Int} {ur : Bool}
theorem ru_step (t : Nat) : ruP ur n F f (t + 1) = stP ur n F f (ruP ur n F f t) (t : Int) := rfl
theorem ru_no {t : Nat} (h : whP ur n F f (ruP ur n F f t) (t : Int) < 0) : ruP ur n F f (t + 1) = ruP ur n F f t := by
  rw [ru_step]; unfold stP; rw [if_pos h]
theorem ru_yes {t j : Nat} (h : whP ur n F f (ruP ur n F f t) (t : Int) = (j : Int)) : ruP ur n F f (t + 1) = gvP F f (ruP ur n F f t) (t : Int) j := by
  rw [ru_step]; unfold stP; rw [if_neg (by omega), h]; rfl
theorem wh_bd (s : Pl) (t : Int) : -1 ≤ whP ur n F f s t ∧ whP ur n F f s t < (n : Int) := chW_bd _ _ _ _
theorem gv_go {s : Pl} {t : Int} {k : Nat} (h : fiB F s k = false) : (gvP F f s t k).dn = s.dn ∧ (gvP F f s t k).sp = put s.sp k (s.sp k + 1) ∧ (gvP F f s t k).wo = s.wo := by
  refine ⟨?_, ?_, ?_⟩
  · show (if fiB F s k then _ else _) = _; rw [h]; rfl
  · show (if fiB F s k then _ else _) = _; rw [h]; rfl
  · show (if fiB F s k then _ else _) = _; rw [h]; rfl
theorem gv_fin {s : Pl} {t : Int} {k : Nat} (h : fiB F s k = true) : (gvP F f s t k).dn = put s.dn k (s.dn k + 1) ∧ (gvP F f s t k).sp = put s.sp k 0 ∧ (gvP F f s t k).wo = put s.wo k (max (s.wo k) (t + 1 - cmP F f s k)) := by
  refine ⟨?_, ?_, ?_⟩
  · show (if fiB F s k then _ else _) = _; rw [h]; rfl
  · show (if fiB F s k then _ else _) = _; rw [h]; rfl
  · show (if fiB F s k then _ else _) = _; rw [h]; rfl
theorem gv_off {s : Pl} {t : Int} {j k : Nat} (h : k ≠ j) : (gvP F f s t j).dn k = s.dn k ∧ (gvP F f s t j).sp k = s.sp k := by
  cases e : fiB F s j with
  | false => obtain ⟨a, b, _⟩ := gv_go (f := f) (t := t) e; rw [a, b]; exact ⟨rfl, put_ne h⟩
  | true => obtain ⟨a, b, _⟩ := gv_fin (f := f) (t := t) e; rw [a, b]; exact ⟨put_ne h, put_ne h⟩
theorem sch_rank (g : Gc n F) (hf : gfK f n = true) (U : Nat) : Sch n (fun k => F (k * 3 + 1)) (fun k => F (k * 3)) f (fun k t => (ruP false n F f t).dn k) (fun k t => (ruP false n F f t).sp k) (fun t => whP false n F f (ruP false n F f t) (t : Int)) U where
  n1 := g.n1
  np := g.n2
  f0 := fun k hk => (gfK_at hk hf).1
  d0 := fun _ _ => rfl
  s0 := fun _ _ => rfl
  go := fun k t hk _ hw hs => by
    have e : fiB F (ruP false n F f t) k = false := decide_eq_false (by omega)
    obtain ⟨a, b, _⟩ := gv_go (f := f) (t := (t : Int)) e
    rw [ru_yes hw, a, b]
    exact ⟨rfl, put_at _ _ _⟩
  fin := fun k t hk _ hw hs => by
    have e : fiB F (ruP false n F f t) k = true := decide_eq_true (by omega)
    obtain ⟨a, b, _⟩ := gv_fin (f := f) (t := (t : Int)) e
    rw [ru_yes hw, a, b]
    exact ⟨put_at _ _ _, put_at _ _ _⟩
  idle := fun k t hk _ hw => by
    have b := wh_bd (ur := false) (n := n) (F := F) (f := f) (ruP false n F f t) (t : Int)
    by_cases h0 : whP false n F f (ruP false n F f t) (t : Int) < 0
    · rw [ru_no h0]; exact ⟨rfl, rfl⟩
    · obtain ⟨j, hj⟩ : ∃ j : Nat, whP false n F f (ruP false n F f t) (t : Int) = (j : Int) := ⟨(whP false n F f (ruP false n F f t) (t : Int)).toNat, by omega⟩
      rw [ru_yes hj]
      exact gv_off (by omega)
  came := fun k t hk _ hw => by
    have c := chW_came (c := cmP F f (ruP false n F f t)) (u := ugP false F f (ruP false n F f t)) (t := (t : Int)) (k := n) (by unfold whP at hw; omega)
    unfold whP at hw
    rw [hw] at c
    exact c
  top := fun k t hk _ hc => chW_rank hk hc
/-- nobody has taken longer than the answer time -/
theorem wo_rank (g : Gc n F) (hf : gfK f n = true) {i : Nat} (hi : i < n) {R : Int} (h1 : F (i * 3 + 1) ≤ R) (h2 : R ≤ F (i * 3)) (h3 : asK F i R = R) : ∀ t, (ruP false n F f t).wo i ≤ R
  | 0 => by have := g.n1 i hi; show (0 : Int) ≤ R; omega
  | t + 1 => by
    have ih := wo_rank g hf hi h1 h2 h3 t
    have rs := (sch_rank g hf t).resp hi h1 h2 h3 t (Nat.le_refl _)
    have b := wh_bd (ur := false) (n := n) (F := F) (f := f) (ruP false n F f t) (t : Int)
    by_cases h0 : whP false n F f (ruP false n F f t) (t : Int) < 0
    · rw [ru_no h0]; exact ih
    · obtain ⟨j, hj⟩ : ∃ j : Nat, whP false n F f (ruP false n F f t) (t : Int) = (j : Int) := ⟨(whP false n F f (ruP false n F f t) (t : Int)).toNat, by omega⟩
      rw [ru_yes hj]
      cases e : fiB F (ruP false n F f t) j with
      | false => obtain ⟨_, _, a⟩ := gv_go (f := f) (t := (t : Int)) e; rw [a]; exact ih
      | true =>
        obtain ⟨_, _, a⟩ := gv_fin (f := f) (t := (t : Int)) e
        rw [a]
        by_cases ej : i = j
        · subst ej
          rw [put_at]
          unfold cmP
          omega
        · rw [put_ne ej]; exact ih
/-- what the slices up to t cover -/
structure Cov (ur : Bool) (n : Nat) (F f : Nat → Int) (m : Nat) (G : Nat → Int) (t : Nat) : Prop where
  fr : ∀ q, q < m → 0 ≤ G (q * 3)
  lt : ∀ q, q < m → G (q * 3) < G (q * 3 + 1)
  up : ∀ q, q < m → G (q * 3 + 1) ≤ (t : Int)
  nx : ∀ q, q + 1 < m → G (q * 3 + 1) ≤ G ((q + 1) * 3)
  wh : ∀ q, q < m → 0 ≤ G (q * 3 + 2) ∧ G (q * 3 + 2) < (n : Int)
  on : ∀ q, q < m → ∀ τ : Nat, G (q * 3) ≤ (τ : Int) → (τ : Int) < G (q * 3 + 1) → whP ur n F f (ruP ur n F f τ) (τ : Int) = G (q * 3 + 2)
  off : ∀ τ : Nat, τ < t → (∀ q, q < m → ¬ (G (q * 3) ≤ (τ : Int) ∧ (τ : Int) < G (q * 3 + 1))) → whP ur n F f (ruP ur n F f τ) (τ : Int) = -1
theorem cov_idle {m t : Nat} {G : Nat → Int} (h : Cov ur n F f m G t) (hw : whP ur n F f (ruP ur n F f t) (t : Int) = -1) : Cov ur n F f m G (t + 1) :=
  ⟨h.fr, h.lt, fun q hq => by have := h.up q hq; omega, h.nx, h.wh, h.on, fun τ hτ hn => by
    by_cases e : τ = t
    · rw [e]; exact hw
    · exact h.off τ (by omega) hn⟩
theorem cov_more {m t : Nat} {G : Nat → Int} {j : Int} (h : Cov ur n F f m G t) (hw : whP ur n F f (ruP ur n F f t) (t : Int) = j) (hj : 0 ≤ j ∧ j < (n : Int)) : Cov ur n F f (m + 1) (apF G (m * 3) (tri (t : Int) ((t : Int) + 1) j)) (t + 1) := by
  have o : ∀ q, q < m → apF G (m * 3) (tri (t : Int) ((t : Int) + 1) j) (q * 3) = G (q * 3) ∧ apF G (m * 3) (tri (t : Int) ((t : Int) + 1) j) (q * 3 + 1) = G (q * 3 + 1) ∧ apF G (m * 3) (tri (t : Int) ((t : Int) + 1) j) (q * 3 + 2) = G (q * 3 + 2) := fun q hq =>
    ⟨if_pos (by omega), if_pos (by omega), if_pos (by omega)⟩
  have e0 : apF G (m * 3) (tri (t : Int) ((t : Int) + 1) j) (m * 3) = (t : Int) := by unfold apF; rw [if_neg (by omega)]; simp [tri]
  have e1 : apF G (m * 3) (tri (t : Int) ((t : Int) + 1) j) (m * 3 + 1) = (t : Int) + 1 := by unfold apF; rw [if_neg (by omega)]; simp [tri]
  have e2 : apF G (m * 3) (tri (t : Int) ((t : Int) + 1) j) (m * 3 + 2) = j := by unfold apF; rw [if_neg (by omega)]; simp [tri]
  generalize apF G (m * 3) (tri (t : Int) ((t : Int) + 1) j) = H at *
  have cs : ∀ q, q < m + 1 → q < m ∨ q = m := fun q hq => by omega
  refine ⟨fun q hq => ?_, fun q hq => ?_, fun q hq => ?_, fun q hq => ?_, fun q hq => ?_, fun q hq τ h1 h2 => ?_, fun τ hτ hn => ?_⟩
  · rcases cs q hq with z | rfl
    · rw [(o q z).1]; exact h.fr q z
    · rw [e0]; omega
  · rcases cs q hq with z | rfl
    · rw [(o q z).1, (o q z).2.1]; exact h.lt q z
    · rw [e0, e1]; omega
  · rcases cs q hq with z | rfl
    · rw [(o q z).2.1]; have := h.up q z; omega
    · rw [e1]; omega
  · by_cases z : q + 1 < m
    · rw [(o q (by omega)).2.1, (o (q + 1) z).1]; exact h.nx q z
    · have : q + 1 = m := by omega
      rw [this, e0, (o q (by omega)).2.1]; exact h.up q (by omega)
  · rcases cs q hq with z | rfl
    · rw [(o q z).2.2]; exact h.wh q z
    · rw [e2]; exact hj
  · rcases cs q hq with z | rfl
    · rw [(o q z).1] at h1; rw [(o q z).2.1] at h2; rw [(o q z).2.2]; exact h.on q z τ h1 h2
    · rw [e0] at h1; rw [e1] at h2; rw [e2]
      have : τ = t := by omega
      rw [this]; exact hw
  · by_cases e : τ = t
    · have := hn m (by omega)
      rw [e0, e1] at this
      omega
    · refine h.off τ (by omega) fun q hq z => hn q (by omega) ?_
      rw [(o q hq).1, (o q hq).2.1]; exact z
theorem cov_long {m t : Nat} {G : Nat → Int} {j : Int} (h : Cov ur n F f (m + 1) G t) (hw : whP ur n F f (ruP ur n F f t) (t : Int) = j) (hl : G (m * 3 + 2) = j) (ht : G (m * 3 + 1) = (t : Int)) : Cov ur n F f (m + 1) (put G (m * 3 + 1) ((t : Int) + 1)) (t + 1) := by
  have o0 : ∀ q, put G (m * 3 + 1) ((t : Int) + 1) (q * 3) = G (q * 3) := fun q => put_ne (by omega)
  have o2 : ∀ q, put G (m * 3 + 1) ((t : Int) + 1) (q * 3 + 2) = G (q * 3 + 2) := fun q => put_ne (by omega)
  have o1 : ∀ q, q ≠ m → put G (m * 3 + 1) ((t : Int) + 1) (q * 3 + 1) = G (q * 3 + 1) := fun q hq => put_ne (by omega)
  have e1 : put G (m * 3 + 1) ((t : Int) + 1) (m * 3 + 1) = (t : Int) + 1 := put_at _ _ _
  generalize put G (m * 3 + 1) ((t : Int) + 1) = H at *
  have sm : ∀ q, q < m + 1 → G (q * 3 + 1) ≤ H (q * 3 + 1) := fun q hq => by
    by_cases e : q = m
    · rw [e, e1, ht]; omega
    · rw [o1 q e]; exact Int.le_refl _
  refine ⟨fun q hq => ?_, fun q hq => ?_, fun q hq => ?_, fun q hq => ?_, fun q hq => ?_, fun q hq τ h1 h2 => ?_, fun τ hτ hn => ?_⟩
  · rw [o0]; exact h.fr q hq
  · rw [o0]; have := h.lt q hq; have := sm q hq; omega
  · by_cases e : q = m
    · rw [e, e1]; omega
    · rw [o1 q e]; have := h.up q hq; omega
  · rw [o0, o1 q (by omega)]; exact h.nx q hq
  · rw [o2]; exact h.wh q hq
  · rw [o0] at h1
    rw [o2]
    by_cases e : q = m
    · subst e
      rw [e1] at h2
      by_cases e3 : τ = t
      · rw [e3, hw, hl]
      · exact h.on q hq τ h1 (by rw [ht]; omega)
    · rw [o1 q e] at h2
      exact h.on q hq τ h1 h2
  · by_cases e : τ = t
    · have a := hn m (by omega)
      have b := h.lt m (by omega)
      rw [o0, e1] at a
      omega
    · refine h.off τ (by omega) fun q hq z => hn q hq ?_
      have := sm q hq
      rw [o0]
      omega
theorem cov_run : ∀ t, Cov ur n F f (ruP ur n F f t).m (ruP ur n F f t).G t
  | 0 => ⟨fun q hq => absurd hq (Nat.not_lt_zero _), fun q hq => absurd hq (Nat.not_lt_zero _), fun q hq => absurd hq (Nat.not_lt_zero _), fun q hq => absurd hq (Nat.not_lt_zero _), fun q hq => absurd hq (Nat.not_lt_zero _), fun q hq => absurd hq (Nat.not_lt_zero _), fun τ hτ => absurd hτ (Nat.not_lt_zero _)⟩
  | t + 1 => by
    have ih := cov_run t
    have b := wh_bd (ur := ur) (n := n) (F := F) (f := f) (ruP ur n F f t) (t : Int)
    by_cases h0 : whP ur n F f (ruP ur n F f t) (t : Int) < 0
    · rw [ru_no h0]; exact cov_idle ih (by omega)
    · obtain ⟨j, hj⟩ : ∃ j : Nat, whP ur n F f (ruP ur n F f t) (t : Int) = (j : Int) := ⟨(whP ur n F f (ruP ur n F f t) (t : Int)).toNat, by omega⟩
      rw [ru_yes hj]
      show Cov ur n F f (slM _ _ _ _) (slG _ _ _ _) (t + 1)
      unfold slM slG
      cases e : sxB (ruP ur n F f t).m (ruP ur n F f t).G (t : Int) (j : Int) with
      | false => exact cov_more ih hj (by omega)
      | true =>
        obtain ⟨z1, z2, z3⟩ := sx_inv e
        simp only [if_true]
        generalize (ruP ur n F f t).m = M at *
        obtain ⟨m, rfl⟩ : ∃ m, M = m + 1 := ⟨M - 1, by omega⟩
        rw [Nat.add_sub_cancel] at z2 z3 ⊢
        exact cov_long ih hj z2 z3
/-- ticks that each chore has had -/
def gtF (F : Nat → Int) (s : Pl) (k : Nat) : Int := s.dn k * F (k * 3 + 1) + s.sp k
theorem gt_quo {s : Pl} {k t : Nat} (g : Gc n F) (p : Pk n F f s t) (hk : k < n) : gtF F s k / F (k * 3 + 1) = s.dn k := by
  have a := g.n1 k hk
  have b := p.s0 k hk
  have c := p.s1 k hk
  unfold gtF
  rw [Int.add_comm, Int.add_mul_ediv_right _ _ (by omega), Int.ediv_eq_zero_of_lt b c]
  omega
theorem gt_bd {s : Pl} {k t : Nat} (g : Gc n F) (p : Pk n F f s t) (hk : k < n) (ht : t ≤ 2000) : 0 ≤ gtF F s k ∧ gtF F s k ≤ 130000 := by
  have a := g.n1 k hk
  have a2 := g.n2 k hk
  have a3 := g.p2 k hk
  have b := p.s0 k hk
  have c := p.s1 k hk
  have d := p.d0 k hk
  have e := p.d1 k hk
  have q := Int.mul_nonneg d (show 0 ≤ F (k * 3 + 1) by omega)
  have q2 : s.dn k * F (k * 3 + 1) ≤ s.dn k * 60 := Int.mul_le_mul_of_nonneg_left (by omega) d
  unfold gtF
  omega
theorem gt_give {s : Pl} {t : Int} {k : Nat} {tt : Nat} (p : Pk n F f s tt) (hk : k < n) (i : Nat) : gtF F (gvP F f s t k) i = put (gtF F s) k (gtF F s k + 1) i := by
  have c := p.s1 k hk
  by_cases e : i = k
  · subst e
    rw [put_at]
    unfold gtF
    cases e : fiB F s i with
    | false => obtain ⟨a, b, _⟩ := gv_go (f := f) (t := t) e; rw [a, b, put_at]; omega
    | true =>
      obtain ⟨a, b, _⟩ := gv_fin (f := f) (t := t) e
      have := of_decide_eq_true e
      rw [a, b, put_at, put_at, Int.add_mul, Int.one_mul]; omega
  · rw [put_ne e]
    unfold gtF
    obtain ⟨a, b⟩ := gv_off (F := F) (f := f) (s := s) (t := t) e
    rw [a, b]
/-- where slice q may begin: the end of the one ahead -/
def En (G : Nat → Int) (q : Nat) (τ : Nat) : Prop := (q = 0 ∧ τ = 0) ∨ ∃ p, q = p + 1 ∧ (τ : Int) = G (p * 3 + 1)
theorem Cov.far {m t : Nat} {G : Nat → Int} (h : Cov ur n F f m G t) {p : Nat} : ∀ d, p + d + 1 < m → G (p * 3 + 1) ≤ G ((p + d + 1) * 3)
  | 0, hd => h.nx p (by omega)
  | d + 1, hd => by
    have a := h.far (p := p) d (by omega)
    have b := h.lt (p + d + 1) (by omega)
    have c := h.nx (p + d + 1) (by omega)
    rw [show p + (d + 1) + 1 = p + d + 1 + 1 by omega]
    omega
theorem Cov.ahead {m t : Nat} {G : Nat → Int} (h : Cov ur n F f m G t) {p q : Nat} (hp : p < q) (hq : q < m) : G (p * 3 + 1) ≤ G (q * 3) := by
  have := h.far (p := p) (q - p - 1) (by omega)
  rwa [show p + (q - p - 1) + 1 = q by omega] at this
theorem Cov.ends {m t : Nat} {G : Nat → Int} (h : Cov ur n F f m G t) {p q τ : Nat} (hp : p < q) (hq : q ≤ m) (e : En G q τ) : G (p * 3 + 1) ≤ (τ : Int) := by
  rcases e with ⟨e, _⟩ | ⟨r, e, hr⟩
  · omega
  · subst e
    by_cases z : p = r
    · rw [z, hr]; exact Int.le_refl _
    · have a := h.ahead (p := p) (q := r) (by omega) (by omega)
      have b := h.lt r (by omega)
      omega
theorem Cov.from_le {m t : Nat} {G : Nat → Int} (h : Cov ur n F f m G t) {q τ : Nat} (hq : q < m) (e : En G q τ) : (τ : Int) ≤ G (q * 3) := by
  rcases e with ⟨e, e2⟩ | ⟨r, e, hr⟩
  · have := h.fr q hq; omega
  · subst e
    rw [hr]
    exact h.nx r hq
theorem Cov.gap {m t : Nat} {G : Nat → Int} (h : Cov ur n F f m G t) {q τ τ' : Nat} (hq : q ≤ m) (e : En G q τ) (h1 : τ ≤ τ') (h2 : τ' < t) (h3 : q < m → (τ' : Int) < G (q * 3)) : whP ur n F f (ruP ur n F f τ') (τ' : Int) = -1 := by
  refine h.off τ' h2 fun r hr => ?_
  by_cases z : r < q
  · have := h.ends z hq e; omega
  · have a := h3 (by omega)
    by_cases z2 : r = q
    · subst z2; omega
    · have b := h.ahead (p := q) (q := r) (by omega) hr
      have c := h.lt q (by omega)
      omega
theorem wh_none {s : Pl} {t : Int} (h : whP ur n F f s t = -1) : ∀ k, k < n → t < cmP F f s k := fun k hk => chW_none h k hk
theorem wh_came {s : Pl} {t : Int} {j : Nat} (h : whP ur n F f s t = (j : Int)) : cmP F f s j ≤ t := by
  have c := chW_came (c := cmP F f s) (u := ugP ur F f s) (t := t) (k := n) (by unfold whP at h; omega)
  unfold whP at h
  rw [h] at c
  exact c
end
end Go.Proofs.Ytnadedncjbibhaa
