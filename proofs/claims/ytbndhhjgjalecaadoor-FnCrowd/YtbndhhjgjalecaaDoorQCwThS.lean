/- Two at once: places of both as one number; how they may go on. -/
import Derived.Test.YtbndhhjgjalecaaDoorQCwBs
import Derived.Test.YtbndhhjgjalecaaDoorQCwPnM
import Derived.Test.YtbndhhjgjalecaaDoorQCwGpM
import Derived.Test.YtbndhhjgjalecaaDoorQClVal
import Derived.BigQuiet
namespace Go.Proofs.YtbndhhjgjalecaaDoor
open Go.RowKit

/-- both go on, and don't meet -/
def JNb (W : Int) (n : Nat) (f : Nat → Int) (p q : Nat) : Prop :=
  ∃ a b, q = a * n + b ∧ a < n ∧ b < n ∧ Stp W n f (p / n) a ∧ Stp W n f (p % n) b ∧ a ≠ b ∧ ¬ (a = p % n ∧ b = p / n)
theorem pair_lt {n a b : Nat} (ha : a < n) (hb : b < n) : a * n + b < n * n := by
  have : (a + 1) * n ≤ n * n := Nat.mul_le_mul_right n ha
  rw [Nat.add_mul] at this
  omega
theorem pair_div {n a b : Nat} (hb : b < n) : (a * n + b) / n = a ∧ (a * n + b) % n = b := by
  have hn : 0 < n := by omega
  constructor
  · rw [Nat.add_comm, Nat.add_mul_div_right _ _ hn, Nat.div_eq_of_lt hb, Nat.zero_add]
  · rw [Nat.add_comm, Nat.add_mul_mod_self_right, Nat.mod_eq_of_lt hb]
theorem JNb.lt {W : Int} {n : Nat} {f : Nat → Int} {p q : Nat} (h : JNb W n f p q) : q < n * n := by
  obtain ⟨a, b, rfl, ha, hb, _⟩ := h
  exact pair_lt ha hb
theorem jnb_pair {W : Int} {n : Nat} {f : Nat → Int} {p a b : Nat} (ha : a < n) (hb : b < n) : JNb W n f p (a * n + b) ↔ Stp W n f (p / n) a ∧ Stp W n f (p % n) b ∧ a ≠ b ∧ ¬ (a = p % n ∧ b = p / n) := by
  constructor
  · rintro ⟨a', b', e, ha', hb', h⟩
    have e1 := (pair_div (a := a) hb).1
    have e2 := (pair_div (a := a) hb).2
    rw [e] at e1 e2
    rw [(pair_div hb').1] at e1
    rw [(pair_div hb').2] at e2
    subst e1; subst e2; exact h
  · intro h
    exact ⟨a, b, rfl, ha, hb, h⟩
/-- two trips, as a list of two -/
def tg4 (s t u v : Int) (i : Nat) : Int := if i = 0 then s else if i = 1 then t else if i = 2 then u else v
/-- what JointTicks tells -/
def JntIs (W : Int) (n : Nat) (f : Nat → Int) (s t u v d : Int) : Prop :=
  (¬ (gtB W n f 2 (tg4 s t u v) = true ∧ n ≤ 36) ∧ d = -1) ∨ ((gtB W n f 2 (tg4 s t u v) = true ∧ n ≤ 36) ∧ DistIs (JNb W n f) (s.toNat * n + u.toNat) (t.toNat * n + v.toNat) d)
theorem JntIs.uniq {W : Int} {n : Nat} {f : Nat → Int} {s t u v d d' : Int} (h : JntIs W n f s t u v d) (h' : JntIs W n f s t u v d') : d = d' := by
  rcases h with ⟨h1, h2⟩ | ⟨h1, h2⟩ <;> rcases h' with ⟨g1, g2⟩ | ⟨g1, g2⟩
  · rw [h2, g2]
  · exact absurd g1 h1
  · exact absurd h1 g1
  · exact h2.uniq g2
/-- no neighbour -/
theorem Bf.no {N : Nat} {Nb : Nat → Nat → Prop} {s : Nat} {F T : Nat → Int} {L i : Nat} {M : Nat → Prop} (h : Bf N Nb s F T L i M) {u : Nat} (hu : ¬ Nb (T i).toNat u) : Bf N Nb s F T L i (fun x => M x ∨ x = u) :=
  ⟨h.hs, h.neg, h.inT, h.ofT, h.cnt, h.way, h.atS, h.mono, h.near, h.done, h.bnd, fun hi x hx hb => by
    rcases hx with hx | rfl
    · exact h.look hi x hx hb
    · exact absurd hb hu⟩
/-- the pairs that were looked at: the first j of one list with all of the other, number j with the first k -/
def SnP (G H : List Int) (n j k q : Nat) : Prop := ∃ p r a b, gl G p = ((a : Nat) : Int) ∧ gl H r = ((b : Nat) : Int) ∧ q = a * n + b ∧ ((p < j ∧ r < H.length) ∨ (p = j ∧ r < k))
theorem snP_next {G H : List Int} {n j k a b q : Nat} (ha : gl G j = ((a : Nat) : Int)) (hb : gl H k = ((b : Nat) : Int)) (h : SnP G H n j (k + 1) q) : SnP G H n j k q ∨ q = a * n + b := by
  obtain ⟨p, r, a', b', h1, h2, h3, h4⟩ := h
  rcases h4 with h4 | ⟨h4, h5⟩
  · exact .inl ⟨p, r, a', b', h1, h2, h3, .inl h4⟩
  · by_cases e : r = k
    · subst e; subst h4
      right
      rw [ha] at h1; rw [hb] at h2
      have e1 : a' = a := by omega
      have e2 : b' = b := by omega
      rw [h3, e1, e2]
    · exact .inl ⟨p, r, a', b', h1, h2, h3, .inr ⟨h4, by omega⟩⟩
theorem snP_row {G H : List Int} {n j q : Nat} (h : SnP G H n (j + 1) 0 q) : SnP G H n j H.length q := by
  obtain ⟨p, r, a, b, h1, h2, h3, h4⟩ := h
  rcases h4 with ⟨h4, h5⟩ | ⟨h4, h5⟩
  · by_cases e : p = j
    · exact ⟨p, r, a, b, h1, h2, h3, .inr ⟨e, h5⟩⟩
    · exact ⟨p, r, a, b, h1, h2, h3, .inl ⟨by omega, h5⟩⟩
  · omega
theorem snP_zero {G H : List Int} {n q : Nat} (h : SnP G H n 0 0 q) : False := by
  obtain ⟨p, r, a, b, h1, h2, h3, h4⟩ := h
  omega
theorem snP_all {W : Int} {n : Nat} {f : Nat → Int} {p q : Nat} (h : JNb W n f p q) : SnP (nbL W n f (p / n)) (nbL W n f (p % n)) n (nbL W n f (p / n)).length 0 q := by
  obtain ⟨a, b, e, _, _, h1, h2, _⟩ := h
  obtain ⟨j, hj, ej⟩ := nbL_all h1
  obtain ⟨k, hk, ek⟩ := nbL_all h2
  exact ⟨j, k, a, b, ej, ek, e, .inl ⟨hj, hk⟩⟩
end Go.Proofs.YtbndhhjgjalecaaDoor

/- What FnCrowd says of planned paths: they are good, nobody is there sooner than alone, two need both. Numbers alone. -/
namespace Go.Proofs.YtbndhhjgjalecaaDoor

section
variable {W : Int} {n : Nat} {f g : Nat → Int} {R : Nat → Nat → Int} {T m : Nat}
/-- the later path does not meet the earlier one -/
theorem Bests.meet (h : Bests W n f g R T m) {i j k : Nat} (hi : i < m) (hj : j < i) (hk : k ≤ T) : ¬ Meet R k i j := fun hm => by
  have hh := hit_meet.2 hm
  have v := (h i hi).1
  cases k with
  | zero =>
    have h0 := nhB_iff.1 v.beg0 j hj
    have e : prv (R i) 0 = R i 0 := if_neg (by omega)
    rw [e, v.beg] at hh
    rw [hh] at h0; cases h0
  | succ k =>
    have h0 := nhB_iff.1 (v.free k (by omega)) j hj
    have e : prv (R i) (k + 1) = R i k := by unfold prv; rw [if_pos (by omega)]; rfl
    rw [e] at hh
    rw [hh] at h0; cases h0
theorem Bests.good (h : Bests W n f g R T m) (hg : gtB W n f m g = true) : GpP W n f m g m (fun _ => T + 1) R := by
  refine ⟨hg, rfl, fun i hi => ?_, ?_⟩
  · have v := (h i hi).1
    exact ⟨by omega, rfl, v.beg, v.fin, fun k h1 h2 => by
      have := v.step (k - 1) (by omega)
      rw [show k - 1 + 1 = k by omega] at this
      exact this⟩
  · unfold fmV
    split
    · have : fmI R m (T + 1) = -1 := fmI_neg (fmI_none.2 fun q hq => by
        cases e : colM R q m with
        | false => rfl
        | true =>
          obtain ⟨p, j, h1, h2, h3⟩ := colM_iff.1 e
          exact absurd h3 (h.meet h2 h1 (by omega)))
      rw [this]; omega
    · omega
/-- where one stays from a tick on -/
def Lst (P : Nat → Int) (T a : Nat) : Prop := a ≤ T ∧ ∀ k, a ≤ k → k ≤ T → P k = P T
theorem Vp.rc {J : Nat} {t : Int} {S : Nat} {P : Nat → Int} (v : Vp W n f R J (S : Int) t T P) : ∀ k, k ≤ T → ∃ p : Nat, P k = (p : Int) ∧ Rc (Stp W n f) S k p := by
  intro k
  induction k with
  | zero => intro _; exact ⟨S, v.beg, .start⟩
  | succ k ih =>
    intro hk
    obtain ⟨p, h1, h2⟩ := ih (by omega)
    have := v.step k (by omega)
    rw [h1, Int.toNat_natCast] at this
    obtain ⟨u, hu, hs⟩ := mem_nbL.1 this
    exact ⟨u, hu, .step h2 hs⟩
theorem gt_one (hg : gtB W n f m g = true) {i : Nat} (hi : i < m) : gtB W n f 1 (tg (g (i * 2)) (g (i * 2 + 1))) = true := by
  obtain ⟨h1, h2, h3⟩ := gtB_t hg
  obtain ⟨f1, f2, -⟩ := trB_at h3 i hi
  simp [gtB, h1, trB, apB, tg, f1, f2]
theorem alone_le (h : Bests W n f g R T m) (hg : gtB W n f m g = true) {i a : Nat} (hi : i < m) (hl : Lst (R i) T a) {d : Int} (hd : AlnIs W n f (g (i * 2)) (g (i * 2 + 1)) d) : 0 ≤ d ∧ d ≤ (a : Int) := by
  rcases hd with ⟨h1, -⟩ | ⟨-, hd⟩
  · rw [gt_one hg hi] at h1; cases h1
  · obtain ⟨f1, f2, -⟩ := trB_at (gtB_t hg).2.2 i hi
    have v := (h i hi).1
    have e1 : g (i * 2) = ((g (i * 2)).toNat : Int) := by have := (frB_t f1).1; omega
    rw [e1] at v
    obtain ⟨p, hp, hr⟩ := v.rc a hl.1
    have e2 : p = (g (i * 2 + 1)).toNat := by
      have := hl.2 a (Nat.le_refl _) hl.1
      rw [hp, v.fin] at this
      omega
    rw [e2] at hr
    rcases hd with ⟨-, hd⟩ | ⟨k, rfl, h2, h3⟩
    · exact absurd hr (hd a)
    · have := h3 a hr
      omega
theorem gt_two (hg : gtB W n f 2 g = true) : gtB W n f 2 (tg4 (g 0) (g 1) (g 2) (g 3)) = true := by
  obtain ⟨h1, h2, h3⟩ := gtB_t hg
  have : trB n f (tg4 (g 0) (g 1) (g 2) (g 3)) 2 = trB n f g 2 := by simp [trB, apB, tg4]
  simp [gtB, h1, this, h3]
theorem joint_le (h : Bests W n f g R T 2) (hg : gtB W n f 2 g = true) (hn : n ≤ 36) {a b : Nat} (ha : Lst (R 0) T a) (hb : Lst (R 1) T b) {d : Int} (hd : JntIs W n f (g 0) (g 1) (g 2) (g 3) d) : 0 ≤ d ∧ (d ≤ (a : Int) ∨ d ≤ (b : Int)) := by
  rcases hd with ⟨h1, -⟩ | ⟨-, hd⟩
  · exact absurd ⟨gt_two hg, hn⟩ h1
  · have hs := (celB_parts (gtB_t hg).1).1
    obtain ⟨f1, f2, -⟩ := trB_at (gtB_t hg).2.2 0 (by omega)
    obtain ⟨f3, f4, -⟩ := trB_at (gtB_t hg).2.2 1 (by omega)
    simp only [Nat.zero_mul, Nat.zero_add, Nat.one_mul, Nat.reduceAdd] at f1 f2 f3 f4
    have v0 := (h 0 (by omega)).1
    have v1 := (h 1 (by omega)).1
    simp only [Nat.zero_mul, Nat.zero_add, Nat.one_mul, Nat.reduceAdd] at v0 v1
    have t1 := frB_t f1
    have t3 := frB_t f3
    have key : ∀ k, k ≤ T → ∃ p q : Nat, p < n ∧ q < n ∧ R 0 k = (p : Int) ∧ R 1 k = (q : Int) ∧ Rc (JNb W n f) ((g 0).toNat * n + (g 2).toNat) k (p * n + q) := by
      intro k
      induction k with
      | zero => intro _; exact ⟨(g 0).toNat, (g 2).toNat, by omega, by omega, by rw [v0.beg]; omega, by rw [v1.beg]; omega, .start⟩
      | succ k ih =>
        intro hk
        obtain ⟨p, q, hp, hq, e1, e2, hr⟩ := ih (by omega)
        have s0 := v0.step k (by omega)
        have s1 := v1.step k (by omega)
        rw [e1, Int.toNat_natCast] at s0
        rw [e2, Int.toNat_natCast] at s1
        obtain ⟨p', hp', hs0⟩ := mem_nbL.1 s0
        obtain ⟨q', hq', hs1⟩ := mem_nbL.1 s1
        have hpn := hs0.lt hs hp
        have hqn := hs1.lt hs hq
        refine ⟨p', q', hpn, hqn, hp', hq', .step hr ((jnb_pair hpn hqn).2 ?_)⟩
        rw [(pair_div hq).1, (pair_div hq).2]
        have hf := nhB_iff.1 (v1.free k (by omega)) 0 (by omega)
        unfold hitB at hf
        simp only [Nat.add_sub_cancel, Bool.or_eq_false_iff, Bool.and_eq_false_iff, beq_eq_false_iff_ne, hp', hq', e1, e2] at hf
        refine ⟨hs0, hs1, fun e => hf.1 (by rw [e]), fun e => ?_⟩
        rcases hf.2 with hx | hx
        · rcases hx with hx | hx
          · simp at hx
          · exact hx (by rw [e.2])
        · exact hx (by rw [e.1])
    have fin : ∀ c, c ≤ T → a ≤ c → b ≤ c → Rc (JNb W n f) ((g 0).toNat * n + (g 2).toNat) c ((g 1).toNat * n + (g 3).toNat) := fun c hc h1 h2 => by
      obtain ⟨p, q, _, _, e1, e2, hr⟩ := key c hc
      have x1 := ha.2 c h1 hc
      have x2 := hb.2 c h2 hc
      rw [e1, v0.fin] at x1
      rw [e2, v1.fin] at x2
      have y1 : p = (g 1).toNat := by omega
      have y2 : q = (g 3).toNat := by omega
      rw [y1, y2] at hr
      exact hr
    rcases hd with ⟨-, hd⟩ | ⟨k, rfl, h2, h3⟩
    · exact absurd (fin T (Nat.le_refl _) ha.1 hb.1) (hd T)
    · rcases Nat.le_total a b with hab | hab
      · have := h3 b (fin b hb.1 hab (Nat.le_refl _)); omega
      · have := h3 a (fin a ha.1 (Nat.le_refl _) hab); omega
end
end Go.Proofs.YtbndhhjgjalecaaDoor

/- From when on a path stays, as the model tells it. -/
namespace Go.Proofs.YtbndhhjgjalecaaDoor
open Go.RowKit

set_option maxRecDepth 20000 in
set_option maxHeartbeats 2000000 in
theorem sThere (q : Option Addr) (T c : Nat) (P : Nat → Int) (w : World) (hT : T ≤ 1000) (h : IL w q (T + 1) P) :
    Calls Tryd.prog 13 #[.slice q (T + 1) c] w fun e w' => ∃ a : Nat, e = .returned (.int .i64 (a : Int)) ∧ Lst P T a ∧ Below w.heap.size w w' := by
  obtain ⟨g, off, rfl, hb, hc⟩ := h (by omega)
  have HC : Hid (∀ i, i < T + 1 → w.cell? ⟨g, off + i, none⟩ = some (.int .i64 (P i))) := hc
  clear hc h
  go_enter Tryd.func13, Tryd.ntmps13
  go_wp2_with fail
  go_loopw [3] (fun i wr => ∃ m : Nat, i = .int .i64 (m : Int) ∧ m ≤ T ∧ Hid (Lst P T m) ∧ Below w.heap.size w wr) (fun i _ => (intOf i).toNat)
  case atStart => exact ⟨T, by go_num, Nat.le_refl _, ⟨Nat.le_refl _, fun k h1 h2 => by rw [show k = T by omega]⟩, Below.refl _ _⟩
  case round =>
    obtain ⟨m, rfl, hm, HL, hB⟩ := hrel
    by_cases h0 : m = 0
    case pos =>
      subst h0
      have hd : decide ((0 : Int) < ((0 : Nat) : Int)) = false := by decide
      go_wp2_with fail
      go_quiet (fail)
      go_wp2
      go_ret
      exact ⟨0, rfl, HL.out, below_dr hB _⟩
    case neg =>
      obtain ⟨M, rfl⟩ : ∃ M, m = M + 1 := ⟨m - 1, by omega⟩
      have hd : decide ((0 : Int) < (M : Int) + 1) = true := decide_eq_true (by omega)
      have x0 := (hB.cell (p := ⟨g, off + M, none⟩) hb).trans (HC.out M (by omega))
      have x1 := (hB.cell (p := ⟨g, off + (M + 1), none⟩) hb).trans (HC.out (M + 1) (by omega))
      have j0 : (0 : Int) ≤ (M : Int) := by omega
      have j1 : (M : Int) < (T : Int) + 1 := by omega
      have j2 : (M : Int) + 1 < (T : Int) + 1 := by omega
      have j3 : (0 : Int) ≤ (M : Int) + 1 := by omega
      have j4 : IntKind.i64.wrap (M : Int) = (M : Int) := IntWalk.i64_in _ (by omega)
      rw [show ((M + 1 : Nat) : Int) = (M : Int) + 1 by omega]
      have HN : Hid (P M = P (M + 1) → Lst P T M) := fun he => ⟨by omega, fun k h1 h2 => by
        by_cases e : k = M
        · rw [e, he]; exact HL.out.2 (M + 1) (Nat.le_refl _) hm
        · exact HL.out.2 k (by omega) h2⟩
      generalize P M = X at x0 HN
      generalize P (M + 1) = Y at x1 HN
      cases r : (X == Y) with
      | true =>
        have HN2 : Hid (Lst P T M) := HN.out (by simpa using r)
        clear HN HL
        go_wp2_with fail
        go_quiet (fail)
        go_wp2_with fail
        go_roundw
        case rel => exact ⟨M, by go_num, by omega, HN2, below_dr hB _⟩
        case measure => simp [intOf]
      | false =>
        clear HN
        go_wp2_with fail
        go_quiet (fail)
        go_wp2
        go_ret
        exact ⟨M + 1, rfl, HL.out, below_dr hB _⟩
end Go.Proofs.YtbndhhjgjalecaaDoor
