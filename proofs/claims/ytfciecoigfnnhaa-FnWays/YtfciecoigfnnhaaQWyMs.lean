/- The search between its steps. -/
import Derived.Test.YtfciecoigfnnhaaQWyCutT
import Derived.Test.YtfciecoigfnnhaaQWySet
namespace Go.Proofs.Ytfciecoigfnnhaa
open Go.RowKit

/-- whatever a way leads from is free -/
theorem wy_free {W : Int} {n : Nat} {f : Nat → Int} {tt i : Nat} {a b : Int} (h : Wy (stN W n f) tt i a b) (ht : frB n f (tt : Int) = true) : frB n f (i : Int) = true := by
  have key : ∀ i k : Nat, stN W n f i k ≠ 0 → frB n f (i : Int) = true := fun i k hs => by
    unfold stN stepV at hs
    split at hs
    · next e => simp only [Bool.and_eq_true] at e; exact e.1
    · exact absurd rfl hs
  cases h with
  | nil => exact ht
  | str hs _ => exact key _ _ (by rw [hs]; decide)
  | sla hs _ => exact key _ _ (by rw [hs]; decide)
/-- what is known of the search in any case -/
def Co (w : World) (base Sb Tb Mb : Nat) (W H : Int) (q : Option Addr) (n c tt : Nat) (st : Nat → Nat → Int) (f : Nat → Int) (m : Nat) (E : Nat → Og) (A B : Nat → Int) (D : Nat → Bool) (TA TB : Nat → Int) (L : Int → Bool) : Prop :=
  Sr w base Sb Tb Mb W H q n c m E TA TB L ∧ HpOk m E ∧ m ≤ 1 + 9 * cntD D n ∧ Dj st n tt A B D ∧ (∀ i, D i = true → TA i = A i ∧ TB i = B i) ∧ (∀ i : Nat, i < n → L (i : Int) = (frB n f (i : Int) && !D i))
/-- ahead of a take -/
def Ms (w : World) (base Sb Tb Mb : Nat) (W H : Int) (q : Option Addr) (n c tt : Nat) (st : Nat → Nat → Int) (f : Nat → Int) (g : Nat) : Prop :=
  ∃ (m : Nat) (E : Nat → Og) (A B : Nat → Int) (D : Nat → Bool) (TA TB : Nat → Int) (L : Int → Bool), Co w base Sb Tb Mb W H q n c tt st f m E A B D TA TB L ∧ Op n A B D m E ∧ 10 * (n - cntD D n) + m ≤ g
/-- behind a take -/
def Ns (w : World) (base Sb Tb Mb : Nat) (W H : Int) (q : Option Addr) (n c tt : Nat) (st : Nat → Nat → Int) (f : Nat → Int) (g : Nat) (b : Bool) (y : Og) : Prop :=
  ∃ (m : Nat) (E : Nat → Og) (A B : Nat → Int) (D : Nat → Bool) (TA TB : Nat → Int) (L : Int → Bool), Co w base Sb Tb Mb W H q n c tt st f m E A B D TA TB L ∧ ((b = true ∧ ∃ (m0 : Nat) (E0 : Nat → Og), Op n A B D m0 E0 ∧ MemO m0 E0 y ∧ (∀ z, MemO m0 E0 z → ko y ≤ ko z) ∧ BdO y ∧ (∀ z, MemO m E z → MemO m0 E0 z) ∧ (∀ z, MemO m0 E0 z → z = y ∨ MemO m E z) ∧ 10 * (n - cntD D n) + m + 1 ≤ g) ∨ (b = false ∧ m = 0 ∧ Op n A B D 0 E))
abbrev srA (W H : Int) (q : Option Addr) (n c Tb Mb : Nat) (pv : Option Addr) (cv : Nat) : Value := .agg #[.int .i64 W, .int .i64 H, .slice q n c, .slice (some ⟨Tb, 0, none⟩) n n, .map (some Mb), .slice pv 0 cv]
/-- the answer of the search -/
def AnsSch (w w' : World) (W H : Int) (q : Option Addr) (n c tt : Nat) (st : Nat → Nat → Int) (f : Nat → Int) (e : Ending) : Prop :=
  ∃ (Tb Mb : Nat) (pv : Option Addr) (cv : Nat) (A B : Nat → Int) (D : Nat → Bool) (TA TB : Nat → Int) (L : Int → Bool), e = .returned (srA W H q n c Tb Mb pv cv) ∧ Dst st n tt A B ∧ (∀ i, i < n → (D i = true ↔ 0 ≤ A i)) ∧ (∀ i, D i = true → TA i = A i ∧ TB i = B i) ∧ (∀ i : Nat, i < n → L (i : Int) = (frB n f (i : Int) && !D i)) ∧ IP w' Tb (n * 2) (f2 TA TB) ∧ LM w' Mb n L ∧ w.heap.size ≤ Tb ∧ w.heap.size ≤ Mb ∧ Below w.heap.size w w'
theorem Ms.on {w w' : World} {base Sb Tb Mb : Nat} {W H : Int} {q : Option Addr} {n c tt : Nat} {st : Nat → Nat → Int} {f : Nat → Int} {g : Nat} (h : Ms w base Sb Tb Mb W H q n c tt st f g) (k : Below w.heap.size w w') : Ms w' base Sb Tb Mb W H q n c tt st f g := by
  obtain ⟨m, E, A, B, D, TA, TB, L, ⟨S, r⟩, r2⟩ := h
  exact ⟨m, E, A, B, D, TA, TB, L, ⟨S.on k, r⟩, r2⟩
theorem Ns.on {w w' : World} {base Sb Tb Mb : Nat} {W H : Int} {q : Option Addr} {n c tt : Nat} {st : Nat → Nat → Int} {f : Nat → Int} {g : Nat} {b : Bool} {y : Og} (h : Ns w base Sb Tb Mb W H q n c tt st f g b y) (k : Below w.heap.size w w') : Ns w' base Sb Tb Mb W H q n c tt st f g b y := by
  obtain ⟨m, E, A, B, D, TA, TB, L, ⟨S, r⟩, r2⟩ := h
  exact ⟨m, E, A, B, D, TA, TB, L, ⟨S.on k, r⟩, r2⟩
theorem Ms.sb {w : World} {base Sb Tb Mb : Nat} {W H : Int} {q : Option Addr} {n c tt : Nat} {st : Nat → Nat → Int} {f : Nat → Int} {g : Nat} (h : Ms w base Sb Tb Mb W H q n c tt st f g) : Sb < base ∧ Tb < base ∧ Mb < base ∧ base ≤ w.heap.size ∧ (∀ b, some b = hO w Sb → b < w.heap.size) := by
  obtain ⟨m, E, A, B, D, TA, TB, L, ⟨S, r⟩, r2⟩ := h
  exact ⟨S.hs.sb, S.t1, S.m1, S.hs.le, fun b hb => (S.hs.own hb).2⟩
theorem Ns.sb {w : World} {base Sb Tb Mb : Nat} {W H : Int} {q : Option Addr} {n c tt : Nat} {st : Nat → Nat → Int} {f : Nat → Int} {g : Nat} {b : Bool} {y : Og} (h : Ns w base Sb Tb Mb W H q n c tt st f g b y) : Sb < base ∧ Tb < base ∧ Mb < base ∧ base ≤ w.heap.size ∧ (∀ b, some b = hO w Sb → b < w.heap.size) := by
  obtain ⟨m, E, A, B, D, TA, TB, L, ⟨S, r⟩, r2⟩ := h
  exact ⟨S.hs.sb, S.t1, S.m1, S.hs.le, fun b hb => (S.hs.own hb).2⟩
theorem Ms.below {w w' : World} {base Sb Tb Mb : Nat} {W H : Int} {q : Option Addr} {n c tt : Nat} {st : Nat → Nat → Int} {f : Nat → Int} {g B0 : Nat} (h : Ms w base Sb Tb Mb W H q n c tt st f g) (k : Sq Sb Tb Mb w w') (h1 : B0 ≤ Sb) (h2 : B0 ≤ Tb) (h3 : B0 ≤ Mb) : Below B0 w w' := by
  obtain ⟨m, E, A, B, D, TA, TB, L, ⟨S, r⟩, r2⟩ := h
  exact k.below S.hs h1 h2 h3
theorem Ns.below {w w' : World} {base Sb Tb Mb : Nat} {W H : Int} {q : Option Addr} {n c tt : Nat} {st : Nat → Nat → Int} {f : Nat → Int} {g B0 : Nat} {b : Bool} {y : Og} (h : Ns w base Sb Tb Mb W H q n c tt st f g b y) (k : Sq Sb Tb Mb w w') (h1 : B0 ≤ Sb) (h2 : B0 ≤ Tb) (h3 : B0 ≤ Mb) : Below B0 w w' := by
  obtain ⟨m, E, A, B, D, TA, TB, L, ⟨S, r⟩, r2⟩ := h
  exact k.below S.hs h1 h2 h3
/-- a block of one's own beside the search's turned -/
theorem Ns.far {w w' : World} {base Sb Tb Mb : Nat} {W H : Int} {q : Option Addr} {n c tt : Nat} {st : Nat → Nat → Int} {f : Nat → Int} {g V : Nat} {b : Bool} {y : Og} (h : Ns w base Sb Tb Mb W H q n c tt st f g b y) (hV : base ≤ V) (hn : some V ≠ hO w Sb) (ot : ∀ k, k ≠ V → w'.heap[k]? = w.heap[k]?) (hs : w'.heap.size = w.heap.size) : Ns w' base Sb Tb Mb W H q n c tt st f g b y := by
  obtain ⟨m, E, A, B, D, TA, TB, L, ⟨S, r⟩, r2⟩ := h
  have hsb := S.hs.sb
  have ht := S.t1
  have hm := S.m1
  have eS := ot Sb (by omega)
  have eT := ot Tb (by omega)
  obtain ⟨v, h1, h2⟩ := S.hs.v
  have hO1 : OwO w' base v m E := by
    obtain ⟨e0, e | ⟨g', cap', cur, h3, h4, h5, h6⟩⟩ := h2
    · exact ⟨e0, .inl e⟩
    · refine ⟨e0, .inr ⟨g', cap', cur, h3, h4, (ot _ (fun e => hn ?_)).trans h5, h6⟩⟩
      rw [hO_at h1, h3, e]
      rfl
  exact ⟨m, E, A, B, D, TA, TB, L, ⟨⟨⟨S.hs.sb, by rw [hs]; exact S.hs.le, ⟨v, (cell_same eS 5).trans h1, hO1⟩, (frozen_same eS 5).trans S.hs.fz, S.hs.all, S.hs.ok⟩, (cell_same eS 0).trans S.s0, (cell_same eS 1).trans S.s1, (cell_same eS 2).trans S.s2, (cell_same eS 3).trans S.s3, (cell_same eS 4).trans S.s4, ⟨by rw [hs]; exact S.tb.lt, fun i hi => (cell_same eT i).trans (S.tb.c i hi), fun j => (frozen_same eT j).trans (S.tb.fz j)⟩, S.mb.heap (ot Mb (by omega)), S.t1, S.m1, S.d1, S.d2, S.d3⟩, r⟩, r2⟩
theorem take_ms (w : World) (base Sb Tb Mb : Nat) (W H : Int) (q : Option Addr) (n c tt : Nat) (st : Nat → Nat → Int) (f : Nat → Int) (g : Nat) (h : Ms w base Sb Tb Mb W H q n c tt st f g) :
    Calls Try.prog 79 #[.pointer (some ⟨Sb, 5, none⟩)] w fun e w' => ∃ (y : Og) (b : Bool), e = .returned (.tuple #[ov y, .bool b]) ∧ Ns w' base Sb Tb Mb W H q n c tt st f g b y ∧ Sq Sb Tb Mb w w' := by
  obtain ⟨m, E, A, B, D, TA, TB, L, ⟨S, hok, hm, hD, hT, hL⟩, hO, hg⟩ := h
  cases m with
  | zero =>
    refine (take_none base Sb E w S.hs).mono ?_
    rintro e w' ⟨rfl, hb⟩
    exact ⟨_, false, rfl, ⟨0, E, A, B, D, TA, TB, L, ⟨S.on hb, hok, hm, hD, hT, hL⟩, .inr ⟨rfl, rfl, hO⟩⟩, sq_below hb (Nat.lt_of_lt_of_le S.hs.sb S.hs.le)⟩
  | succ m =>
    refine (take_some base Sb m E w S.hs hok).mono ?_
    rintro e w' ⟨rfl, E', hS, hk, h1, h2, T, Q⟩
    exact ⟨E 0, true, rfl, ⟨m, E', A, B, D, TA, TB, L, ⟨S.ht T hS, hk, by omega, hD, hT, hL⟩, .inl ⟨rfl, m + 1, E, hO, ⟨0, by omega, rfl⟩, fun z ⟨i, hi, e⟩ => e ▸ hok.min i hi, S.hs.all 0 (by omega), h1, h2, by omega⟩⟩, sq_of T Q⟩
theorem settle_ns (w : World) (base Sb Tb Mb B0 : Nat) (W H : Int) (q : Option Addr) (n c tt : Nat) (st : Nat → Nat → Int) (f : Nat → Int) (g : Nat) (y : Og) (hsz : sizedB W n = true) (hHe : H = hgt W n) (hst0 : st = stN W n f) (ht : frB n f (tt : Int) = true) (hq : 0 < n → ∃ x o, q = some ⟨x, o, none⟩ ∧ x < B0) (g1 : B0 ≤ Sb) (g2 : B0 ≤ Tb) (g3 : B0 ≤ Mb)
    (h : Ns w base Sb Tb Mb W H q n c tt st f g true y) (hf : IL w q n f) :
    Calls Try.prog 80 #[.pointer (some ⟨Sb, 0, none⟩), ov y] w fun e w' => e = .returned (.tuple #[]) ∧ Ms w' base Sb Tb Mb W H q n c tt st f (g - 1) ∧ 1 ≤ g ∧ Sq Sb Tb Mb w w' := by
  have hn2 := sized_le hsz
  obtain ⟨m, E, A, B, D, TA, TB, L, ⟨S, hok, hm, hD, hT, hL⟩, ⟨_, m0, E0, hO, hy, hmin, hb, h1, h2, hg⟩ | ⟨e, _⟩⟩ := h
  · obtain ⟨i, hi, hp, hl⟩ := hO.lo y hy
    have hc := cntD_le D n
    cases hd : D i with
    | true =>
      have O2 := hO.skip hp hd h1 h2
      refine (settle_no base Sb Tb Mb W H q n c m E TA TB L y w S (by rw [hp]; exact wf_small (by omega) (by omega)) (by rw [hp, hL i hi, hd]; simp)).mono ?_
      rintro e w' ⟨rfl, hb⟩
      exact ⟨rfl, ⟨m, E, A, B, D, TA, TB, L, ⟨S.on hb, hok, hm, hD, hT, hL⟩, O2, by omega⟩, by omega, sq_below hb (Nat.lt_of_lt_of_le S.hs.sb S.hs.le)⟩
    | false =>
      obtain ⟨a0, ea, eb, hR, O2⟩ := op_take hD (by omega) hO hi hp hd hy hmin hb h1 h2
      have hfr : frB n f (i : Int) = true := wy_free (by have := hD.real i hi a0; rw [hst0] at this; exact this) ht
      have hc1 := cntD_put (n := n) hd
      rw [if_pos hi] at hc1
      have hc2 := cntD_lt hd hi
      obtain ⟨p, a, b⟩ := y
      simp only at hp ea eb
      subst hp
      refine (settle_yes base Sb Tb Mb B0 W H q n c m E A B TA TB (put TA i a) (put TB i b) (putD D i) L (fun z => L z && decide (z ≠ (i : Int))) f st tt i a b w hsz hHe rfl rfl (fun _ => rfl) hst0 S hok (by omega) hf hq g1 g2 g3 hi (by rw [hL i hi, hd, hfr]; rfl) hR O2 ea eb).mono ?_
      rintro e w' ⟨rfl, m', E', A', B', S', hok', hm', hD', hO', hag, hQ⟩
      refine ⟨rfl, ⟨m', E', A', B', putD D i, put TA i a, put TB i b, _, ⟨S', hok', by omega, hD', fun j hj => ?_, fun j hj => ?_⟩, hO', by omega⟩, by omega, hQ⟩
      · have := hag j hj
        rw [this.1, this.2]
        by_cases e : j = i
        · subst e
          simp only [put, if_true]
          exact ⟨ea, eb⟩
        · simp only [put, e, if_false]
          simp only [putD, e, if_false] at hj
          exact hT j hj
      · rw [hL j hj]
        by_cases e : j = i
        · subst e
          simp [putD]
        · have e2 : (j : Int) ≠ (i : Int) := by omega
          simp [putD, e, e2]
  · cases e
/-- the search is at its end -/
theorem end_ns {w : World} {base Sb Tb Mb : Nat} {W H : Int} {q : Option Addr} {n c tt : Nat} {st : Nat → Nat → Int} {f : Nat → Int} {g : Nat} {y : Og} (h : Ns w base Sb Tb Mb W H q n c tt st f g false y) (hsz : sizedB W n = true) (hst0 : st = stN W n f) (ht : tt < n) :
    ∃ (p : Option Addr) (cp : Nat) (A B : Nat → Int) (D : Nat → Bool) (TA TB : Nat → Int) (L : Int → Bool), (∀ k, k < 5 → w.cell? ⟨Sb, k, none⟩ = ([.int .i64 W, .int .i64 H, .slice q n c, .slice (some ⟨Tb, 0, none⟩) n n, .map (some Mb)] : List Value)[k]?) ∧ w.cell? ⟨Sb, 5, none⟩ = some (.slice p 0 cp) ∧ Dst st n tt A B ∧ (∀ i, i < n → (D i = true ↔ 0 ≤ A i)) ∧ (∀ i, D i = true → TA i = A i ∧ TB i = B i) ∧ (∀ i : Nat, i < n → L (i : Int) = (frB n f (i : Int) && !D i)) ∧ IP w Tb (n * 2) (f2 TA TB) ∧ LM w Mb n L := by
  have hn2 := sized_le hsz
  obtain ⟨m, E, A, B, D, TA, TB, L, ⟨S, hok, hm, hD, hT, hL⟩, ⟨e, _⟩ | ⟨_, rfl, hO⟩⟩ := h
  · cases e
  · obtain ⟨v, h1, h2⟩ := S.hs.v
    obtain ⟨d1, d2⟩ := op_end hD hO (by omega) ht (fun i k => by rw [hst0]; exact stN_sy W n f i k) (fun i k h => by rw [hst0] at h; exact step_lt h)
    obtain ⟨p, cp, rfl⟩ : ∃ p cp, v = .slice p 0 cp := by
      obtain ⟨_, ⟨e, _⟩ | ⟨g', cap', cur, h3, _⟩⟩ := h2
      · exact ⟨none, 0, e⟩
      · exact ⟨_, _, h3⟩
    refine ⟨p, cp, A, B, D, TA, TB, L, fun k hk => ?_, h1, d1, d2, hT, hL, S.tb, S.mb⟩
    rcases (show k = 0 ∨ k = 1 ∨ k = 2 ∨ k = 3 ∨ k = 4 by omega) with rfl | rfl | rfl | rfl | rfl
    · exact S.s0
    · exact S.s1
    · exact S.s2
    · exact S.s3
    · exact S.s4
/-- where the search begins -/
theorem start_sr {w : World} {Sb Tb Mb : Nat} {W H : Int} {q : Option Addr} {n c : Nat} {L : Int → Bool} (bS : Bx w Sb (srL W H q n c Tb Mb)) (hT : IP w Tb (n * 2) (fun _ => 0)) (hM : LM w Mb n L) (d1 : Tb ≠ Sb) (d2 : Mb ≠ Sb) (d3 : Tb ≠ Mb) : Sr w w.heap.size Sb Tb Mb W H q n c 0 (fun _ => ⟨0, 0, 0⟩) (fun _ => 0) (fun _ => 0) L := by
  have c3 := bS.c 3 (by simp)
  have c4 := bS.c 4 (by simp)
  have c5 := bS.c 5 (by simp)
  simp only [List.getElem?_cons_succ, List.getElem?_cons_zero] at c3 c4 c5
  have e : f2 (fun _ => 0) (fun _ => 0) = (fun _ => (0 : Int)) := by funext t; simp [f2]
  exact ⟨⟨bS.lt, Nat.le_refl _, ⟨_, c5, ⟨by simp [vL], .inl ⟨rfl, rfl⟩⟩⟩, bS.fz 5, fun i hi => absurd hi (by omega), by omega⟩, bS.c0, bS.c1, bS.c2, c3, c4, by rw [e]; exact hT, hM, hT.lt, hM.lt, d1, d2, d3⟩
theorem put_st {w : World} {Sb Tb Mb : Nat} {W H : Int} {q : Option Addr} {n c tt : Nat} {st : Nat → Nat → Int} {f : Nat → Int} (ht : tt < n) (bS : Bx w Sb (srL W H q n c Tb Mb)) (hT : IP w Tb (n * 2) (fun _ => 0)) (hM : LM w Mb n (fun x => decide (0 ≤ x) && decide (x < (n : Int)) && frB n f x)) (d1 : Tb ≠ Sb) (d2 : Mb ≠ Sb) (d3 : Tb ≠ Mb) :
    Calls Try.prog 78 #[.pointer (some ⟨Sb, 5, none⟩), ov ⟨(tt : Int), 0, 0⟩] w fun e w' => e = .returned (.tuple #[]) ∧ Ms w' w.heap.size Sb Tb Mb W H q n c tt st f (10 * n + 1) ∧ (∀ B0, B0 ≤ Sb → B0 ≤ Tb → B0 ≤ Mb → Below B0 w w') := by
  have S := start_sr bS hT hM d1 d2 d3
  refine (put_any w.heap.size Sb 0 _ ⟨(tt : Int), 0, 0⟩ w S.hs (fun j _ hj => absurd hj (by omega)) (by unfold BdO; simp) (by omega)).mono ?_
  rintro e w' ⟨rfl, E', hS, hk, hmem, T, Q⟩
  have hE : E' 0 = ⟨(tt : Int), 0, 0⟩ := by
    rcases (hmem (E' 0)).1 ⟨0, by omega, rfl⟩ with ⟨j, hj, _⟩ | e
    · omega
    · exact e
  exact ⟨rfl, ⟨0 + 1, E', _, _, _, _, _, _, ⟨S.ht T hS, hk, by omega, Dj.start st n tt, fun i hi => by simp at hi, fun i hi => by simp; omega⟩, op_start n tt ht E' hE, by omega⟩, fun B0 g1 g2 g3 => Sq.below (Tb := Tb) (Mb := Mb) (sq_of T Q) S.hs g1 g2 g3⟩
/-- what stands at each round -/
def LpQ (w1 : World) (base Sb Tb Mb : Nat) (W H : Int) (q : Option Addr) (n c tt : Nat) (st : Nat → Nat → Int) (f : Nat → Int) (g : Nat) (s7 s8 : Value) (wr : World) : Prop :=
  ∃ (V : Nat) (y : Og) (b : Bool), s7 = .pointer (some ⟨V, 0, none⟩) ∧ s8 = .bool b ∧ Bx wr V (ovL y) ∧ some V ≠ hO wr Sb ∧ base ≤ V ∧ Ns wr base Sb Tb Mb W H q n c tt st f g b y ∧ Below w1.heap.size w1 wr
theorem nw_hO {w w' : World} {Sb : Nat} (hs : Sb < w.heap.size) (ho : ∀ b, some b = hO w Sb → b < w.heap.size) (k : Below w.heap.size w w') : some w.heap.size ≠ hO w' Sb := by
  rw [hO_same (k.cell (p := ⟨Sb, 5, none⟩) hs)]
  intro e
  have := ho _ e
  omega
theorem lq_new {w1 w : World} {base Sb Tb Mb : Nat} {W H : Int} {q : Option Addr} {n c tt : Nat} {st : Nat → Nat → Int} {f : Nat → Int} {g : Nat} {b : Bool} {y : Og} (hN : Ns w base Sb Tb Mb W H q n c tt st f g b y) (hB : Below w1.heap.size w1 w) :
    LpQ w1 base Sb Tb Mb W H q n c tt st f g (.pointer (some ⟨w.heap.size, 0, none⟩)) (.bool b) (w.alloc (.cells #[.int .i64 y.p, .int .i64 y.a, .int .i64 y.b] 117)) := by
  have k := al_keep w (.cells #[.int .i64 y.p, .int .i64 y.a, .int .i64 y.b] 117)
  obtain ⟨s1, s2, s3, s4, s5⟩ := hN.sb
  exact ⟨w.heap.size, y, b, rfl, rfl, bx_new (w := w) (ovL y) 117 rfl, nw_hO (by omega) s5 k, s4, hN.on k, stepA hB k⟩
theorem lq_old {w1 w : World} {base Sb Tb Mb : Nat} {W H : Int} {q : Option Addr} {n c tt : Nat} {st : Nat → Nat → Int} {f : Nat → Int} {g V : Nat} {b : Bool} {y z : Og} (hN : Ns w base Sb Tb Mb W H q n c tt st f g b y) (hB : Below w1.heap.size w1 w) (h1 : w1.heap.size ≤ base) (bV : Bx w V (ovL z)) (hV : base ≤ V) (hn : some V ≠ hO w Sb) :
    LpQ w1 base Sb Tb Mb W H q n c tt st f g (.pointer (some ⟨V, 0, none⟩)) (.bool b) (st30 w V y) := by
  obtain ⟨s1, s2, s3, s4, s5⟩ := hN.sb
  have e := st30_other w V Sb y (by omega)
  refine ⟨V, y, b, rfl, rfl, bx_st30 bV y, ?_, hV, hN.far hV hn (fun k hk => st30_other w V k y hk) (st30_size w V y), ((hB.setCell (p := ⟨V, 0, none⟩) (by simp; omega) _).setCell (p := ⟨V, 1, none⟩) (by simp; omega) _).setCell (p := ⟨V, 2, none⟩) (by simp; omega) _⟩
  rw [hO_same (w := w) (w' := st30 w V y) (cell_same e 5)]
  exact hn
abbrev st60 (w : World) (b : Nat) (v0 v1 v2 v3 v4 v5 : Value) : World := (((((w.setCell ⟨b, 0, none⟩ v0).setCell ⟨b, 1, none⟩ v1).setCell ⟨b, 2, none⟩ v2).setCell ⟨b, 3, none⟩ v3).setCell ⟨b, 4, none⟩ v4).setCell ⟨b, 5, none⟩ v5
theorem bx_st60 {w : World} {b : Nat} {u0 u1 u2 u3 u4 u5 : Value} (h : Bx w b [u0, u1, u2, u3, u4, u5]) (v0 v1 v2 v3 v4 v5 : Value) : Bx (st60 w b v0 v1 v2 v3 v4 v5) b [v0, v1, v2, v3, v4, v5] :=
  (((((h.set 0 (by simp) v0).set 1 (by simp) v1).set 2 (by simp) v2).set 3 (by simp) v3).set 4 (by simp) v4).set 5 (by simp) v5
theorem st60_other (w : World) (b k : Nat) (v0 v1 v2 v3 v4 v5 : Value) (h : k ≠ b) : (st60 w b v0 v1 v2 v3 v4 v5).heap[k]? = w.heap[k]? :=
  (Below.heap_setCell _ ⟨b, _, none⟩ _ k h).trans ((Below.heap_setCell _ ⟨b, _, none⟩ _ k h).trans ((Below.heap_setCell _ ⟨b, _, none⟩ _ k h).trans ((Below.heap_setCell _ ⟨b, _, none⟩ _ k h).trans ((Below.heap_setCell _ ⟨b, _, none⟩ _ k h).trans (Below.heap_setCell _ ⟨b, _, none⟩ _ k h)))))
theorem st60_size (w : World) (b : Nat) (v0 v1 v2 v3 v4 v5 : Value) : (st60 w b v0 v1 v2 v3 v4 v5).heap.size = w.heap.size := by simp
/-- the answer is stored and told -/
theorem ans_sch {w0 w : World} {Tb Mb : Nat} {W H : Int} {q : Option Addr} {n c tt : Nat} {st : Nat → Nat → Int} {f : Nat → Int} {R : Nat} {A B : Nat → Int} {D : Nat → Bool} {TA TB : Nat → Int} {L : Int → Bool} {pv : Option Addr} {cv : Nat} (h1 : Dst st n tt A B) (h2 : ∀ i, i < n → (D i = true ↔ 0 ≤ A i)) (h3 : ∀ i, D i = true → TA i = A i ∧ TB i = B i) (h4 : ∀ i : Nat, i < n → L (i : Int) = (frB n f (i : Int) && !D i)) (h5 : IP w Tb (n * 2) (f2 TA TB)) (h6 : LM w Mb n L) (g1 : R < Tb) (g2 : R < Mb) (g3 : w0.heap.size ≤ R) (hB : Below w0.heap.size w0 w) (v0 v1 v2 v3 v4 v5 : Value) :
    AnsSch w0 (st60 w R v0 v1 v2 v3 v4 v5) W H q n c tt st f (.returned (srA W H q n c Tb Mb pv cv)) := by
  have ot := fun k h => st60_other w R k v0 v1 v2 v3 v4 v5 h
  have hs := st60_size w R v0 v1 v2 v3 v4 v5
  have eT := ot Tb (by omega)
  refine ⟨Tb, Mb, pv, cv, A, B, D, TA, TB, L, rfl, h1, h2, h3, h4, ⟨by rw [hs]; exact h5.lt, fun i hi => (cell_same eT i).trans (h5.c i hi), fun j => (frozen_same eT j).trans (h5.fz j)⟩, h6.heap (ot Mb (by omega)), by omega, by omega, ?_⟩
  exact (((((hB.setCell (p := ⟨R, 0, none⟩) g3 v0).setCell (p := ⟨R, 1, none⟩) g3 v1).setCell (p := ⟨R, 2, none⟩) g3 v2).setCell (p := ⟨R, 3, none⟩) g3 v3).setCell (p := ⟨R, 4, none⟩) g3 v4).setCell (p := ⟨R, 5, none⟩) g3 v5
end Go.Proofs.Ytfciecoigfnnhaa
