/- The table of when one is due, as the program makes it. -/
import Derived.Test.YtbndhhjgjalecaaDoorQCwDfI
import Derived.Test.YtbndhhjgjalecaaDoorQLqSz
import Derived.Test.YtbndhhjgjalecaaDoorQCwRows
import Derived.Deep.Cut
import Derived.Deep.CutRange
import Derived.Deep.RegionHeld
namespace Go.Proofs.YtbndhhjgjalecaaDoor
open Go.RowKit

theorem dfV_due {W : Int} {n : Nat} {f : Nat → Int} {R : Nat → Nat → Int} {J : Nat} {t : Int} {T k p : Nat} {Dn : Nat → Int} (hu : Uq R T J) (hs : sizedB W n = true) (hk : k ≤ T) (hp : p < n) (ht : frB n f t = true) (hD : ∀ q, q < n → DueIs W n f R J t T (k + 1) (q : Int) (Dn q)) : DueIs W n f R J t T k (p : Int) (dfV W n f R J t T k p Dn) := by
  unfold dfV
  cases hok : okC n f R J k (p : Int) with
  | false => simp only [Bool.false_eq_true, if_false]; exact due_no hk hok
  | true =>
    simp only [if_true]
    have hDp := hD p hp
    by_cases hnow : (p : Int) = t ∧ Dn p = (k : Int) + 1
    · rw [if_pos hnow]
      obtain ⟨h1, h2⟩ := hnow
      rw [h1] at hok hDp ⊢
      refine due_at hk hok (fun k' h3 h4 => ?_)
      exact (due_now hDp (by rw [h2]; omega) (by omega)).2 k' h3 h4
    · rw [if_neg hnow]
      refine due_step hu hs hk hok (fun h => hnow ⟨h.1, ?_⟩) (fun q hq => ?_)
      · have h9 := hDp
        rw [h.1] at h9
        by_cases hkT : k + 1 ≤ T
        · have := due_stay h9 ht hkT h.2
          omega
        · have h7 := h9.lo
          have h8 := h9.hi
          omega
      · obtain ⟨x, rfl, hx⟩ := mem_nbL.1 hq
        simp only [Int.toNat_natCast]
        exact hD x (hx.lt hs hp)
theorem ret_ol {fn : Func} {t : Tmp} {Q : Ending → World → Prop} {a : Act} {w : World} {b : Nat} {u0 u1 u2 u3 u4 u5 : Value} (h : fn.results = #[.cell t 75]) (hp : a.tmps.getD t undef = .pointer (some ⟨b, 0, none⟩)) (hb : Bx w b [u0, u1, u2, u3, u4, u5]) (hd : a.defers = [])
    (hQ : Q (.returned (.agg #[u0, u1, u2, u3, u4, u5])) w) : bodyPost Tryd.prog fn Q .ret a w := by
  refine bodyPost_ret ?_ hd hQ
  have c0 := hb.c0
  have c1 := hb.c1
  have c2 := hb.c2
  have c3 := hb.c3
  have c4 := hb.c4
  have c5 := hb.c5
  have hp' : a.tmps[t]?.getD undef = .pointer (some ⟨b, 0, none⟩) := by simpa using hp
  simp [results, h, hp', asAddr, loadVar, go_sem, c0, c1, c2, c3, c4, c5]
/-- a row of rows that are not made yet -/
structure Nl (w : World) (Db L : Nat) : Prop where
  cell : ∀ k, k < L → w.cell? ⟨Db, k, none⟩ = some (.slice none 0 0)
  fz : ∀ j, w.frozen? ⟨Db, j, none⟩ = false
  lt : Db < w.heap.size
theorem Nl.below {w w' : World} {B Db L : Nat} (h : Nl w Db L) (k : Below B w w') (hB : Db < B) : Nl w' Db L :=
  ⟨fun i hi => (k.cell (p := ⟨Db, i, none⟩) hB).trans (h.cell i hi), fun j => (frozen_same (k.block Db hB) j).trans (h.fz j), Nat.lt_of_lt_of_le h.lt k.size⟩
abbrev olZ : List Value := [.int .i64 0, .int .i64 0, .slice none 0 0, .map none, .int .i64 0, .slice none 0 0]
/-- what the making of the outlook leaves -/
def CutO (w2 wx : World) (W H : Int) (a : Option Addr) (n c Mb : Nat) (t : Int) (L : Nat) (s : Value) : Prop :=
  ∃ Ob Db, s = .pointer (some ⟨Ob, 0, none⟩) ∧ w2.heap.size ≤ Ob ∧ w2.heap.size ≤ Db ∧ Ob ≠ Db ∧ Bx wx Ob (olL W H a n c Mb t Db L) ∧ Nl wx Db L ∧ Below w2.heap.size w2 wx
theorem nl_made (w : World) (L : Nat) : Nl (w.alloc (.cells (madeCells #[.slice none 0 0] L) 23)) w.heap.size L := by
  have h := World.rowIs_made w (.slice none 0 0) L 23
  exact ⟨fun k hk => h.cell hk, fun j => h.frozen j, h.lt⟩
theorem cutO_a {w2 : World} {W H : Int} {a : Option Addr} {n c Mb : Nat} {t : Int} {L : Nat} :
    CutO w2 ((w2.alloc (.cells (madeCells #[.slice none 0 0] L) 23)).alloc (.cells #[.int .i64 W, .int .i64 H, .slice a n c, .map (some Mb), .int .i64 t, .slice (some ⟨w2.heap.size, 0, none⟩) L L] 75)).drew W H a n c Mb t L (.pointer (some ⟨w2.heap.size + 1, 0, none⟩)) := by
  have b := bx_new (w := w2.alloc (.cells (madeCells #[.slice none 0 0] L) 23)) (b := w2.heap.size + 1) (olL W H a n c Mb t w2.heap.size L) 75 (by simp)
  have h := nl_made w2 L
  exact ⟨w2.heap.size + 1, w2.heap.size, rfl, by omega, Nat.le_refl _, by omega, b.on (Below.refl _ _).drew, (h.below ((Below.refl _ _).alloc (Nat.le_refl _) _) h.lt).below (Below.refl (w2.heap.size + 1) _).drew (by omega), (((Below.refl w2.heap.size w2).alloc (Nat.le_refl _) _).alloc (by simp) _).drew⟩
theorem cutO_b {w2 : World} {W H : Int} {a : Option Addr} {n c Mb : Nat} {t : Int} {L : Nat} :
    CutO w2 ((w2.alloc (.cells #[.int .i64 W, .int .i64 H, .slice a n c, .map (some Mb), .int .i64 t, .slice (some ⟨w2.heap.size + 1, 0, none⟩) L L] 75)).alloc (.cells (madeCells #[.slice none 0 0] L) 23)).drew W H a n c Mb t L (.pointer (some ⟨w2.heap.size, 0, none⟩)) := by
  have b := (bx_new (w := w2) (b := w2.heap.size) (olL W H a n c Mb t (w2.heap.size + 1) L) 75 rfl).alloc (.cells (madeCells #[.slice none 0 0] L) 23)
  have h := nl_made (w2.alloc (.cells #[.int .i64 W, .int .i64 H, .slice a n c, .map (some Mb), .int .i64 t, .slice (some ⟨w2.heap.size + 1, 0, none⟩) L L] 75)) L
  rw [size_al] at h
  exact ⟨w2.heap.size, w2.heap.size + 1, rfl, Nat.le_refl _, by omega, by omega, b.on (Below.refl _ _).drew, h.below (Below.refl (w2.heap.size + 2) _).drew (by omega), (((Below.refl w2.heap.size w2).alloc (Nat.le_refl _) _).alloc (by simp) _).drew⟩
/-- what stands while the rows are made -/
structure Lk (w2 wr : World) (W H : Int) (a : Option Addr) (n c Mb : Nat) (t : Int) (T Ob Gb Db : Nat) (f : Nat → Int) (R : Nat → Nat → Int) (J : Nat) (B : Nat → Nat) (D : Nat → Nat → Int) (lo lr : Nat) : Prop where
  ob : Bx wr Ob (olL W H a n c Mb t Db (T + 2))
  gb : Bx wr Gb [.int .i64 W, .int .i64 H, .slice a n c]
  tab : Dt wr Db T n B D lo
  rest : ∀ k, k < lr → wr.cell? ⟨Db, k, none⟩ = some (.slice none 0 0)
  fz : ∀ j, wr.frozen? ⟨Db, j, none⟩ = false
  own : ∀ k, lo ≤ k → k ≤ T + 1 → w2.heap.size ≤ B k
  due : ∀ k, lo ≤ k → k ≤ T + 1 → ∀ q, q < n → DueIs W n f R J t T k (q : Int) (D k q)
  tn : Turns Db (Db + 1) w2 wr
  lt : Ob < w2.heap.size ∧ Gb < w2.heap.size ∧ Db < w2.heap.size ∧ Ob ≠ Db ∧ Gb ≠ Db
section
variable {w2 wr w' : World} {W H : Int} {a : Option Addr} {n c Mb : Nat} {t : Int} {T Ob Gb Db : Nat} {f : Nat → Int} {R : Nat → Nat → Int} {J : Nat} {B : Nat → Nat} {D : Nat → Nat → Int} {lo lr : Nat}
theorem Lk.on (h : Lk w2 wr W H a n c Mb t T Ob Gb Db f R J B D lo lr) (k : Below wr.heap.size wr w') : Lk w2 w' W H a n c Mb t T Ob Gb Db f R J B D lo lr :=
  ⟨h.ob.on k, h.gb.on k, h.tab.on k, fun i hi => (k.cell (p := ⟨Db, i, none⟩) h.tab.lt).trans (h.rest i hi), fun j => (frozen_same (k.block Db h.tab.lt) j).trans (h.fz j), h.own, h.due, tn_below h.tn (k.mono h.tn.size), h.lt⟩
/-- a new row is laid into the table -/
theorem Lk.row (h : Lk w2 wr W H a n c Mb t T Ob Gb Db f R J B D (lo + 1) (lo + 1)) {rb : Nat} {F : Nat → Int} (hr : IP wr rb n F) (hrb : w2.heap.size ≤ rb) (hd : ∀ q, q < n → DueIs W n f R J t T lo (q : Int) (F q)) :
    Lk w2 (wr.setCell ⟨Db, lo, none⟩ (.slice (some ⟨rb, 0, none⟩) n n)) W H a n c Mb t T Ob Gb Db f R J (fun k => if k = lo then rb else B k) (fun k => if k = lo then F else D k) lo lo := by
  obtain ⟨l1, l2, l3, l4, l5⟩ := h.lt
  have hO : Only Db wr (wr.setCell ⟨Db, lo, none⟩ (.slice (some ⟨rb, 0, none⟩) n n)) := (Only.refl _ _).set lo _
  have keep : ∀ {x : Nat} {G : Nat → Int}, w2.heap.size ≤ x → IP wr x n G → IP (wr.setCell ⟨Db, lo, none⟩ (.slice (some ⟨rb, 0, none⟩) n n)) x n G := fun {x G} hx hp =>
    ⟨by simpa using hp.lt, fun i hi => (cell_same (hO.block x (by omega)) _).trans (hp.c i hi), fun j => (frozen_same (hO.block x (by omega)) j).trans (hp.fz j)⟩
  have hcell : ∀ k, k ≠ lo → (wr.setCell ⟨Db, lo, none⟩ (.slice (some ⟨rb, 0, none⟩) n n)).cell? ⟨Db, k, none⟩ = wr.cell? ⟨Db, k, none⟩ := fun k hk => World.cell?_setCell_other _ _ _ _ (by simp <;> omega)
  refine ⟨h.ob.far _ l4, h.gb.far _ l5, ⟨fun k h1 h2 => ?_, fun k h1 h2 => ?_, by simpa using h.tab.lt⟩, fun k hk => ?_, fun j => by rw [World.frozen?_setCell]; exact h.fz j, fun k h1 h2 => ?_, fun k h1 h2 q hq => ?_, h.tn.trans (OnlyIn.turns (OnlyIn.of hO (Nat.le_refl _) (Nat.lt_succ_self _))), h.lt⟩
  · by_cases e : k = lo
    · subst e
      simp only [if_true]
      have h9 := h.rest k (by omega)
      exact World.cell?_setCell_same _ _ _ h9
    · simp only [e, if_false]
      rw [hcell k e]; exact h.tab.cell k (by omega) h2
  · by_cases e : k = lo
    · subst e; simp only [if_true]; exact keep hrb hr
    · simp only [e, if_false]; exact keep (h.own k (by omega) h2) (h.tab.row k (by omega) h2)
  · rw [hcell k (by omega)]; exact h.rest k (by omega)
  · by_cases e : k = lo
    · subst e; simp only [if_true]; exact hrb
    · simp only [e, if_false]; exact h.own k (by omega) h2
  · by_cases e : k = lo
    · subst e; simp only [if_true]; exact hd q hq
    · simp only [e, if_false]; exact h.due k (by omega) h2 q hq
/-- a row that is not filled yet is laid into the table -/
theorem Lk.lay (h : Lk w2 wr W H a n c Mb t T Ob Gb Db f R J B D (lo + 1) (lo + 1)) (rb : Nat) : Lk w2 (wr.setCell ⟨Db, lo, none⟩ (.slice (some ⟨rb, 0, none⟩) n n)) W H a n c Mb t T Ob Gb Db f R J B D (lo + 1) lo ∧ (wr.setCell ⟨Db, lo, none⟩ (.slice (some ⟨rb, 0, none⟩) n n)).cell? ⟨Db, lo, none⟩ = some (.slice (some ⟨rb, 0, none⟩) n n) := by
  obtain ⟨l1, l2, l3, l4, l5⟩ := h.lt
  have hO : Only Db wr (wr.setCell ⟨Db, lo, none⟩ (.slice (some ⟨rb, 0, none⟩) n n)) := (Only.refl _ _).set lo _
  have hcell : ∀ k, k ≠ lo → (wr.setCell ⟨Db, lo, none⟩ (.slice (some ⟨rb, 0, none⟩) n n)).cell? ⟨Db, k, none⟩ = wr.cell? ⟨Db, k, none⟩ := fun k hk => World.cell?_setCell_other _ _ _ _ (by simp <;> omega)
  refine ⟨⟨h.ob.far _ l4, h.gb.far _ l5, ⟨fun k h1 h2 => ?_, fun k h1 h2 => ?_, by simpa using h.tab.lt⟩, fun k hk => ?_, fun j => by rw [World.frozen?_setCell]; exact h.fz j, h.own, h.due, h.tn.trans (OnlyIn.turns (OnlyIn.of hO (Nat.le_refl _) (Nat.lt_succ_self _))), h.lt⟩, World.cell?_setCell_same _ _ _ (h.rest lo (by omega))⟩
  · rw [hcell k (by omega)]; exact h.tab.cell k h1 h2
  · have hp := h.tab.row k h1 h2
    have ho := h.own k h1 h2
    exact ⟨by simpa using hp.lt, fun i hi => (cell_same (hO.block (B k) (by omega)) _).trans (hp.c i hi), fun j => (frozen_same (hO.block (B k) (by omega)) j).trans (hp.fz j)⟩
  · rw [hcell k (by omega)]; exact h.rest k (by omega)
/-- while a row is filled -/
structure Lr (w2 wr : World) (W H : Int) (a : Option Addr) (n c Mb : Nat) (t : Int) (T Ob Gb Db : Nat) (f : Nat → Int) (R : Nat → Nat → Int) (J : Nat) (B : Nat → Nat) (D : Nat → Nat → Int) (tk rb at_ : Nat) : Prop where
  lk : Lk w2 wr W H a n c Mb t T Ob Gb Db f R J B D (tk + 1) tk
  cell : wr.cell? ⟨Db, tk, none⟩ = some (.slice (some ⟨rb, 0, none⟩) n n)
  row : IP wr rb n (fun i => if i < at_ then dfV W n f R J t T tk i (D (tk + 1)) else 0)
  low : w2.heap.size ≤ rb
  ne : ∀ k, tk + 1 ≤ k → k ≤ T + 1 → B k ≠ rb
section
variable {tk rb at_ : Nat}
theorem Lr.on (h : Lr w2 wr W H a n c Mb t T Ob Gb Db f R J B D tk rb at_) (k : Below wr.heap.size wr w') : Lr w2 w' W H a n c Mb t T Ob Gb Db f R J B D tk rb at_ :=
  ⟨h.lk.on k, (k.cell (p := ⟨Db, tk, none⟩) h.lk.tab.lt).trans h.cell, h.row.below k h.row.lt, h.low, h.ne⟩
theorem Lr.set (h : Lr w2 wr W H a n c Mb t T Ob Gb Db f R J B D tk rb at_) (ha : at_ < n) : Lr w2 (wr.setCell ⟨rb, at_, none⟩ (.int .i64 (dfV W n f R J t T tk at_ (D (tk + 1))))) W H a n c Mb t T Ob Gb Db f R J B D tk rb (at_ + 1) := by
  obtain ⟨l1, l2, l3, l4, l5⟩ := h.lk.lt
  have hO : Only rb wr (wr.setCell ⟨rb, at_, none⟩ (.int .i64 (dfV W n f R J t T tk at_ (D (tk + 1))))) := (Only.refl _ _).set at_ _
  have hlow := h.low
  have eD := hO.block Db (by omega)
  have hT : Turns Db (Db + 1) w2 (wr.setCell ⟨rb, at_, none⟩ (.int .i64 (dfV W n f R J t T tk at_ (D (tk + 1))))) := by
    have h0 := h.lk.tn
    exact ⟨h0.os, h0.tape, h0.output, by simpa using h0.size, fun c h1 h2 => (hO.block c (by omega)).trans (h0.block c h1 h2)⟩
  refine ⟨⟨h.lk.ob.far _ (by omega), h.lk.gb.far _ (by omega), ⟨fun k h1 h2 => (cell_same eD _).trans (h.lk.tab.cell k h1 h2), fun k h1 h2 => ?_, by simpa using h.lk.tab.lt⟩, fun k hk => (cell_same eD _).trans (h.lk.rest k hk), fun j => (frozen_same eD j).trans (h.lk.fz j), h.lk.own, h.lk.due, hT, h.lk.lt⟩, (cell_same eD _).trans h.cell, (h.row.set ha _).congr fun i hi => ?_, h.low, h.ne⟩
  · have hp := h.lk.tab.row k h1 h2
    have e := hO.block (B k) (h.ne k h1 h2)
    exact ⟨by simpa using hp.lt, fun i hi => (cell_same e _).trans (hp.c i hi), fun j => (frozen_same e j).trans (hp.fz j)⟩
  · unfold put
    by_cases e : i = at_
    · subst e; simp
    · by_cases e2 : i < at_
      · simp [e, e2, Nat.lt_succ_of_lt e2]
      · have : ¬ i < at_ + 1 := by omega
        simp [e, e2, this]
theorem Lr.done (h : Lr w2 wr W H a n c Mb t T Ob Gb Db f R J B D tk rb n) (hd : ∀ q, q < n → DueIs W n f R J t T tk (q : Int) (dfV W n f R J t T tk q (D (tk + 1)))) :
    Lk w2 wr W H a n c Mb t T Ob Gb Db f R J (fun k => if k = tk then rb else B k) (fun k => if k = tk then (fun q => dfV W n f R J t T tk q (D (tk + 1))) else D k) tk tk := by
  refine ⟨h.lk.ob, h.lk.gb, ⟨fun k h1 h2 => ?_, fun k h1 h2 => ?_, h.lk.tab.lt⟩, h.lk.rest, h.lk.fz, fun k h1 h2 => ?_, fun k h1 h2 q hq => ?_, h.lk.tn, h.lk.lt⟩
  · by_cases e : k = tk
    · subst e; simp only [if_true]; exact h.cell
    · simp only [e, if_false]; exact h.lk.tab.cell k (by omega) h2
  · by_cases e : k = tk
    · subst e; simp only [if_true]; exact h.row.congr fun i hi => by simp [hi]
    · simp only [e, if_false]; exact h.lk.tab.row k (by omega) h2
  · by_cases e : k = tk
    · subst e; simp only [if_true]; exact h.low
    · simp only [e, if_false]; exact h.lk.own k (by omega) h2
  · by_cases e : k = tk
    · subst e; simp only [if_true]; exact hd q hq
    · simp only [e, if_false]; exact h.lk.due k (by omega) h2 q hq
end
end
end Go.Proofs.YtbndhhjgjalecaaDoor
