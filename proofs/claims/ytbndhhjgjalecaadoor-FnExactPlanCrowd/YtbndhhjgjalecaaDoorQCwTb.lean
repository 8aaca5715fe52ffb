/- A search in memory: a table of ints that is written, and a list of ints that grows. -/
import Derived.Test.YtbndhhjgjalecaaDoorQCwGpM
import Derived.Test.YtbndhhjgjalecaaDoorQCwBfs
import Derived.Test.YtbndhhjgjalecaaDoorQClNxB
import Derived.Test.YtbndhhjgjalecaaDoorQCwRows
import Derived.Test.YtbndhhjgjalecaaDoorQCwPlM
namespace Go.Proofs.YtbndhhjgjalecaaDoor
open Go.RowKit

theorem tn_below {lo hi : Nat} {w w' w'' : World} (h : Turns lo hi w w') (k : Below w.heap.size w' w'') : Turns lo hi w w'' :=
  ⟨k.os.trans h.os, k.tape.trans h.tape, k.output.trans h.output, Nat.le_trans h.size k.size, fun c h1 hc => (k.block c h1).trans (h.block c h1 hc)⟩
/-- behind w0: block FB holds a table, v is a list of the call's own -/
structure Bs (w0 wr : World) (FB N : Nat) (F : Nat → Int) (v : Value) (L : Nat) (T : Nat → Int) : Prop where
  ip : IP wr FB N F
  own : Own wr w0.heap.size v L T
  tn : Turns FB (FB + 1) w0 wr
  lt : FB < w0.heap.size
/-- the list's block is none of these -/
def Bn (lo hi : Nat) (v : Value) : Prop := ∀ q, v.ownBlock = some q → q < lo ∨ hi ≤ q
section
variable {w0 wr w' : World} {FB N : Nat} {F : Nat → Int} {v : Value} {L : Nat} {T : Nat → Int}
theorem Bs.size (h : Bs w0 wr FB N F v L T) : w0.heap.size ≤ wr.heap.size := h.tn.size
theorem Bs.on (h : Bs w0 wr FB N F v L T) (k : Below wr.heap.size wr w') : Bs w0 w' FB N F v L T :=
  ⟨h.ip.below k h.ip.lt, h.own.below k, tn_below h.tn (k.mono h.tn.size), h.lt⟩
theorem Bs.set (h : Bs w0 wr FB N F v L T) {u : Nat} (hu : u < N) (x : Int) : Bs w0 (wr.setCell ⟨FB, u, none⟩ (.int .i64 x)) FB N (put F u x) v L T :=
  ⟨h.ip.set hu x, h.own.only ((Only.refl FB wr).set u _) h.lt, h.tn.trans (OnlyIn.turns (OnlyIn.of ((Only.refl FB wr).set u _) (Nat.le_refl _) (Nat.lt_succ_self _))), h.lt⟩
theorem Bs.congr {F' : Nat → Int} (h : Bs w0 wr FB N F v L T) (e : ∀ i, i < N → F i = F' i) : Bs w0 wr FB N F' v L T := ⟨h.ip.congr e, h.own, h.tn, h.lt⟩
theorem Bs.app (h : Bs w0 wr FB N F v L T) {o : Obj} {w3 : World} {v' : Value} {x : Int} (ho : w3.ownsRow w0.heap.size 3 1 v' (L + 1) (vL T L ++ [.int .i64 x])) (hg : (wr.alloc o).grownBy w3 v.ownBlock) : Bs w0 w3 FB N F v' (L + 1) (put T L x) := by
  have hb : Below w0.heap.size wr w3 := ((Below.refl _ _).alloc h.size o).grown hg (by simp; have := h.size; omega) (fun q hq => (World.ownsRow.lt h.own q hq).1)
  exact ⟨h.ip.below hb h.lt, own_put ho, tn_below h.tn hb, h.lt⟩
theorem lq_app {lo hi n : Nat} {a : Option Addr} {G : Nat → Int} (h : LQ wr lo hi a n G) (hb : Bn lo hi v) {o : Obj} {w3 : World} (hg : (wr.alloc o).grownBy w3 v.ownBlock) : LQ w3 lo hi a n G := fun h0 => by
  obtain ⟨b, rfl, h1, h2, hP⟩ := h.on ((Below.refl wr.heap.size wr).alloc (Nat.le_refl _) o) h0
  have e := hg.block b hP.lt (fun e => by have := hb b e.symm; omega)
  exact ⟨b, rfl, h1, h2, Nat.lt_of_lt_of_le hP.lt hg.size, fun i hi => (cell_same e _).trans (hP.c i hi), fun j => (frozen_same e j).trans (hP.fz j)⟩
theorem Bn.app {lo hi : Nat} (hb : Bn lo hi v) {o : Obj} {v' : Value} (ht : v'.ownBlock = v.ownBlock ∨ v'.ownBlock = some (wr.alloc o).heap.size) (hh : hi ≤ wr.heap.size) : Bn lo hi v' := fun q hq => by
  rcases ht with e | e
  · exact hb q (by rw [← e]; exact hq)
  · rw [e] at hq
    have : q = wr.heap.size + 1 := by simpa using hq.symm
    omega
theorem Bs.bn (h : Bs w0 wr FB N F v L T) (lo hi : Nat) (hl : wr.heap.size ≤ lo) : Bn lo hi v := fun q hq => .inl (Nat.lt_of_lt_of_le (World.ownsRow.lt h.own q hq).2 hl)
theorem Bs.below (h : Bs w0 wr FB N F v L T) {B : Nat} (hB : B ≤ FB) : Below B w0 wr := h.tn.below hB (by have := h.lt; omega)
end
theorem own_lit1 (w : World) (base : Nat) (x : Int) (T : Nat → Int) (hT : T 0 = x) (h : base ≤ w.heap.size) : Own (w.alloc (.cells #[.int .i64 x] 3)) base (.slice (some ⟨w.heap.size, 0, none⟩) 1 1) 1 T :=
  ⟨by simp [vL], .inr ⟨w.heap.size, 1, #[.int .i64 x], rfl, h, heap_alloc_new w _, Nat.le_refl _, by unfold maxLen; omega, rfl, by simp [vL, hT]⟩⟩
/-- the trip of a pair of numbers, as a list of one -/
def tg (s t : Int) (i : Nat) : Int := if i = 0 then s else t
/-- what AloneTicks tells -/
def AlnIs (W : Int) (n : Nat) (f : Nat → Int) (s t d : Int) : Prop :=
  (gtB W n f 1 (tg s t) = false ∧ d = -1) ∨ (gtB W n f 1 (tg s t) = true ∧ DistIs (Stp W n f) s.toNat t.toNat d)
theorem AlnIs.uniq {W : Int} {n : Nat} {f : Nat → Int} {s t d d' : Int} (h : AlnIs W n f s t d) (h' : AlnIs W n f s t d') : d = d' := by
  rcases h with ⟨h1, h2⟩ | ⟨h1, h2⟩ <;> rcases h' with ⟨g1, g2⟩ | ⟨g1, g2⟩
  · rw [h2, g2]
  · rw [h1] at g1; cases g1
  · rw [h1] at g1; cases g1
  · exact h2.uniq g2
/-- the first j of a list -/
def SnL (l : List Int) (j u : Nat) : Prop := ∃ p, p < j ∧ gl l p = (u : Int)
end Go.Proofs.YtbndhhjgjalecaaDoor

/- A table of bools in memory: a row of rows, each a block of its own. -/
namespace Go.Proofs.YtbndhhjgjalecaaDoor
open Go.RowKit

/-- the row of block tb, its rows lie in the blocks behind it -/
structure Tb (w : World) (tb N n : Nat) (D : Nat → Nat → Bool) : Prop where
  lt : tb + N < w.heap.size
  row : ∀ k, k < N → w.cell? ⟨tb, k, none⟩ = some (.slice (some ⟨tb + 1 + k, 0, none⟩) n n)
  c : ∀ k i, k < N → i < n → w.cell? ⟨tb + 1 + k, i, none⟩ = some (.bool (D k i))
  fz : ∀ k i, k < N → w.frozen? ⟨tb + 1 + k, i, none⟩ = false
/-- one of the table's cells is set -/
def tset (D : Nat → Nat → Bool) (k i : Nat) (x : Bool) : Nat → Nat → Bool := fun k' i' => if k' = k ∧ i' = i then x else D k' i'
section
variable {w w' : World} {tb N n : Nat} {D D' : Nat → Nat → Bool}
theorem Tb.on (h : Tb w tb N n D) (k : Below w.heap.size w w') : Tb w' tb N n D :=
  ⟨Nat.lt_of_lt_of_le h.lt k.size, fun j hj => (k.cell (p := ⟨tb, j, none⟩) (by have := h.lt; show tb < _; omega)).trans (h.row j hj),
    fun j i hj hi => (k.cell (p := ⟨tb + 1 + j, i, none⟩) (by have := h.lt; show tb + 1 + j < _; omega)).trans (h.c j i hj hi),
    fun j i hj => (k.frozen (p := ⟨tb + 1 + j, i, none⟩) (by have := h.lt; show tb + 1 + j < _; omega)).trans (h.fz j i hj)⟩
theorem Tb.congr (h : Tb w tb N n D) (e : ∀ k i, k < N → i < n → D k i = D' k i) : Tb w tb N n D' :=
  ⟨h.lt, h.row, fun k i hk hi => by rw [← e k i hk hi]; exact h.c k i hk hi, h.fz⟩
theorem Tb.set (h : Tb w tb N n D) {k i : Nat} (hk : k < N) (hi : i < n) (x : Bool) : Tb (w.setCell ⟨tb + 1 + k, i, none⟩ (.bool x)) tb N n (tset D k i x) := by
  have hO : Only (tb + 1 + k) w (w.setCell ⟨tb + 1 + k, i, none⟩ (.bool x)) := (Only.refl _ w).set i _
  refine ⟨by simpa using h.lt, fun j hj => (cell_same (hO.block tb (by omega)) j).trans (h.row j hj), fun j u hj hu => ?_, fun j u hj => ?_⟩
  · by_cases e : j = k
    · subst e
      by_cases e2 : u = i
      · subst e2
        simp only [tset, and_self, if_true]
        exact World.cell?_setCell_same _ _ _ (h.c j u hj hu)
      · rw [tset, if_neg (by omega)]
        exact (World.cell?_setCell_other _ _ _ _ (by simp <;> omega)).trans (h.c j u hj hu)
    · rw [tset, if_neg (by omega)]
      exact (cell_same (hO.block (tb + 1 + j) (by omega)) u).trans (h.c j u hj hu)
  · simpa using h.fz j u hj
end
theorem infoBl : (Tryd.prog.info? 4).map (fun i => (i.zero, i.size, i.bytes)) = some (some (.bool false), 1, 1) := by kernel_rfl
theorem infoBs : (Tryd.prog.info? 110).map (fun i => (i.zero, i.size, i.bytes)) = some (some (.slice none 0 0), 1, 24) := by kernel_rfl
/-- the table is made: k rows stand -/
structure Tm (w : World) (tb N n k : Nat) : Prop where
  sz : w.heap.size = tb + 1 + k
  rows : w.rowIs tb 110 N (fun i => if i < k then .slice (some ⟨tb + 1 + i, 0, none⟩) n n else .slice none 0 0)
  c : ∀ j i, j < k → i < n → w.cell? ⟨tb + 1 + j, i, none⟩ = some (.bool false)
  fz : ∀ j i, j < k → w.frozen? ⟨tb + 1 + j, i, none⟩ = false
theorem tm_start (w : World) (N n : Nat) : Tm (w.alloc (.cells (madeCells #[.slice none 0 0] N) 110)) w.heap.size N n 0 :=
  ⟨by simp, (World.rowIs_made w (.slice none 0 0) N 110).congr fun i _ => by simp, fun j _ hj => absurd hj (Nat.not_lt_zero _), fun j _ hj => absurd hj (Nat.not_lt_zero _)⟩
theorem Tm.step {w : World} {tb N n k : Nat} (h : Tm w tb N n k) : Tm ((w.alloc (.cells (madeCells #[.bool false] n) 4)).setCell ⟨tb, k, none⟩ (.slice (some ⟨w.heap.size, 0, none⟩) n n)) tb N n (k + 1) := by
  have hr0 : (w.alloc (.cells (madeCells #[.bool false] n) 4)).rowIs w.heap.size 4 n (fun _ => .bool false) := World.rowIs_made w (.bool false) n 4
  have hb : Below w.heap.size w (w.alloc (.cells (madeCells #[.bool false] n) 4)) := (Below.refl _ _).alloc (Nat.le_refl _) _
  have hlt : tb < w.heap.size := by have := h.sz; omega
  have hr1 := rowIs_below h.rows hb hlt
  have hs1 : (w.alloc (.cells (madeCells #[.bool false] n) 4)).heap.size = w.heap.size + 1 := by simp
  generalize w.alloc (.cells (madeCells #[.bool false] n) 4) = w1 at *
  have hO : Only tb w1 (w1.setCell ⟨tb, k, none⟩ (.slice (some ⟨w.heap.size, 0, none⟩) n n)) := (Only.refl _ _).set k _
  have hz := h.sz
  refine ⟨by rw [hO.size, hs1]; omega, (hr1.set k _).congr fun i _ => ?_, fun j i hj hi => (cell_same (hO.block (tb + 1 + j) (by omega)) i).trans ?_, fun j i hj => (frozen_same (hO.block (tb + 1 + j) (by omega)) i).trans ?_⟩
  · by_cases e : i = k
    · subst e
      simp [hz]
    · by_cases e2 : i < k
      · simp [e, e2, Nat.lt_succ_of_lt e2]
      · have : ¬ i < k + 1 := by omega
        simp [e, e2, this]
  · by_cases e : j = k
    · subst e; rw [← hz]; exact hr0.cell hi
    · exact (hb.cell (p := ⟨tb + 1 + j, i, none⟩) (by show tb + 1 + j < _; omega)).trans (h.c j i (by omega) hi)
  · by_cases e : j = k
    · subst e; rw [← hz]; exact hr0.frozen i
    · exact (hb.frozen (p := ⟨tb + 1 + j, i, none⟩) (by show tb + 1 + j < _; omega)).trans (h.fz j i (by omega))
theorem Tm.done {w : World} {tb N n : Nat} (h : Tm w tb N n N) : Tb w tb N n (fun _ _ => false) :=
  ⟨by have := h.sz; omega, fun k hk => by rw [h.rows.cell hk, if_pos hk], fun k i hk hi => h.c k i hk hi, fun k i hk => h.fz k i hk⟩
end Go.Proofs.YtbndhhjgjalecaaDoor
