/- Lists of lists of ints in memory. -/
import Derived.Test.YtapodfkoknmhdaaDoorQLqBase
import Derived.Test.YtapodfkoknmhdaaDoorQInCore
namespace Go.Proofs.YtapodfkoknmhdaaDoor
open Go.RowKit

/-- the rows of a list of lists by their index: the slices, and what lies in them -/
structure LL (w : World) (a : Option Addr) (n : Nat) (A : Nat → Option Addr) (K C : Nat → Nat) (F : Nat → Nat → Int) : Prop where
  out : 0 < n → ∃ b off, a = some ⟨b, off, none⟩ ∧ b < w.heap.size ∧ ∀ i, i < n → w.cell? ⟨b, off + i, none⟩ = some (.slice (A i) (K i) (C i))
  row : ∀ i, i < n → IL w (A i) (K i) (F i)
theorem LL.below {w w' : World} {a : Option Addr} {n : Nat} {A : Nat → Option Addr} {K C : Nat → Nat} {F : Nat → Nat → Int} (h : LL w a n A K C F) (hb : Below w.heap.size w w') : LL w' a n A K C F :=
  ⟨fun h0 => by
    obtain ⟨b, off, rfl, hbw, hc⟩ := h.out h0
    exact ⟨b, off, rfl, Nat.lt_of_lt_of_le hbw hb.size, fun i hi => (hb.cell (p := ⟨b, off + i, none⟩) hbw).trans (hc i hi)⟩, fun i hi => (h.row i hi).below hb⟩
theorem LL.on {w w' : World} {a : Option Addr} {n : Nat} {A : Nat → Option Addr} {K C : Nat → Nat} {F : Nat → Nat → Int} (h : LL w a n A K C F) (hb : Below w.heap.size w w') : LL w' a n A K C F := h.below hb
/-- some rows with these lengths and these numbers -/
def RR (w : World) (a : Option Addr) (n : Nat) (K : Nat → Nat) (F : Nat → Nat → Int) : Prop := ∃ A C, LL w a n A K C F
theorem RR.below {w w' : World} {a : Option Addr} {n : Nat} {K : Nat → Nat} {F : Nat → Nat → Int} (h : RR w a n K F) (hb : Below w.heap.size w w') : RR w' a n K F := let ⟨A, C, x⟩ := h; ⟨A, C, x.below hb⟩
theorem RR.on {w w' : World} {a : Option Addr} {n : Nat} {K : Nat → Nat} {F : Nat → Nat → Int} (h : RR w a n K F) (hb : Below w.heap.size w w') : RR w' a n K F := h.below hb

/-- .. each with room for what it has -/
def RC (w : World) (a : Option Addr) (n : Nat) (K : Nat → Nat) (F : Nat → Nat → Int) : Prop := ∃ A C, LL w a n A K C F ∧ ∀ i, i < n → K i ≤ C i
theorem RC.rr {w : World} {a : Option Addr} {n : Nat} {K : Nat → Nat} {F : Nat → Nat → Int} (h : RC w a n K F) : RR w a n K F := let ⟨A, C, x, _⟩ := h; ⟨A, C, x⟩
theorem RC.below {w w' : World} {a : Option Addr} {n : Nat} {K : Nat → Nat} {F : Nat → Nat → Int} (h : RC w a n K F) (hb : Below w.heap.size w w') : RC w' a n K F := let ⟨A, C, x, y⟩ := h; ⟨A, C, x.below hb, y⟩
theorem rowIs_none {w : World} {b n : Nat} {t : TypeId} {f : Nat → Value} (h : w.rowIs b t n f) {j : Nat} (hj : n ≤ j) : w.cell? ⟨b, j, none⟩ = none := by
  obtain ⟨c, h1, h2, _⟩ := h
  simp [World.cell?, h1, h2, hj]
theorem infoII : (Tryd.prog.info? 41).map (fun i => (i.zero, i.size, i.bytes)) = some (some (.slice none 0 0), 1, 24) := by kernel_rfl
/-- a row of slices that was begun: the first k are set -/
def rwS (A : Nat → Option Addr) (K C : Nat → Nat) (k : Nat) (i : Nat) : Value := if i < k then .slice (A i) (K i) (C i) else .slice none 0 0
theorem rwS_step (A : Nat → Option Addr) (K C : Nat → Nat) (k : Nat) {w : World} {b n : Nat} (x : Option Addr) (l c : Nat) (h : w.rowIs b 41 n (rwS A K C k)) :
    (w.setCell ⟨b, k, none⟩ (.slice x l c)).rowIs b 41 n (rwS (fun i => if i = k then x else A i) (fun i => if i = k then l else K i) (fun i => if i = k then c else C i) (k + 1)) := by
  refine (h.set k _).congr fun i _ => ?_
  unfold rwS
  by_cases e : i = k
  · subst e; simp
  · by_cases e2 : i < k
    · simp [e, e2, Nat.lt_succ_of_lt e2]
    · have : ¬ i < k + 1 := by omega
      simp [e, e2, this]
end Go.Proofs.YtapodfkoknmhdaaDoor

/- Lists of lists of different lengths, each in a block of its own. -/
namespace Go.Proofs.YtapodfkoknmhdaaDoor
open Go.RowKit

/-- how many numbers the first k rows have -/
def sumK (K : Nat → Nat) : Nat → Nat
  | 0 => 0
  | k + 1 => sumK K k + K k
theorem sumK_le (K : Nat → Nat) : ∀ (n i : Nat), i < n → sumK K i + K i ≤ sumK K n := by
  intro n
  induction n with
  | zero => intro i hi; omega
  | succ n ih =>
    intro i hi
    show sumK K i + K i ≤ sumK K n + K n
    by_cases e : i = n
    · subst e; exact Nat.le_refl _
    · have := ih i (by omega); omega
theorem sumK_mono (K : Nat → Nat) (n i : Nat) (h : i ≤ n) : sumK K i ≤ sumK K n := by
  by_cases e : i = n
  · subst e; exact Nat.le_refl _
  · have := sumK_le K n i (by omega); omega

/-- the list lies in block g, row i (where it has any) in a block of its own; all between lo and hi -/
structure Rk (w : World) (lo hi : Nat) (a : Option Addr) (n : Nat) (K : Nat → Nat) (R : Nat → Nat → Int) (g : Nat) (A : Nat → Option Addr) (C : Nat → Nat) : Prop where
  at_ : a = some ⟨g, 0, none⟩
  glo : lo ≤ g
  ghi : g < hi
  glt : g < w.heap.size
  cell : ∀ i, i < n → w.cell? ⟨g, i, none⟩ = some (.slice (A i) (K i) (C i))
  row : ∀ i, i < n → 0 < K i → ∃ B, A i = some ⟨B, 0, none⟩ ∧ lo ≤ B ∧ B < hi ∧ B ≠ g ∧ IP w B (K i) (R i)
  inj : ∀ i j, i < n → j < n → 0 < K i → 0 < K j → i ≠ j → A i ≠ A j
def RK (w : World) (lo hi : Nat) (a : Option Addr) (n : Nat) (K : Nat → Nat) (R : Nat → Nat → Int) : Prop := 0 < n → ∃ g A C, Rk w lo hi a n K R g A C
section
variable {w w' : World} {lo hi lo' hi' : Nat} {a : Option Addr} {n : Nat} {K : Nat → Nat} {R R' : Nat → Nat → Int} {g : Nat} {A : Nat → Option Addr} {C : Nat → Nat}
theorem Rk.of (h : Rk w lo hi a n K R g A C) (hs : w.heap.size ≤ w'.heap.size) (hb : ∀ x, x < w.heap.size → (lo ≤ x ∧ x < hi) → w'.heap[x]? = w.heap[x]?) : Rk w' lo hi a n K R g A C :=
  ⟨h.at_, h.glo, h.ghi, Nat.lt_of_lt_of_le h.glt hs, fun i hi => (cell_same (hb g h.glt ⟨h.glo, h.ghi⟩) i).trans (h.cell i hi), fun i hi h0 => by
    obtain ⟨B, e1, e2, e3, e4, hr⟩ := h.row i hi h0
    have e := hb B hr.lt ⟨e2, e3⟩
    exact ⟨B, e1, e2, e3, e4, Nat.lt_of_lt_of_le hr.lt hs, fun j hj => (cell_same e j).trans (hr.c j hj), fun j => (frozen_same e j).trans (hr.fz j)⟩, h.inj⟩
theorem RK.on (h : RK w lo hi a n K R) (k : Below w.heap.size w w') : RK w' lo hi a n K R := fun h0 => by
  obtain ⟨g, A, C, q⟩ := h h0
  exact ⟨g, A, C, q.of k.size fun x hx _ => k.block x hx⟩
theorem RK.turns (h : RK w lo hi a n K R) (k : Turns lo' hi' w w') (hd : hi ≤ lo' ∨ hi' ≤ lo) : RK w' lo hi a n K R := fun h0 => by
  obtain ⟨g, A, C, q⟩ := h h0
  exact ⟨g, A, C, q.of k.size fun x hx hy => k.block x hx (by omega)⟩
theorem RK.wide (h : RK w lo hi a n K R) (h0 : lo' ≤ lo) (h1 : hi ≤ hi') : RK w lo' hi' a n K R := fun hn => by
  obtain ⟨g, A, C, q⟩ := h hn
  exact ⟨g, A, C, q.at_, Nat.le_trans h0 q.glo, Nat.lt_of_lt_of_le q.ghi h1, q.glt, q.cell, fun i hi hk => by
    obtain ⟨B, e1, e2, e3, e4, hr⟩ := q.row i hi hk
    exact ⟨B, e1, Nat.le_trans h0 e2, Nat.lt_of_lt_of_le e3 h1, e4, hr⟩, q.inj⟩
theorem RK.rr (h : RK w lo hi a n K R) : RR w a n K R := by
  by_cases h0 : 0 < n
  · obtain ⟨g, A, C, q⟩ := h h0
    exact ⟨A, C, fun _ => ⟨g, 0, q.at_, q.glt, fun i hi => by rw [Nat.zero_add]; exact q.cell i hi⟩, fun i hi hk => by
      obtain ⟨B, e1, e2, e3, e4, hr⟩ := q.row i hi hk
      rw [e1]
      exact hr.il hk⟩
  · exact ⟨fun _ => none, fun _ => 0, fun h => absurd h h0, fun i hi => absurd hi (by omega)⟩
theorem rk_none (w : World) (lo hi : Nat) (a : Option Addr) (K : Nat → Nat) (R : Nat → Nat → Int) : RK w lo hi a 0 K R := fun h => absurd h (Nat.lt_irrefl _)
end
end Go.Proofs.YtapodfkoknmhdaaDoor

/- The contracts of the law's own functions that copy lists of ints, compare them, mark them, and look for the marks. -/
namespace Go.Proofs.YtapodfkoknmhdaaDoor
open Go.RowKit

/-- the row behind a copy's first k stores -/
def rowK (f : Nat → Int) (k : Nat) (i : Nat) : Value := if i < k then .int .i64 (f i) else .int .i64 0
theorem rowK_step (f : Nat → Int) (k : Nat) {w : World} {b n : Nat} (h : w.rowIs b 3 n (rowK f k)) : (w.setCell ⟨b, k, none⟩ (.int .i64 (f k))).rowIs b 3 n (rowK f (k + 1)) := by
  refine (h.set k _).congr fun i _ => ?_
  unfold rowK
  by_cases e : i = k
  · subst e; simp
  · by_cases e2 : i < k
    · simp [e, e2, Nat.lt_succ_of_lt e2]
    · have : ¬ i < k + 1 := by omega
      simp [e, e2, this]

set_option maxHeartbeats 400000 in
theorem copyI_any (a : Option Addr) (len cap : Nat) (f : Nat → Int) (w : World) (hl : len ≤ 1048576) (hc : IL w a len f) :
    Calls Tryd.prog 111 #[.slice a len cap] w fun e w' => ∃ v, e = .returned v ∧ v = .slice (some ⟨w.heap.size, 0, none⟩) len len ∧ w'.rowIs w.heap.size 3 len (iRow f) ∧ Below w.heap.size w w' := by
  have hmk := run_make_row' (P := Tryd.prog) 41 3 (.int .i64 0) 8 Tryd.underlying41 infoI rfl .i64 .i64 len (by omega) (by omega)
  have hr0 : (w.alloc (.cells (madeCells #[.int .i64 0] len) 3)).rowIs w.heap.size 3 len (rowK f 0) := (World.rowIs_made w (.int .i64 0) len 3).congr fun i _ => by simp [rowK]
  have hb0 : Below w.heap.size w (w.alloc (.cells (madeCells #[.int .i64 0] len) 3)) := (Below.refl _ _).alloc (Nat.le_refl _) _
  have HR : Hid ((w.alloc (.cells (madeCells #[.int .i64 0] len) 3)).rowIs w.heap.size 3 len (rowK f 0)) := hr0
  clear hr0
  go_enter Tryd.func111, Tryd.ntmps111
  go_wp2
  go_loopw [4] (fun i wr => ∃ k : Nat, k ≤ len ∧ i = .int .i64 k ∧ wr.rowIs w.heap.size 3 len (rowK f k) ∧ Below w.heap.size w wr) (fun i _ => len - (intOf i).toNat)
  case atStart => exact ⟨0, Nat.zero_le _, rfl, HR.out, hb0⟩
  case round =>
    obtain ⟨k, hk, rfl, hrow, hbel⟩ := hrel
    by_cases hlt : k < len
    · obtain ⟨b, off, rfl, hbw, hcell⟩ := hc (by omega)
      have hck : wr.cell? ⟨b, off + k, none⟩ = some (.int .i64 (f k)) := (hbel.cell (p := ⟨b, off + k, none⟩) hbw).trans (hcell k hlt)
      have ho : wr.cell? ⟨w.heap.size, k, none⟩ = some (.int .i64 0) := by rw [hrow.cell hlt]; simp [rowK]
      have hfz := hrow.frozen k
      have hrow' := rowK_step f k hrow
      have hbel' := hbel.setCell (p := ⟨w.heap.size, k, none⟩) (Nat.le_refl _) (.int .i64 (f k))
      clear hcell hc hmk hb0 HR hrow hbel
      go_wp2
      go_roundw
      case rel => exact ⟨k + 1, by omega, by go_num, hrow', hbel'⟩
      case measure => simp [intOf]; omega
    · have : k = len := by omega
      subst this
      clear hmk hb0 HR
      go_wp2
      go_ret
      exact ⟨_, rfl, rfl, hrow.congr fun i hi => (by simp [rowK, iRow, hi]), hbel⟩

set_option maxHeartbeats 400000 in
theorem eqI_any (a1 a2 : Option Addr) (len c1 c2 : Nat) (f : Nat → Int) (w : World) (hl : len ≤ 1048576) (hc1 : IL w a1 len f) (hc2 : IL w a2 len f) :
    Calls Tryd.prog 35 #[.slice a1 len c1, .slice a2 len c2] w fun e w' => e = .returned (.bool true) ∧ Below w.heap.size w w' := by
  go_enter Tryd.func35, Tryd.ntmps35
  go_wp2
  go_loopw [5] (fun i wr => ∃ k : Nat, k ≤ len ∧ i = .int .i64 k ∧ Below w.heap.size w wr) (fun i _ => len - (intOf i).toNat)
  case atStart => exact ⟨0, Nat.zero_le _, rfl, Below.refl _ _⟩
  case round =>
    obtain ⟨k, hk, rfl, hB⟩ := hrel
    by_cases hlt : k < len
    · obtain ⟨b1, o1, rfl, hb1, hcell1⟩ := hc1 (by omega)
      obtain ⟨b2, o2, rfl, hb2, hcell2⟩ := hc2 (by omega)
      have hk1 : wr.cell? ⟨b1, o1 + k, none⟩ = some (.int .i64 (f k)) := (hB.cell (p := ⟨b1, _, none⟩) hb1).trans (hcell1 k hlt)
      have hk2 : wr.cell? ⟨b2, o2 + k, none⟩ = some (.int .i64 (f k)) := (hB.cell (p := ⟨b2, _, none⟩) hb2).trans (hcell2 k hlt)
      have hlt' : (k : Int) < (len : Int) := by omega
      clear hcell1 hcell2 hc1 hc2
      go_wp2
      go_region
      go_wp2
      go_roundw
      case rel => exact ⟨k + 1, by omega, by go_num, by first | exact hB | exact below_dr hB _ | exact hB.drew⟩
      case measure => simp [intOf]; omega
    · clear hc1 hc2
      go_wp2
      go_ret
      exact ⟨rfl, hB⟩
end Go.Proofs.YtapodfkoknmhdaaDoor

/- The law's own copy of a list of ints, with its range. -/
namespace Go.Proofs.YtapodfkoknmhdaaDoor
open Go.RowKit

theorem copyQ (a : Option Addr) (len cap : Nat) (f : Nat → Int) (w : World) (hl : len ≤ 1048576) (hc : IL w a len f) :
    Calls Tryd.prog 111 #[.slice a len cap] w fun e w' => e = .returned (.slice (some ⟨w.heap.size, 0, none⟩) len len) ∧ LQ w' w.heap.size (w.heap.size + 1) (some ⟨w.heap.size, 0, none⟩) len f ∧ w.heap.size < w'.heap.size ∧ Below w.heap.size w w' :=
  (copyI_any a len cap f w hl hc).mono fun e w' ⟨v, h1, h2, h3, h4⟩ => ⟨by rw [h1, h2], lq_of (row_ip h3) (Nat.le_refl _) (Nat.lt_succ_self _), h3.lt, h4⟩
end Go.Proofs.YtapodfkoknmhdaaDoor

/- The law's own size of a list of ints. -/
namespace Go.Proofs.YtapodfkoknmhdaaDoor
open Go.RowKit

set_option maxHeartbeats 400000 in
theorem szI_in (a : Option Addr) (n c : Nat) (l : Int) (w : World) (h0 : (n : Int) ≤ l) (h1 : l ≤ 1048576) :
    Calls Tryd.prog 110 #[.slice a n c, .int .i64 l] w fun e w' => e = .returned (.int .i64 (l - (n : Int))) ∧ w' = w := by
  have j : ¬ l - (n : Int) < 0 := by omega
  go_enter Tryd.func110, Tryd.ntmps110
  go_wp2
  go_ret
  exact ⟨rfl, rfl⟩
set_option maxHeartbeats 400000 in
theorem szI_out (a : Option Addr) (n c : Nat) (l : Int) (w : World) (h0 : l < (n : Int)) (h1 : 0 ≤ l) (hm : n ≤ 9223372036854775807) :
    Calls Tryd.prog 110 #[.slice a n c, .int .i64 l] w fun e w' => e = .returned (.int .i64 (-1)) ∧ w' = w := by
  have j : l - (n : Int) < 0 := by omega
  go_enter Tryd.func110, Tryd.ntmps110
  go_wp2
  go_ret
  exact ⟨rfl, rfl⟩
end Go.Proofs.YtapodfkoknmhdaaDoor
