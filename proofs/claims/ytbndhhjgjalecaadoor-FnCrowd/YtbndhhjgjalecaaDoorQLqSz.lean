/- bits.Mul, laid at this dump in plain words (printed by a script). -/
import Derived.Shelf.Bits.Mul64
import Derived.Ground.Names2Prog
import Derived.Test.YtbndhhjgjalecaaDoorProg
import Derived.Test.YtbndhhjgjalecaaDoorQClVal
import Derived.Test.YtbndhhjgjalecaaDoorQCwBs
import Derived.Laws.IdiomCopy
import Derived.Deep.Cut
namespace Go.Proofs
open Go.Shelf
def Tryd.lays212_ren : Go.Shelf.Ren := ⟨fun | 212 => 83 | 263 => 98 | 264 => 99 | n => n, fun | 46 => 124 | 51 => 141 | 146 => 142 | 53 => 58 | 148 => 144 | n => n, fun | n => n⟩
theorem Tryd.lays212 : Go.Proofs.Lays.n212 Tryd.prog Tryd.lays212_ren := {
  mixed := by kernel_rfl
  f212 := Tryd.func83.trans (congrArg some (by kernel_rfl))
  f263 := Tryd.func98.trans (congrArg some (by kernel_rfl))
  f264 := Tryd.func99.trans (congrArg some (by kernel_rfl))
  t46 := Tryd.underlying124
  a46 := Tryd.isAgg124
  z46 := Tryd.sizeOf124
  v46 := Tryd.zeroValue124
  t51 := Tryd.underlying141
  a51 := Tryd.isAgg141
  z51 := Tryd.sizeOf141
  v51 := Tryd.zeroValue141
  t53 := Tryd.underlying58
  a53 := Tryd.isAgg58
  z53 := Tryd.sizeOf58
  v53 := Tryd.zeroValue58
  t146 := Tryd.underlying142
  a146 := Tryd.isAgg142
  z146 := Tryd.sizeOf142
  v146 := Tryd.zeroValue142
  t148 := Tryd.underlying144
  a148 := Tryd.isAgg144
  z148 := Tryd.sizeOf144
  v148 := Tryd.zeroValue144 }
open Go.RowKit Go.Lib in
theorem Tryd.bits_Mul (x y : Nat) (hx : x < 18446744073709551616) (hy : y < 18446744073709551616) (w : World) :
    Calls Tryd.prog 83 #[.int .u64 x, .int .u64 y] w fun e w' => e = .returned (.tuple #[.int .u64 ((x * y / 18446744073709551616 : Nat) : Int), .int .u64 ((x * y % 18446744073709551616 : Nat) : Int)]) ∧ w' = w := Any.bits_Mul Tryd.lays212 x y hx hy w
end Go.Proofs

/- The contracts of the law's own functions that copy lists of ints, compare them, mark them, and look for the marks. -/
namespace Go.Proofs.YtbndhhjgjalecaaDoor
open Go.RowKit

/-- the row behind a copy's first k stores -/
def rowK (f : Nat → Int) (k : Nat) (i : Nat) : Value := if i < k then .int .i64 (f i) else .int .i64 0
theorem rowK_step (f : Nat → Int) (k : Nat) {w : World} {b n : Nat} (h : w.rowIs b 3 n (rowK f k)) : (w.setCell ⟨b, k, none⟩ (.int .i64 (f k))).rowIs b 3 n (rowK f (k + 1)) := by
  refine (h.set k _).congr fun i _ => ?_
  unfold rowK
  by_cases e : i = k
  · subst e; simp
  · by_cases e2 : i < k
    · simp [e, e2, Nat.lt_succ_of_lt e2]
    · have : ¬ i < k + 1 := by omega
      simp [e, e2, this]

set_option maxHeartbeats 400000 in
theorem copyI_any (a : Option Addr) (len cap : Nat) (f : Nat → Int) (w : World) (hl : len ≤ 1048576) (hc : IL w a len f) :
    Calls Tryd.prog 51 #[.slice a len cap] w fun e w' => ∃ v, e = .returned v ∧ v = .slice (some ⟨w.heap.size, 0, none⟩) len len ∧ w'.rowIs w.heap.size 3 len (iRow f) ∧ Below w.heap.size w w' := by
  have hmk := run_make_row' (P := Tryd.prog) 23 3 (.int .i64 0) 8 Tryd.underlying23 infoI rfl .i64 .i64 len (by omega) (by omega)
  have hr0 : (w.alloc (.cells (madeCells #[.int .i64 0] len) 3)).rowIs w.heap.size 3 len (rowK f 0) := (World.rowIs_made w (.int .i64 0) len 3).congr fun i _ => by simp [rowK]
  have hb0 : Below w.heap.size w (w.alloc (.cells (madeCells #[.int .i64 0] len) 3)) := (Below.refl _ _).alloc (Nat.le_refl _) _
  have HR : Hid ((w.alloc (.cells (madeCells #[.int .i64 0] len) 3)).rowIs w.heap.size 3 len (rowK f 0)) := hr0
  clear hr0
  go_enter Tryd.func51, Tryd.ntmps51
  go_wp2
  go_loopw [4] (fun i wr => ∃ k : Nat, k ≤ len ∧ i = .int .i64 k ∧ wr.rowIs w.heap.size 3 len (rowK f k) ∧ Below w.heap.size w wr) (fun i _ => len - (intOf i).toNat)
  case atStart => exact ⟨0, Nat.zero_le _, rfl, HR.out, hb0⟩
  case round =>
    obtain ⟨k, hk, rfl, hrow, hbel⟩ := hrel
    by_cases hlt : k < len
    · obtain ⟨b, off, rfl, hbw, hcell⟩ := hc (by omega)
      have hck : wr.cell? ⟨b, off + k, none⟩ = some (.int .i64 (f k)) := (hbel.cell (p := ⟨b, off + k, none⟩) hbw).trans (hcell k hlt)
      have ho : wr.cell? ⟨w.heap.size, k, none⟩ = some (.int .i64 0) := by rw [hrow.cell hlt]; simp [rowK]
      have hfz := hrow.frozen k
      have hrow' := rowK_step f k hrow
      have hbel' := hbel.setCell (p := ⟨w.heap.size, k, none⟩) (Nat.le_refl _) (.int .i64 (f k))
      clear hcell hc hmk hb0 HR hrow hbel
      go_wp2
      go_roundw
      case rel => exact ⟨k + 1, by omega, by go_num, hrow', hbel'⟩
      case measure => simp [intOf]; omega
    · have : k = len := by omega
      subst this
      clear hmk hb0 HR
      go_wp2
      go_ret
      exact ⟨_, rfl, rfl, hrow.congr fun i hi => (by simp [rowK, iRow, hi]), hbel⟩

set_option maxHeartbeats 400000 in
theorem eqI_any (a1 a2 : Option Addr) (len c1 c2 : Nat) (f : Nat → Int) (w : World) (hl : len ≤ 1048576) (hc1 : IL w a1 len f) (hc2 : IL w a2 len f) :
    Calls Tryd.prog 52 #[.slice a1 len c1, .slice a2 len c2] w fun e w' => e = .returned (.bool true) ∧ Below w.heap.size w w' := by
  go_enter Tryd.func52, Tryd.ntmps52
  go_wp2
  go_loopw [5] (fun i wr => ∃ k : Nat, k ≤ len ∧ i = .int .i64 k ∧ Below w.heap.size w wr) (fun i _ => len - (intOf i).toNat)
  case atStart => exact ⟨0, Nat.zero_le _, rfl, Below.refl _ _⟩
  case round =>
    obtain ⟨k, hk, rfl, hB⟩ := hrel
    by_cases hlt : k < len
    · obtain ⟨b1, o1, rfl, hb1, hcell1⟩ := hc1 (by omega)
      obtain ⟨b2, o2, rfl, hb2, hcell2⟩ := hc2 (by omega)
      have hk1 : wr.cell? ⟨b1, o1 + k, none⟩ = some (.int .i64 (f k)) := (hB.cell (p := ⟨b1, _, none⟩) hb1).trans (hcell1 k hlt)
      have hk2 : wr.cell? ⟨b2, o2 + k, none⟩ = some (.int .i64 (f k)) := (hB.cell (p := ⟨b2, _, none⟩) hb2).trans (hcell2 k hlt)
      have hlt' : (k : Int) < (len : Int) := by omega
      clear hcell1 hcell2 hc1 hc2
      go_wp2
      go_region
      go_wp2
      go_roundw
      case rel => exact ⟨k + 1, by omega, by go_num, by first | exact hB | exact below_dr hB _ | exact hB.drew⟩
      case measure => simp [intOf]; omega
    · clear hc1 hc2
      go_wp2
      go_ret
      exact ⟨rfl, hB⟩
end Go.Proofs.YtbndhhjgjalecaaDoor

/- A number as often as asked: slices.Repeat over a list of one. -/
namespace Go.Proofs.YtbndhhjgjalecaaDoor
open Go.RowKit

theorem mul_one_any (N : Nat) (hN : N ≤ 1048576) (w : World) : Calls Tryd.prog 83 #[.int .u64 1, .int .u64 (N : Int)] w fun e w' => e = .returned (.tuple #[.int .u64 0, .int .u64 (N : Int)]) ∧ w' = w := by
  have h := Tryd.bits_Mul 1 N (by omega) (by omega) w
  have e1 : 1 * N / 18446744073709551616 = 0 := by omega
  have e2 : 1 * N % 18446744073709551616 = N := by omega
  rw [e1, e2] at h
  exact h
/-- a row whose first k are x -/
theorem ip_fill {w : World} {g N : Nat} {x : Int} {k m : Nat} (h : IP w g N (fun i => if i < k then x else 0)) (hk : k + m ≤ N) :
    IP (w.setCells g k (List.replicate m (.int .i64 x))) g N (fun i => if i < k + m then x else 0) := by
  have hsome : ∀ j, j < (List.replicate m (Value.int .i64 x)).length → (w.cell? ⟨g, k + j, none⟩).isSome = true := fun j hj => by
    have hj' : j < m := by simpa using hj
    rw [h.c (k + j) (by omega)]; rfl
  have hin := World.cell?_setCells_in g (List.replicate m (.int .i64 x)) k w hsome
  have hout := World.cell?_setCells_out g (List.replicate m (.int .i64 x)) k w
  refine ⟨?_, fun i hi => ?_, fun j => by rw [World.frozen?_setCells]; exact h.fz j⟩
  · have : (w.setCells g k (List.replicate m (.int .i64 x))).heap.size = w.heap.size := by
      have key : ∀ (vs : List Value) (o : Nat) (w : World), (w.setCells g o vs).heap.size = w.heap.size := by
        intro vs
        induction vs with
        | nil => intro o w; rfl
        | cons v vs ih => intro o w; simp only [World.setCells]; rw [ih]; simp
      exact key _ _ _
    rw [this]; exact h.lt
  · by_cases h1 : k ≤ i ∧ i < k + m
    · have := hin (i - k) (by simp; omega)
      rw [show k + (i - k) = i by omega] at this
      rw [this]
      simp [h1.2]
    · rw [hout ⟨g, i, none⟩ (fun _ _ => by
        show i < k ∨ k + (List.replicate m (Value.int .i64 x)).length ≤ i
        simp only [List.length_replicate]; omega), h.c i hi]
      by_cases h2 : i < k
      · simp [h2, show i < k + m by omega]
      · have h3 : ¬ i < k + m := by omega
        simp [h2, h3]
theorem below_cells {W w : World} {g o : Nat} {vs : List Value} {B : Nat} (h : Below B W w) (hg : B ≤ g) : Below B W (w.setCells g o vs) := by
  induction vs generalizing o w with
  | nil => exact h
  | cons v vs ih => simp only [World.setCells]; exact ih (h.setCell (p := ⟨g, o, none⟩) hg v)
theorem run_from (N k g : Nat) (hk : k < N) (w : World) : (Instr.slice 23 (.slice (some ⟨g, 0, none⟩) N N) (some (.int .i64 (k : Int))) none none).run Tryd.prog w = .ok (.slice (some ⟨g, k, none⟩) (N - k) (N - k)) w := by
  obtain ⟨i0, hi, hzz⟩ := Option.map_eq_some_iff.1 infoI
  simp only [Prod.mk.injEq] at hzz
  obtain ⟨hz0, hz1, hz2⟩ := hzz
  have h1 : ¬ N = k := by omega
  simp [Instr.slice, Instr.sliceBounds, Instr.sliceBound, run_underlying Tryd.underlying23, sizeOf, typeInfo, hi, hz1, asIntOf, h1, Addr.add_lit]
  intro h9; omega
theorem run_upto (N k g : Nat) (hk : k ≤ N) (w : World) : (Instr.slice 23 (.slice (some ⟨g, 0, none⟩) N N) none (some (.int .i64 (k : Int))) none).run Tryd.prog w = .ok (.slice (some ⟨g, 0, none⟩) k N) w := by
  obtain ⟨i0, hi, hzz⟩ := Option.map_eq_some_iff.1 infoI
  simp only [Prod.mk.injEq] at hzz
  obtain ⟨hz0, hz1, hz2⟩ := hzz
  by_cases h3 : N = 0
  · have : k = 0 := by omega
    subst this; subst h3
    simp [Instr.slice, Instr.sliceBounds, Instr.sliceBound, run_underlying Tryd.underlying23, sizeOf, typeInfo, hi, asIntOf]
  · simp [Instr.slice, Instr.sliceBounds, Instr.sliceBound, run_underlying Tryd.underlying23, sizeOf, typeInfo, hi, asIntOf, h3, Addr.add_lit]
    intro h9; omega
theorem run_fill {w : World} {g N k : Nat} {x : Int} (h : IP w g N (fun i => if i < k then x else 0)) (hkN : k < N) (ty : TypeId) :
    (Builtin.copy_ #[23, 23] ty #[.slice (some ⟨g, k, none⟩) (N - k) (N - k), .slice (some ⟨g, 0, none⟩) k N]).run Tryd.prog w = .ok (.int .i64 ((min k (N - k) : Nat) : Int)) (w.setCells g k (List.replicate (min k (N - k)) (.int .i64 x))) := by
  obtain ⟨i0, hi, hzz⟩ := Option.map_eq_some_iff.1 infoI
  simp only [Prod.mk.injEq] at hzz
  obtain ⟨hz0, hz1, hz2⟩ := hzz
  have hr := run_copy_cells (P := Tryd.prog) w 23 23 ty 3 g k (N - k) (N - k) ⟨g, 0, none⟩ k N (List.replicate (min k (N - k)) (.int .i64 x)) Tryd.underlying23 (by rw [hi]; simp [hz1]) (by simp [Nat.min_def]) (fun j v hj => by
    have h9 := List.getElem?_eq_some_iff.1 hj
    obtain ⟨h8, h7⟩ := h9
    simp at h8 h7
    subst h7
    rw [Addr.add_lit, Nat.zero_add, h.c j (by omega)]
    simp; omega) (fun j hj => by
    have hj' : j < min k (N - k) := by simpa using hj
    rw [h.c (k + j) (by omega)]; rfl) (fun j _ => h.fz _) (fun v hv => by simp at hv; rw [hv.2]; rfl)
  rw [hr]
  simp [goInt]
set_option maxRecDepth 20000 in
set_option maxHeartbeats 4000000 in
theorem repeat_any (x : Int) (N xb : Nat) (w : World) (hN : 1 ≤ N) (hN2 : N ≤ 1048576) (hx : w.cell? ⟨xb, 0, none⟩ = some (.int .i64 x)) (hxb : xb < w.heap.size) :
    Calls Tryd.prog 63 #[.slice (some ⟨xb, 0, none⟩) 1 1, .int .i64 (N : Int)] w fun e w' => e = .returned (.slice (some ⟨w.heap.size, 0, none⟩) N N) ∧ IP w' w.heap.size N (fun _ => x) ∧ Below w.heap.size w w' := by
  have hmk := run_make_row' (P := Tryd.prog) 23 3 (.int .i64 0) 8 Tryd.underlying23 infoI rfl .i64 .i64 N (by omega) (by omega)
  have hr0 : (w.alloc (.cells (madeCells #[.int .i64 0] N) 3)).rowIs w.heap.size 3 N (rowK (fun _ => x) 0) := (World.rowIs_made w (.int .i64 0) N 3).congr fun i _ => by simp [rowK]
  have hip0 : IP (w.alloc (.cells (madeCells #[.int .i64 0] N) 3)) w.heap.size N (fun i => if i < 0 then x else 0) := (row_ip (F := fun _ => 0) ((World.rowIs_made w (.int .i64 0) N 3).congr fun i _ => rfl)).congr fun i _ => by simp
  have hb0 : Below w.heap.size w (w.alloc (.cells (madeCells #[.int .i64 0] N) 3)) := (Below.refl _ _).alloc (Nat.le_refl _) _
  have kM := mul_one_any N hN2
  obtain ⟨i0, hi, hzz⟩ := Option.map_eq_some_iff.1 infoI
  simp only [Prod.mk.injEq] at hzz
  obtain ⟨hz0, hz1, hz2⟩ := hzz
  have x1 : (w.alloc (.cells (madeCells #[.int .i64 0] N) 3)).cell? ⟨xb, 0, none⟩ = some (.int .i64 x) := (hb0.cell (p := ⟨xb, 0, none⟩) hxb).trans hx
  have hcp : (Builtin.copy_ #[23, 23] 3 #[.slice (some ⟨w.heap.size, 0, none⟩) N N, .slice (some ⟨xb, 0, none⟩) 1 1]).run Tryd.prog (w.alloc (.cells (madeCells #[.int .i64 0] N) 3)) = .ok (.int .i64 1) ((w.alloc (.cells (madeCells #[.int .i64 0] N) 3)).setCells w.heap.size 0 (List.replicate 1 (.int .i64 x))) := by
    have hr := run_copy_cells (P := Tryd.prog) (w.alloc (.cells (madeCells #[.int .i64 0] N) 3)) 23 23 3 3 w.heap.size 0 N N ⟨xb, 0, none⟩ 1 1 (List.replicate 1 (.int .i64 x)) Tryd.underlying23 (by rw [hi]; simp [hz1]) (by have : Nat.min 1 N = 1 := Nat.min_eq_left hN; rw [this]; simp) (fun j v hj => by
      match j with
      | 0 => simp at hj; subst hj; rw [Addr.add_lit]; exact x1
      | k + 1 => simp at hj) (fun j hj => by
      have hj' : j < 1 := by simpa using hj
      rw [Nat.zero_add, hip0.c j (by omega)]; rfl) (fun j _ => hip0.fz _) (fun v hv => by simp at hv; rw [hv]; rfl)
    rw [hr]
    simp [goInt]
  have hip1 := ip_fill (m := 1) hip0 (by omega)
  have hb1 := below_cells (o := 0) (vs := List.replicate 1 (.int .i64 x)) hb0 (Nat.le_refl w.heap.size)
  have j0 : ¬ (N : Int) < 0 := by omega
  have j1 : IntKind.u64.wrap (N : Int) = (N : Int) := by rw [IntKind.wrap_u64]; omega
  have j2 : ¬ (9223372036854775807 : Int) < (N : Int) := by omega
  clear hr0 hip0 hb0 x1 hx
  go_enter Tryd.func63, Tryd.ntmps63
  go_wp2_with fail
  refine (kM w).mono ?_
  rintro e w2 ⟨rfl, hw2⟩
  have hs2 := hw2.symm
  clear hw2 kM
  subst hs2
  generalize (w.alloc (.cells (madeCells #[.int .i64 0] N) 3)).setCells w.heap.size 0 (List.replicate 1 (.int .i64 x)) = w3 at *
  go_wp2
  clear hmk hcp
  go_loopw [8] (fun i wr => ∃ k : Nat, 1 ≤ k ∧ k ≤ N ∧ i = .int .i64 (k : Int) ∧ IP wr w.heap.size N (fun i => if i < k then x else 0) ∧ Below w.heap.size w wr) (fun i _ => N - (intOf i).toNat)
  case atStart => exact ⟨1, Nat.le_refl _, hN, rfl, by simpa using hip1, hb1⟩
  case round =>
    obtain ⟨k, hk1, hk, rfl, hip, hB⟩ := hrel
    clear hip1 hb1
    by_cases hlt : k < N
    · have hs1 := run_from N k w.heap.size hlt
      have hs2 := run_upto N k w.heap.size (by omega)
      have hipd : IP wr.drew w.heap.size N (fun i => if i < k then x else 0) := ⟨hip.lt, fun i hi => hip.c i hi, fun j => hip.fz j⟩
      have hcp := run_fill hipd hlt 3
      have hip2 := ip_fill (m := min k (N - k)) hipd (by omega)
      have hB2 := below_cells (o := k) (vs := List.replicate (min k (N - k)) (.int .i64 x)) hB.drew (Nat.le_refl w.heap.size)
      have i0 : (k : Int) < (N : Int) := by omega
      obtain ⟨mk, hmk⟩ : ∃ mk, min k (N - k) = mk := ⟨_, rfl⟩
      have hm1 : 1 ≤ mk := by omega
      have hm2 : k + mk ≤ N := by omega
      rw [hmk] at hcp hip2 hB2
      clear hmk hip hipd hB
      generalize wr.drew.setCells w.heap.size k (List.replicate mk (.int .i64 x)) = w4 at *
      generalize hNk : N - k = Nk at *
      clear hNk
      have HI : Hid (IP w4 w.heap.size N (fun i => if i < k + mk then x else 0)) := hip2
      clear hip2
      go_upto_region 9 with fail
      go_region
      all_goals
        go_wp2
        exact ⟨⟨k + mk, by omega, hm2, by go_num, HI.out, hB2⟩, by simp [intOf]; omega⟩
    · have hke : k = N := by omega
      subst hke
      have HI : Hid (IP wr w.heap.size k (fun _ => x)) := hip.congr fun i hi => by simp [hi]
      clear hip
      go_wp2
      go_ret
      exact ⟨rfl, HI.out, hB⟩
end Go.Proofs.YtbndhhjgjalecaaDoor

/- The law's own copy of a list of ints, with its range. -/
namespace Go.Proofs.YtbndhhjgjalecaaDoor
open Go.RowKit

theorem copyQ (a : Option Addr) (len cap : Nat) (f : Nat → Int) (w : World) (hl : len ≤ 1048576) (hc : IL w a len f) :
    Calls Tryd.prog 51 #[.slice a len cap] w fun e w' => e = .returned (.slice (some ⟨w.heap.size, 0, none⟩) len len) ∧ LQ w' w.heap.size (w.heap.size + 1) (some ⟨w.heap.size, 0, none⟩) len f ∧ w.heap.size < w'.heap.size ∧ Below w.heap.size w w' :=
  (copyI_any a len cap f w hl hc).mono fun e w' ⟨v, h1, h2, h3, h4⟩ => ⟨by rw [h1, h2], lq_of (row_ip h3) (Nat.le_refl _) (Nat.lt_succ_self _), h3.lt, h4⟩
end Go.Proofs.YtbndhhjgjalecaaDoor

/- The law's own size of a list of ints. -/
namespace Go.Proofs.YtbndhhjgjalecaaDoor
open Go.RowKit

set_option maxHeartbeats 400000 in
theorem szI_in (a : Option Addr) (n c : Nat) (l : Int) (w : World) (h0 : (n : Int) ≤ l) (h1 : l ≤ 1048576) :
    Calls Tryd.prog 50 #[.slice a n c, .int .i64 l] w fun e w' => e = .returned (.int .i64 (l - (n : Int))) ∧ w' = w := by
  have j : ¬ l - (n : Int) < 0 := by omega
  go_enter Tryd.func50, Tryd.ntmps50
  go_wp2
  go_ret
  exact ⟨rfl, rfl⟩
set_option maxHeartbeats 400000 in
theorem szI_out (a : Option Addr) (n c : Nat) (l : Int) (w : World) (h0 : l < (n : Int)) (h1 : 0 ≤ l) (hm : n ≤ 9223372036854775807) :
    Calls Tryd.prog 50 #[.slice a n c, .int .i64 l] w fun e w' => e = .returned (.int .i64 (-1)) ∧ w' = w := by
  have j : l - (n : Int) < 0 := by omega
  go_enter Tryd.func50, Tryd.ntmps50
  go_wp2
  go_ret
  exact ⟨rfl, rfl⟩
end Go.Proofs.YtbndhhjgjalecaaDoor
