/- A number as often as asked: slices.Repeat over a list of one. -/
import Derived.Test.YtldagjgpapnfpaaQMuShelf
import Derived.Test.YtldagjgpapnfpaaQLqBase
import Derived.Laws.IdiomCopy
import Derived.Deep.Cut
namespace Go.Proofs.Ytldagjgpapnfpaa
open Go.RowKit

theorem mul_one_any (N : Nat) (hN : N ≤ 1048576) (w : World) : Calls Try.prog 72 #[.int .u64 1, .int .u64 (N : Int)] w fun e w' => e = .returned (.tuple #[.int .u64 0, .int .u64 (N : Int)]) ∧ w' = w := by
  have h := Try.bits_Mul 1 N (by omega) (by omega) w
  have e1 : 1 * N / 18446744073709551616 = 0 := by omega
  have e2 : 1 * N % 18446744073709551616 = N := by omega
  rw [e1, e2] at h
  exact h
/-- a row whose first k are x -/
theorem ip_fill {w : World} {g N : Nat} {x : Int} {k m : Nat} (h : IP w g N (fun i => if i < k then x else 0)) (hk : k + m ≤ N) :
    IP (w.setCells g k (List.replicate m (.int .i64 x))) g N (fun i => if i < k + m then x else 0) := by
  have hsome : ∀ j, j < (List.replicate m (Value.int .i64 x)).length → (w.cell? ⟨g, k + j, none⟩).isSome = true := fun j hj => by
    have hj' : j < m := by simpa using hj
    rw [h.c (k + j) (by omega)]; rfl
  have hin := World.cell?_setCells_in g (List.replicate m (.int .i64 x)) k w hsome
  have hout := World.cell?_setCells_out g (List.replicate m (.int .i64 x)) k w
  refine ⟨?_, fun i hi => ?_, fun j => by rw [World.frozen?_setCells]; exact h.fz j⟩
  · have : (w.setCells g k (List.replicate m (.int .i64 x))).heap.size = w.heap.size := by
      have key : ∀ (vs : List Value) (o : Nat) (w : World), (w.setCells g o vs).heap.size = w.heap.size := by
        intro vs
        induction vs with
        | nil => intro o w; rfl
        | cons v vs ih => intro o w; simp only [World.setCells]; rw [ih]; simp
      exact key _ _ _
    rw [this]; exact h.lt
  · by_cases h1 : k ≤ i ∧ i < k + m
    · have := hin (i - k) (by simp; omega)
      rw [show k + (i - k) = i by omega] at this
      rw [this]
      simp [h1.2]
    · rw [hout ⟨g, i, none⟩ (fun _ _ => by
        show i < k ∨ k + (List.replicate m (Value.int .i64 x)).length ≤ i
        simp only [List.length_replicate]; omega), h.c i hi]
      by_cases h2 : i < k
      · simp [h2, show i < k + m by omega]
      · have h3 : ¬ i < k + m := by omega
        simp [h2, h3]
theorem below_cells {W w : World} {g o : Nat} {vs : List Value} {B : Nat} (h : Below B W w) (hg : B ≤ g) : Below B W (w.setCells g o vs) := by
  induction vs generalizing o w with
  | nil => exact h
  | cons v vs ih => simp only [World.setCells]; exact ih (h.setCell (p := ⟨g, o, none⟩) hg v)
theorem run_from (N k g : Nat) (hk : k < N) (w : World) : (Instr.slice 24 (.slice (some ⟨g, 0, none⟩) N N) (some (.int .i64 (k : Int))) none none).run Try.prog w = .ok (.slice (some ⟨g, k, none⟩) (N - k) (N - k)) w := by
  obtain ⟨i0, hi, hzz⟩ := Option.map_eq_some_iff.1 infoI
  simp only [Prod.mk.injEq] at hzz
  obtain ⟨hz0, hz1, hz2⟩ := hzz
  have h1 : ¬ N = k := by omega
  simp [Instr.slice, Instr.sliceBounds, Instr.sliceBound, run_underlying Try.underlying24, sizeOf, typeInfo, hi, hz1, asIntOf, h1, Addr.add_lit]
  intro h9; omega
theorem run_upto (N k g : Nat) (hk : k ≤ N) (w : World) : (Instr.slice 24 (.slice (some ⟨g, 0, none⟩) N N) none (some (.int .i64 (k : Int))) none).run Try.prog w = .ok (.slice (some ⟨g, 0, none⟩) k N) w := by
  obtain ⟨i0, hi, hzz⟩ := Option.map_eq_some_iff.1 infoI
  simp only [Prod.mk.injEq] at hzz
  obtain ⟨hz0, hz1, hz2⟩ := hzz
  by_cases h3 : N = 0
  · have : k = 0 := by omega
    subst this; subst h3
    simp [Instr.slice, Instr.sliceBounds, Instr.sliceBound, run_underlying Try.underlying24, sizeOf, typeInfo, hi, asIntOf]
  · simp [Instr.slice, Instr.sliceBounds, Instr.sliceBound, run_underlying Try.underlying24, sizeOf, typeInfo, hi, asIntOf, h3, Addr.add_lit]
    intro h9; omega
theorem run_fill {w : World} {g N k : Nat} {x : Int} (h : IP w g N (fun i => if i < k then x else 0)) (hkN : k < N) (ty : TypeId) :
    (Builtin.copy_ #[24, 24] ty #[.slice (some ⟨g, k, none⟩) (N - k) (N - k), .slice (some ⟨g, 0, none⟩) k N]).run Try.prog w = .ok (.int .i64 ((min k (N - k) : Nat) : Int)) (w.setCells g k (List.replicate (min k (N - k)) (.int .i64 x))) := by
  obtain ⟨i0, hi, hzz⟩ := Option.map_eq_some_iff.1 infoI
  simp only [Prod.mk.injEq] at hzz
  obtain ⟨hz0, hz1, hz2⟩ := hzz
  have hr := run_copy_cells (P := Try.prog) w 24 24 ty 3 g k (N - k) (N - k) ⟨g, 0, none⟩ k N (List.replicate (min k (N - k)) (.int .i64 x)) Try.underlying24 (by rw [hi]; simp [hz1]) (by simp [Nat.min_def]) (fun j v hj => by
    have h9 := List.getElem?_eq_some_iff.1 hj
    obtain ⟨h8, h7⟩ := h9
    simp at h8 h7
    subst h7
    rw [Addr.add_lit, Nat.zero_add, h.c j (by omega)]
    simp; omega) (fun j hj => by
    have hj' : j < min k (N - k) := by simpa using hj
    rw [h.c (k + j) (by omega)]; rfl) (fun j _ => h.fz _) (fun v hv => by simp at hv; rw [hv.2]; rfl)
  rw [hr]
  simp [goInt]
set_option maxRecDepth 20000 in
set_option maxHeartbeats 4000000 in
theorem repeat_any (x : Int) (N xb : Nat) (w : World) (hN : 1 ≤ N) (hN2 : N ≤ 1048576) (hx : w.cell? ⟨xb, 0, none⟩ = some (.int .i64 x)) (hxb : xb < w.heap.size) :
    Calls Try.prog 61 #[.slice (some ⟨xb, 0, none⟩) 1 1, .int .i64 (N : Int)] w fun e w' => e = .returned (.slice (some ⟨w.heap.size, 0, none⟩) N N) ∧ IP w' w.heap.size N (fun _ => x) ∧ Below w.heap.size w w' := by
  have hmk := run_make_row' (P := Try.prog) 24 3 (.int .i64 0) 8 Try.underlying24 infoI rfl .i64 .i64 N (by omega) (by omega)
  have hip0 : IP (w.alloc (.cells (madeCells #[.int .i64 0] N) 3)) w.heap.size N (fun i => if i < 0 then x else 0) := (row_ip (F := fun _ => 0) ((World.rowIs_made w (.int .i64 0) N 3).congr fun i _ => rfl)).congr fun i _ => by simp
  have hb0 : Below w.heap.size w (w.alloc (.cells (madeCells #[.int .i64 0] N) 3)) := (Below.refl _ _).alloc (Nat.le_refl _) _
  have kM := mul_one_any N hN2
  obtain ⟨i0, hi, hzz⟩ := Option.map_eq_some_iff.1 infoI
  simp only [Prod.mk.injEq] at hzz
  obtain ⟨hz0, hz1, hz2⟩ := hzz
  have x1 : (w.alloc (.cells (madeCells #[.int .i64 0] N) 3)).cell? ⟨xb, 0, none⟩ = some (.int .i64 x) := (hb0.cell (p := ⟨xb, 0, none⟩) hxb).trans hx
  have hcp : (Builtin.copy_ #[24, 24] 3 #[.slice (some ⟨w.heap.size, 0, none⟩) N N, .slice (some ⟨xb, 0, none⟩) 1 1]).run Try.prog (w.alloc (.cells (madeCells #[.int .i64 0] N) 3)) = .ok (.int .i64 1) ((w.alloc (.cells (madeCells #[.int .i64 0] N) 3)).setCells w.heap.size 0 (List.replicate 1 (.int .i64 x))) := by
    have hr := run_copy_cells (P := Try.prog) (w.alloc (.cells (madeCells #[.int .i64 0] N) 3)) 24 24 3 3 w.heap.size 0 N N ⟨xb, 0, none⟩ 1 1 (List.replicate 1 (.int .i64 x)) Try.underlying24 (by rw [hi]; simp [hz1]) (by have : Nat.min 1 N = 1 := Nat.min_eq_left hN; rw [this]; simp) (fun j v hj => by
      match j with
      | 0 => simp at hj; subst hj; rw [Addr.add_lit]; exact x1
      | k + 1 => simp at hj) (fun j hj => by
      have hj' : j < 1 := by simpa using hj
      rw [Nat.zero_add, hip0.c j (by omega)]; rfl) (fun j _ => hip0.fz _) (fun v hv => by simp at hv; rw [hv]; rfl)
    rw [hr]
    simp [goInt]
  have hip1 := ip_fill (m := 1) hip0 (by omega)
  have hb1 := below_cells (o := 0) (vs := List.replicate 1 (.int .i64 x)) hb0 (Nat.le_refl w.heap.size)
  have j0 : ¬ (N : Int) < 0 := by omega
  have j1 : IntKind.u64.wrap (N : Int) = (N : Int) := by rw [IntKind.wrap_u64]; omega
  have j2 : ¬ (9223372036854775807 : Int) < (N : Int) := by omega
  clear hip0 hb0 x1 hx
  go_enter Try.func61, Try.ntmps61
  go_wp2_with fail
  refine (kM w).mono ?_
  rintro e w2 ⟨rfl, hw2⟩
  have hs2 := hw2.symm
  clear hw2 kM
  subst hs2
  generalize (w.alloc (.cells (madeCells #[.int .i64 0] N) 3)).setCells w.heap.size 0 (List.replicate 1 (.int .i64 x)) = w3 at *
  go_wp2
  clear hmk hcp
  go_loopw [8] (fun i wr => ∃ k : Nat, 1 ≤ k ∧ k ≤ N ∧ i = .int .i64 (k : Int) ∧ IP wr w.heap.size N (fun i => if i < k then x else 0) ∧ Below w.heap.size w wr) (fun i _ => N - (intOf i).toNat)
  case atStart => exact ⟨1, Nat.le_refl _, hN, rfl, by simpa using hip1, hb1⟩
  case round =>
    obtain ⟨k, hk1, hk, rfl, hip, hB⟩ := hrel
    clear hip1 hb1
    by_cases hlt : k < N
    · have hs1 := run_from N k w.heap.size hlt
      have hs2 := run_upto N k w.heap.size (by omega)
      have hipd : IP wr.drew w.heap.size N (fun i => if i < k then x else 0) := ⟨hip.lt, fun i hi => hip.c i hi, fun j => hip.fz j⟩
      have hcp := run_fill hipd hlt 3
      have hip2 := ip_fill (m := min k (N - k)) hipd (by omega)
      have hB2 := below_cells (o := k) (vs := List.replicate (min k (N - k)) (.int .i64 x)) hB.drew (Nat.le_refl w.heap.size)
      have i0 : (k : Int) < (N : Int) := by omega
      obtain ⟨mk, hmk⟩ : ∃ mk, min k (N - k) = mk := ⟨_, rfl⟩
      have hm1 : 1 ≤ mk := by omega
      have hm2 : k + mk ≤ N := by omega
      rw [hmk] at hcp hip2 hB2
      clear hmk hip hipd hB
      generalize wr.drew.setCells w.heap.size k (List.replicate mk (.int .i64 x)) = w4 at *
      generalize hNk : N - k = Nk at *
      clear hNk
      have HI : Hid (IP w4 w.heap.size N (fun i => if i < k + mk then x else 0)) := hip2
      clear hip2
      go_upto_region 9 with fail
      go_region
      all_goals
        go_wp2
        exact ⟨⟨k + mk, by omega, hm2, by go_num, HI.out, hB2⟩, by simp [intOf]; omega⟩
    · have hke : k = N := by omega
      subst hke
      have HI : Hid (IP wr w.heap.size k (fun _ => x)) := hip.congr fun i hi => by simp [hi]
      clear hip
      go_wp2
      go_ret
      exact ⟨rfl, HI.out, hB⟩
end Go.Proofs.Ytldagjgpapnfpaa
