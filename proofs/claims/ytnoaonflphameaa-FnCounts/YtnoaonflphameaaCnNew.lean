/- New counts as the specification makes them, with the block of the second list known. -/
import Derived.Test.YtnoaonflphameaaRySpecB
import Derived.Sort.Row
namespace Go.Proofs.Ytnoaonflphameaa
open Go.RowKit

/-- a block that is known whole: n cells -/
def Blk (w : World) (g n : Nat) : Prop := ∃ cur, w.heap[g]? = some (.cells cur 3 (0, 0)) ∧ cur.size = n
theorem Blk.same {w w' : World} {g n : Nat} (h : Blk w g n) (e : w'.heap[g]? = w.heap[g]?) : Blk w' g n := by
  obtain ⟨cur, h1, h2⟩ := h
  exact ⟨cur, e.trans h1, h2⟩
theorem Blk.lt {w : World} {g n : Nat} (h : Blk w g n) : g < w.heap.size := by
  obtain ⟨cur, h1, _⟩ := h
  exact (Array.getElem?_eq_some_iff.1 h1).1
theorem Blk.set {w : World} {g n : Nat} (h : Blk w g n) (k : Nat) (v : Value) : Blk (w.setCell ⟨g, k, none⟩ v) g n := by
  obtain ⟨cur, h1, h2⟩ := h
  refine ⟨cur.setIfInBounds k v, ?_, by simpa using h2⟩
  rw [Go.Sort.setCell_eq]
  unfold Go.Sort.mapBlock
  simp [Array.getElem?_modify, h1, Go.Sort.onCells]
theorem own_of {w : World} {base g n : Nat} {F : Nat → Int} (h : IP w g n F) (b : Blk w g n) (hb : base ≤ g) (hn : n ≤ 1000) : Own w base (.slice (some ⟨g, 0, none⟩) n n) n F := by
  obtain ⟨cur, h1, h2⟩ := b
  refine ⟨by simp [vL], .inr ⟨g, n, cur, rfl, hb, h1, Nat.le_refl _, by unfold maxLen; omega, by omega, ?_⟩⟩
  apply List.ext_getElem?
  intro i
  by_cases hi : i < n
  · have c := h.c i hi
    rw [cell_of_row w g i cur _ _ h1] at c
    rw [vL_get hi, List.getElem?_take_of_lt (by omega), Array.getElem?_toList]
    exact c
  · rw [List.getElem?_eq_none (by simp; omega), List.getElem?_eq_none (by simp [vL]; omega)]
def nwN (W H : Int) : Nat := if sidesB W H then (W * H).toNat else 0
def nwW (W H : Int) : Int := if sidesB W H then W else 0
theorem prod_bd {W H : Int} (h : sidesB W H = true) : 1 ≤ W * H ∧ W * H ≤ 256 := by
  obtain ⟨h1, h2, h3, h4⟩ := sidesB_t h
  have := Int.mul_le_mul h2 h4 (by omega) (by omega)
  have := Int.mul_le_mul h1 h3 (by omega) (by omega)
  omega
abbrev madeO (N : Nat) : Obj := .cells (madeCells #[.int .i64 0] N) 3
theorem made_ip (w : World) (b N : Nat) (h : b = w.heap.size) : IP (w.alloc (madeO N)) b N (fun _ => 0) := by
  subst h
  exact row_ip (World.rowIs_made w (.int .i64 0) N 3)
abbrev nwWd (w : World) (o : Obj) (N : Nat) : World := (((w.alloc o).alloc (madeO N)).alloc (madeO N)).drew
theorem nw_bx (w : World) (v0 v1 v2 : Value) (N : Nat) : Bx (nwWd w (.cells #[v0, v1, v2] 25) N) w.heap.size [v0, v1, v2] :=
  ((((bx_new (w := w) [v0, v1, v2] 25 rfl).alloc (madeO N)).alloc (madeO N)).on (Below.refl _ _).drew)
theorem nw_c0 (w : World) (v0 v1 v2 : Value) (N : Nat) : (nwWd w (.cells #[v0, v1, v2] 25) N).cell? ⟨w.heap.size, 0, none⟩ = some v0 := (nw_bx w v0 v1 v2 N).c0
theorem nw_c1 (w : World) (v0 v1 v2 : Value) (N : Nat) : (nwWd w (.cells #[v0, v1, v2] 25) N).cell? ⟨w.heap.size, 1, none⟩ = some v1 := (nw_bx w v0 v1 v2 N).c1
theorem nw_c2 (w : World) (v0 v1 v2 : Value) (N : Nat) : (nwWd w (.cells #[v0, v1, v2] 25) N).cell? ⟨w.heap.size, 2, none⟩ = some v2 := (nw_bx w v0 v1 v2 N).c2
theorem nw_ip1 (w : World) (o : Obj) (N : Nat) : IP (nwWd w o N) (w.heap.size + 1) N (fun _ => 0) := by
  have h := made_ip (w.alloc o) (w.heap.size + 1) N (by simp)
  exact h.below (((Below.refl _ _).alloc (Nat.le_refl _) (madeO N)).drew) h.lt
theorem nw_ip2 (w : World) (o : Obj) (N : Nat) : IP (nwWd w o N) (w.heap.size + 1 + 1) N (fun _ => 0) := by
  have h := made_ip ((w.alloc o).alloc (madeO N)) (w.heap.size + 1 + 1) N (by simp)
  exact h.below (Below.refl _ _).drew h.lt
theorem nw_below (w : World) (o : Obj) (N : Nat) : Below w.heap.size w (nwWd w o N) :=
  ((((Below.refl _ _).alloc (Nat.le_refl _) o).alloc (by simp) (madeO N)).alloc (by simp <;> omega) (madeO N)).drew
theorem nw_blk1 (w : World) (o : Obj) (N : Nat) : Blk (nwWd w o N) (w.heap.size + 1) N := by
  refine ⟨madeCells #[.int .i64 0] N, ?_, by simp [madeCells]⟩
  show (((w.heap.push o).push (madeO N)).push (madeO N))[w.heap.size + 1]? = _
  rw [Array.getElem?_push, if_neg (by simp), Array.getElem?_push, if_pos (by simp)]
theorem nw_blk2 (w : World) (o : Obj) (N : Nat) : Blk (nwWd w o N) (w.heap.size + 1 + 1) N := by
  refine ⟨madeCells #[.int .i64 0] N, ?_, by simp [madeCells]⟩
  show (((w.heap.push o).push (madeO N)).push (madeO N))[w.heap.size + 1 + 1]? = _
  rw [Array.getElem?_push, if_pos (by simp)]
def AnsN (w w' : World) (e : Ending) (V : Int) (N : Nat) : Prop := (N = 0 ∧ V = 0 ∧ e = .returned (cnt 0 none 0 0 none 0 0)) ∨ ∃ ga gb, e = .returned (cnt V (some ⟨ga, 0, none⟩) N N (some ⟨gb, 0, none⟩) N N) ∧ w.heap.size ≤ ga ∧ w.heap.size ≤ gb ∧ ga ≠ gb ∧ IP w' ga N (fun _ => 0) ∧ IP w' gb N (fun _ => 0) ∧ Blk w' gb N ∧ 1 ≤ N
set_option maxHeartbeats 2000000 in
theorem specNewO (W H : Int) (w : World) :
    Calls Try.prog 60 #[.int .i64 W, .int .i64 H] w fun e w' => AnsN w w' e (nwW W H) (nwN W H) ∧ Below w.heap.size w w' := by
  cases hs : sidesB W H with
  | false =>
    have hs2 : ¬ (1 ≤ W ∧ W ≤ 16 ∧ 1 ≤ H ∧ H ≤ 16) := fun h => by rw [sidesB_mk h] at hs; cases hs
    have e1 : nwN W H = 0 := by simp [nwN, hs]
    have e2 : nwW W H = 0 := by simp [nwW, hs]
    rw [e1, e2]
    have hBE : Below w.heap.size w (w.alloc (cntO 0 none 0 0 none 0 0 25)) := (Below.refl _ _).alloc (Nat.le_refl _) _
    by_cases k1 : W < 1
    · go_enter Try.func60, Try.ntmps60
      go_wp2
      go_returns
      exact ⟨.inl ⟨rfl, rfl, rfl⟩, hBE⟩
    by_cases k2 : 16 < W
    · go_enter Try.func60, Try.ntmps60
      go_wp2
      go_returns
      exact ⟨.inl ⟨rfl, rfl, rfl⟩, hBE⟩
    by_cases k3 : H < 1
    · go_enter Try.func60, Try.ntmps60
      go_wp2
      go_returns
      exact ⟨.inl ⟨rfl, rfl, rfl⟩, hBE⟩
    have k4 : 16 < H := by omega
    go_enter Try.func60, Try.ntmps60
    go_wp2
    go_returns
    exact ⟨.inl ⟨rfl, rfl, rfl⟩, hBE⟩
  | true =>
    obtain ⟨h1, h2, h3, h4⟩ := sidesB_t hs
    have e1 : nwN W H = (W * H).toNat := by simp [nwN, hs]
    have e2 : nwW W H = W := by simp [nwW, hs]
    have hp := prod_bd hs
    obtain ⟨N, hN⟩ := Int.eq_ofNat_of_zero_le (show 0 ≤ W * H by omega)
    rw [e1, e2, hN, Int.toNat_natCast]
    have hmk := run_make_row' (P := Try.prog) 23 3 (.int .i64 0) 8 Try.underlying23 infoI rfl .i64 .i64 N (by omega) (by omega)
    rw [← hN] at hmk
    have HN : Hid (W * H = (N : Int)) := hN
    have hN1 : 1 ≤ N := by omega
    clear hN e1 e2
    have k1 : ¬ W < 1 := by omega
    have k2 : ¬ 16 < W := by omega
    have k3 : ¬ H < 1 := by omega
    have k4 : ¬ 16 < H := by omega
    clear h1 h2 h3 h4
    go_enter Try.func60, Try.ntmps60
    go_wp2_with fail
    go_region
    all_goals go_wp2
    all_goals
      first
        | (refine ret_cnt Try.results60 rfl (nw_c0 w _ _ _ N) (nw_c1 w _ _ _ N) (nw_c2 w _ _ _ N) rfl ?_
           exact ⟨.inr ⟨w.heap.size + 1, w.heap.size + 1 + 1, rfl, by omega, by omega, by omega, nw_ip1 w _ N, nw_ip2 w _ N, nw_blk2 w _ N, by omega⟩, nw_below w _ N⟩)
        | (refine ret_cnt Try.results60 rfl (nw_c0 w _ _ _ N) (nw_c1 w _ _ _ N) (nw_c2 w _ _ _ N) rfl ?_
           exact ⟨.inr ⟨w.heap.size + 1 + 1, w.heap.size + 1, rfl, by omega, by omega, by omega, nw_ip2 w _ N, nw_ip1 w _ N, nw_blk1 w _ N, by omega⟩, nw_below w _ N⟩)
theorem nwN_le (W H : Int) : nwN W H ≤ 256 := by
  unfold nwN
  split
  · next h => have := prod_bd h; omega
  · omega
end Go.Proofs.Ytnoaonflphameaa
