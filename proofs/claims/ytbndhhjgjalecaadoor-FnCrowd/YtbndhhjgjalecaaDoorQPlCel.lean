/- What FnPlaces draws: cells. -/
import Derived.Test.YtbndhhjgjalecaaDoorQPlTn
import Derived.Test.YtbndhhjgjalecaaDoorQClVal
import Derived.Sort.Row
namespace Go.Proofs.YtbndhhjgjalecaaDoor
open Go.RowKit

/-- the answer: cells whose list is the call's own -/
def AnsCl (w w' : World) (e : Ending) (C : Nat) (a : Option Addr) (len cap n : Nat) : Prop := ∃ (W : Int) (a' : Option Addr) (c' : Nat) (N : Nat) (F : Nat → Int) (n' : Nat), e = .returned (cel W a' N c') ∧ N ≤ 300 ∧ LQ w' w.heap.size w'.heap.size a' N F ∧ n' ≤ n + 2000 ∧ Cur w' C a len cap n' ∧ Turns C (C + 1) w w'
/-- cells that grow behind the cursor's steps -/
structure GrC (wr w w3 : World) (R M : Nat) (W : Int) (C : Nat) (a : Option Addr) (len cap n k : Nat) (sa : Option Addr) (sc : Nat) (N : Nat) (F : Nat → Int) (n' : Nat) : Prop where
  own : Own wr w3.heap.size (.slice sa N sc) N F
  le : N ≤ k
  small : n' ≤ n + 8 + 4 * k
  cur : Cur wr C a len cap n'
  box : Bx wr M [.int .i64 W, .slice sa N sc]
  res : Bx wr R [.int .i64 0, .slice none 0 0]
  turns : Turns C (C + 1) w wr
  size : w3.heap.size ≤ wr.heap.size
theorem GrC.turn {wr w' w w3 : World} {R M : Nat} {W : Int} {C : Nat} {a : Option Addr} {len cap n k : Nat} {sa : Option Addr} {sc : Nat} {N : Nat} {F : Nat → Int} {n' : Nat} (h : GrC wr w w3 R M W C a len cap n k sa sc N F n') (o : Only C wr w') (hC : C < R) (hRM : R < M) (hM : M < w3.heap.size) :
    Own w' w3.heap.size (.slice sa N sc) N F ∧ Bx w' M [.int .i64 W, .slice sa N sc] ∧ Bx w' R [.int .i64 0, .slice none 0 0] ∧ Turns C (C + 1) w w' ∧ w3.heap.size ≤ w'.heap.size :=
  ⟨own_turns h.own (on_turns o) (by omega), h.box.turns (on_turns o) (.inr (by omega)), h.res.turns (on_turns o) (.inr (by omega)), h.turns.trans (on_turns o), by rw [o.size]; exact h.size⟩
theorem GrC.turn2 {w4 w5 w w3 : World} {R M : Nat} {W : Int} {C : Nat} {sa : Option Addr} {sc : Nat} {N : Nat} {F : Nat → Int} (h : Own w4 w3.heap.size (.slice sa N sc) N F ∧ Bx w4 M [.int .i64 W, .slice sa N sc] ∧ Bx w4 R [.int .i64 0, .slice none 0 0] ∧ Turns C (C + 1) w w4 ∧ w3.heap.size ≤ w4.heap.size) (o : Only C w4 w5) (hC : C < R) (hRM : R < M) (hM : M < w3.heap.size) :
    Own w5 w3.heap.size (.slice sa N sc) N F ∧ Bx w5 M [.int .i64 W, .slice sa N sc] ∧ Bx w5 R [.int .i64 0, .slice none 0 0] ∧ Turns C (C + 1) w w5 ∧ w3.heap.size ≤ w5.heap.size :=
  ⟨own_turns h.1 (on_turns o) (by omega), h.2.1.turns (on_turns o) (.inr (by omega)), h.2.2.1.turns (on_turns o) (.inr (by omega)), h.2.2.2.1.trans (on_turns o), by rw [o.size]; exact h.2.2.2.2⟩
/-- an append and its store -/
theorem GrC.app {w5 w6 w w3 : World} {R M : Nat} {W : Int} {C : Nat} {a : Option Addr} {len cap n k n' : Nat} {sa : Option Addr} {sc : Nat} {N : Nat} {F : Nat → Int} {ta : Option Addr} {tc : Nat} {y : Int} (hM5 : Bx w5 M [.int .i64 W, .slice sa N sc]) (hR5 : Bx w5 R [.int .i64 0, .slice none 0 0]) (hT5 : Turns C (C + 1) w w5) (hs5 : w3.heap.size ≤ w5.heap.size) (hc5 : Cur w5 C a len cap n') (hB6 : Below w3.heap.size w5 w6) (hown : Own w6 w3.heap.size (.slice ta (N + 1) tc) (N + 1) (put F N y))
    (hl : N ≤ k) (hn : n' ≤ n + 8 + 4 * (k + 1)) (hw : w.heap.size ≤ R) (hC : C < w.heap.size) (hRM : R < M) (hM : M < w3.heap.size) :
    GrC (w6.setCell ⟨M, 1, none⟩ (.slice ta (N + 1) tc)) w w3 R M W C a len cap n (k + 1) ta tc (N + 1) (put F N y) n' := by
  have hM6 := hM5.below hB6 hM
  have hR6 := hR5.below hB6 (by omega)
  have hS : Below (C + 1) w6 (w6.setCell ⟨M, 1, none⟩ (.slice ta (N + 1) tc)) := (Below.refl _ _).setCell (p := ⟨M, 1, none⟩) (by simp; omega) _
  have hS2 : Below w.heap.size w6 (w6.setCell ⟨M, 1, none⟩ (.slice ta (N + 1) tc)) := (Below.refl _ _).setCell (p := ⟨M, 1, none⟩) (by simp; omega) _
  exact ⟨hown.only ((Only.refl M w6).set 1 _) hM, by omega, hn, (hc5.below hB6 (by omega)).below hS (by omega), hM6.set 1 (by simp) _, hR6.far _ (by omega), turns_below (turns_below hT5 hB6 (by omega)) hS2 (Nat.le_refl _), by rw [size_set]; exact Nat.le_trans hs5 hB6.size⟩
theorem own_set0 {w : World} {base g cap N : Nat} {F : Nat → Int} (h : Own w base (.slice (some ⟨g, 0, none⟩) N cap) N F) (hl : 0 < N) (y : Int) : Own (w.setCell ⟨g, 0, none⟩ (.int .i64 y)) base (.slice (some ⟨g, 0, none⟩) N cap) N (put F 0 y) := by
  obtain ⟨hx, h0 | ⟨g', cap', cur, h1, h2, h3, h4, h5, h6, h7⟩⟩ := h
  · omega
  · simp only [Value.slice.injEq, Option.some.injEq, Addr.mk.injEq] at h1
    obtain ⟨⟨rfl, -⟩, -, rfl⟩ := h1
    refine ⟨by simp [vL], .inr ⟨g, cap, cur.setIfInBounds 0 (.int .i64 y), rfl, h2, ?_, h4, h5, by simpa using h6, ?_⟩⟩
    · rw [Go.Sort.setCell_eq]
      unfold Go.Sort.mapBlock
      simp [Array.getElem?_modify, h3, Go.Sort.onCells]
    · rw [Nat.mul_one] at h7 ⊢
      have e : (cur.setIfInBounds 0 (Value.int .i64 y)).toList.take N = (cur.toList.take N).set 0 (.int .i64 y) := by
        rw [Array.toList_setIfInBounds, List.take_set]
      rw [e, h7]
      apply List.ext_getElem?
      intro i
      by_cases hi : i < N
      · by_cases e0 : i = 0
        · subst e0
          rw [List.getElem?_set_self (by simpa [vL] using hl), vL_get hl]; simp [put]
        · rw [List.getElem?_set_ne (by omega), vL_get hi, vL_get hi]; simp [put, e0]
      · rw [List.getElem?_eq_none (by simp [vL]; omega), List.getElem?_eq_none (by simp [vL]; omega)]
theorem keep14 {w5 w' : World} {M g N C sc : Nat} {W : Int} {F : Nat → Int} (hM : Bx w5 M [.int .i64 W, .slice (some ⟨g, 0, none⟩) N sc]) (hP : IP w5 g N F) (hN : 0 < N) (hT : Turns C (C + 1) w5 w') (h1 : C < M) (h2 : C < g) :
    w'.cell? ⟨M, 1, none⟩ = some (.slice (some ⟨g, 0, none⟩) N sc) ∧ w'.cell? ⟨g, 0, none⟩ = some (.int .i64 (F 0)) ∧ w'.frozen? ⟨g, 0, none⟩ = false ∧ g < w'.heap.size :=
  ⟨(hM.turns hT (.inr (by omega))).c1, (cell_same (hT.block g hP.lt (.inr (by omega))) 0).trans (hP.c 0 hN), (frozen_same (hT.block g hP.lt (.inr (by omega))) 0).trans (hP.fz 0), Nat.lt_of_lt_of_le hP.lt hT.size⟩
set_option maxRecDepth 20000 in
set_option maxHeartbeats 4000000 in
theorem cells_any (C : Nat) (a : Option Addr) (len cap n : Nat) (w : World) (h : Cur w C a len cap n) (hn : n ≤ 800000) :
    Calls Tryd.prog 56 #[.pointer (some ⟨C, 0, none⟩)] w fun e w' => AnsCl w w' e C a len cap n := by
  obtain ⟨i0, hi, hzz⟩ := Option.map_eq_some_iff.1 infoI
  simp only [Prod.mk.injEq] at hzz
  obtain ⟨hz0, hz1, hz2⟩ := hzz
  have hb0 : Below w.heap.size w (w.alloc (celO 0 none 0 0 25)) := (Below.refl _ _).alloc (Nat.le_refl _) _
  have r0 := bx_new (w := w) (celL 0 none 0 0) 25 rfl
  have hC := h.lt
  have hc0 := h.below hb0 hC
  go_enter Tryd.func56, Tryd.ntmps56
  go_wp2_with fail
  refine (extent_any C a len cap n _ hc0 (by omega)).mono ?_
  rintro e w1 ⟨W, H, n1, rfl, hW0, hW1, hH0, hH1, hn1, hc1, hT1⟩
  have r1 := r0.turns hT1 (.inr (by omega))
  have hT01 : Turns C (C + 1) w w1 := (turns_of hb0).trans hT1
  have hs1 : w.heap.size + 1 ≤ w1.heap.size := by have := hT1.size; simpa using this
  have hb2 : Below w1.heap.size w1 (w1.alloc (celO W none 0 0 25)) := (Below.refl _ _).alloc (Nat.le_refl _) _
  have m2 := bx_new (w := w1) (celL W none 0 0) 25 rfl
  have r2 := r1.on hb2
  have hc2 := hc1.below hb2 hc1.lt
  have hT2 : Turns C (C + 1) w (w1.alloc (celO W none 0 0 25)) := hT01.trans (turns_of hb2)
  clear hb0 r0 h hc0 hT1 r1 hT01 hb2 hc1
  go_wp2_with fail
  refine (pick_any C a len cap n1 5 _ hc2 (by omega)).mono ?_
  rintro e w3 ⟨wl, n3, rfl, hwl0, -, hwl2, hn3, hc3, hO3⟩
  have m3 := m2.turns (on_turns hO3) (.inr (by omega))
  have r3 := r2.turns (on_turns hO3) (.inr (by omega))
  have hT3 := hT2.trans (on_turns hO3)
  have hs3 : w3.heap.size = w1.heap.size + 1 := by rw [hO3.size]; simp
  clear m2 r2 hT2 hO3 hc2
  have hp0 : 0 ≤ W * H := Int.mul_nonneg hW0 hH0
  have hp1 : W * H ≤ 289 := by
    have h1 := Int.mul_le_mul_of_nonneg_right hW1 hH0
    have h2 := Int.mul_le_mul_of_nonneg_left hH1 (show (0 : Int) ≤ 17 by omega)
    omega
  have HG : Hid (GrC w3 w w3 w.heap.size w1.heap.size W C a len cap n 0 none 0 0 (fun _ => 0) n3) := ⟨World.ownsRow_nil _ _ _ _, Nat.le_refl _, by omega, hc3, m3, r3, hT3, Nat.le_refl _⟩
  clear m3 r3 hT3 hc3
  go_wp2
  go_loopw [7] (fun i wr => ∃ (k : Nat) (sa : Option Addr) (sc : Nat) (N : Nat) (F : Nat → Int) (n' : Nat), (k : Int) ≤ W * H ∧ i = .int .i64 k ∧ GrC wr w w3 w.heap.size w1.heap.size W C a len cap n k sa sc N F n') (fun i _ => 300 - (intOf i).toNat)
  case atStart => exact ⟨0, none, 0, 0, _, n3, by omega, rfl, HG.out⟩
  case round =>
    obtain ⟨k, sa, sc, N, F, n4, hk, rfl, hG⟩ := hrel
    have hle := hG.le
    have hsm := hG.small
    clear HG
    by_cases hlt : (k : Int) < W * H
    · have hcur := hG.cur
      go_wp2_with fail
      refine (pick_any C a len cap n4 10 _ hcur (by omega)).mono ?_
      rintro e w5 ⟨x, n5, rfl, hx0, -, hx2, hn5, hc5, hO5⟩
      have hF5 := hG.turn hO5 hC (by omega) (by omega)
      clear hG hcur hO5
      by_cases hz : x < wl
      · go_wp2_with fail
        refine (one_any C a len cap n5 20 _ hc5 (by omega)).mono ?_
        rintro e w7 ⟨u, n7, rfl, hn7, hc7, hO7⟩
        obtain ⟨hown7, m7, r7, hT7, hs7⟩ := GrC.turn2 hF5 hO7 hC (by omega) (by omega)
        clear hF5 hO7 hc5
        have z1 := m7.c1
        have z2 := m7.fz 1
        have z3 := m7.lt
        cases u with
        | true =>
          go_wp2_with (at_builtin; refine wpList_append_own _ rfl _ _ 23 rfl (w3.heap.size) 3 i0 (.int .i64 0) 1 8 Tryd.underlying23 hi hz0 hz1 hz2 rfl (by decide) _ _ _ rfl (World.ownsRow.alloc hown7 _) ⟨w7.heap.size, 0, none⟩ 1 1 [.int .i64 2] rfl rfl (cell_one_new _ _ _) (fun x hx => by simp at hx; subst hx; rfl) (by unfold maxLen; omega) (by omega) (by simp; omega) ?_; intro v' w6 hown' hgrow3 _; have hown6 := own_put hown'; obtain ⟨ta, tc, rfl⟩ := hown6.shape; have hB6 : Below w3.heap.size w7 w6 := ((Below.refl w3.heap.size w7).alloc hs7 (.cells #[.int .i64 2] 3)).grown hgrow3 (by simp; omega) (fun q hq => (World.ownsRow.lt hown7 q hq).1); have m6 := m7.below hB6 (by omega); have z4 := m6.c1; have z5 := m6.fz 1; have z6 := m6.lt)
          have hG6 := GrC.app (n := n) m7 r7 hT7 hs7 hc7 hB6 hown6 hle (by omega) (Nat.le_refl _) hC (by omega) (by omega)
          exact ⟨⟨k + 1, ta, tc, _, _, n7, by omega, by go_num, hG6⟩, by simp [intOf]; omega⟩
        | false =>
          go_wp2_with (at_builtin; refine wpList_append_own _ rfl _ _ 23 rfl (w3.heap.size) 3 i0 (.int .i64 0) 1 8 Tryd.underlying23 hi hz0 hz1 hz2 rfl (by decide) _ _ _ rfl (World.ownsRow.alloc hown7 _) ⟨w7.heap.size, 0, none⟩ 1 1 [.int .i64 1] rfl rfl (cell_one_new _ _ _) (fun x hx => by simp at hx; subst hx; rfl) (by unfold maxLen; omega) (by omega) (by simp; omega) ?_; intro v' w6 hown' hgrow3 _; have hown6 := own_put hown'; obtain ⟨ta, tc, rfl⟩ := hown6.shape; have hB6 : Below w3.heap.size w7 w6 := ((Below.refl w3.heap.size w7).alloc hs7 (.cells #[.int .i64 1] 3)).grown hgrow3 (by simp; omega) (fun q hq => (World.ownsRow.lt hown7 q hq).1); have m6 := m7.below hB6 (by omega); have z4 := m6.c1; have z5 := m6.fz 1; have z6 := m6.lt)
          have hG6 := GrC.app (n := n) m7 r7 hT7 hs7 hc7 hB6 hown6 hle (by omega) (Nat.le_refl _) hC (by omega) (by omega)
          exact ⟨⟨k + 1, ta, tc, _, _, n7, by omega, by go_num, hG6⟩, by simp [intOf]; omega⟩
      · go_wp2_with fail
        refine (one_any C a len cap n5 20 _ hc5 (by omega)).mono ?_
        rintro e w7 ⟨u, n7, rfl, hn7, hc7, hO7⟩
        obtain ⟨hown7, m7, r7, hT7, hs7⟩ := GrC.turn2 hF5 hO7 hC (by omega) (by omega)
        clear hF5 hO7 hc5
        have z1 := m7.c1
        have z2 := m7.fz 1
        have z3 := m7.lt
        cases u with
        | true =>
          go_wp2_with (at_builtin; refine wpList_append_own _ rfl _ _ 23 rfl (w3.heap.size) 3 i0 (.int .i64 0) 1 8 Tryd.underlying23 hi hz0 hz1 hz2 rfl (by decide) _ _ _ rfl (World.ownsRow.alloc hown7 _) ⟨w7.heap.size, 0, none⟩ 1 1 [.int .i64 2] rfl rfl (cell_one_new _ _ _) (fun x hx => by simp at hx; subst hx; rfl) (by unfold maxLen; omega) (by omega) (by simp; omega) ?_; intro v' w6 hown' hgrow3 _; have hown6 := own_put hown'; obtain ⟨ta, tc, rfl⟩ := hown6.shape; have hB6 : Below w3.heap.size w7 w6 := ((Below.refl w3.heap.size w7).alloc hs7 (.cells #[.int .i64 2] 3)).grown hgrow3 (by simp; omega) (fun q hq => (World.ownsRow.lt hown7 q hq).1); have m6 := m7.below hB6 (by omega); have z4 := m6.c1; have z5 := m6.fz 1; have z6 := m6.lt)
          have hG6 := GrC.app (n := n) m7 r7 hT7 hs7 hc7 hB6 hown6 hle (by omega) (Nat.le_refl _) hC (by omega) (by omega)
          exact ⟨⟨k + 1, ta, tc, _, _, n7, by omega, by go_num, hG6⟩, by simp [intOf]; omega⟩
        | false =>
          go_wp2_with (at_builtin; refine wpList_append_own _ rfl _ _ 23 rfl (w3.heap.size) 3 i0 (.int .i64 0) 1 8 Tryd.underlying23 hi hz0 hz1 hz2 rfl (by decide) _ _ _ rfl (World.ownsRow.alloc hown7 _) ⟨w7.heap.size, 0, none⟩ 1 1 [.int .i64 0] rfl rfl (cell_one_new _ _ _) (fun x hx => by simp at hx; subst hx; rfl) (by unfold maxLen; omega) (by omega) (by simp; omega) ?_; intro v' w6 hown' hgrow3 _; have hown6 := own_put hown'; obtain ⟨ta, tc, rfl⟩ := hown6.shape; have hB6 : Below w3.heap.size w7 w6 := ((Below.refl w3.heap.size w7).alloc hs7 (.cells #[.int .i64 0] 3)).grown hgrow3 (by simp; omega) (fun q hq => (World.ownsRow.lt hown7 q hq).1); have m6 := m7.below hB6 (by omega); have z4 := m6.c1; have z5 := m6.fz 1; have z6 := m6.lt)
          have hG6 := GrC.app (n := n) m7 r7 hT7 hs7 hc7 hB6 hown6 hle (by omega) (Nat.le_refl _) hC (by omega) (by omega)
          exact ⟨⟨k + 1, ta, tc, _, _, n7, by omega, by go_num, hG6⟩, by simp [intOf]; omega⟩
    · have hk2 : k ≤ 289 := by omega
      have hcur := hG.cur
      go_wp2_with fail
      refine (one_any C a len cap n4 24 _ hcur (by omega)).mono ?_
      rintro e w5 ⟨u, n5, rfl, hn5, hc5, hO5⟩
      obtain ⟨hown5, m5, r5, hT5, hs5⟩ := hG.turn hO5 hC (by omega) (by omega)
      clear hG hcur hO5
      have q1 := m5.c1
      have q3 := m5.lt
      cases u with
      | false =>
        go_wp2_with fail
        refine (one_any C a len cap n5 30 _ hc5 (by omega)).mono ?_
        rintro e w7 ⟨u7, n7, rfl, hn7, hc7, hO7⟩
        obtain ⟨hown7, m7, r7, hT7, hs7⟩ := GrC.turn2 ⟨hown5, m5, r5, hT5, hs5⟩ hO7 hC (by omega) (by omega)
        have z1 := m7.c1
        have z2 := m7.fz 1
        have z3 := m7.lt
        clear hO7 hown5 m5 r5 hT5 hc5
        cases u7 with
        | true =>
          go_wp2_with (at_builtin; refine wpList_append_own _ rfl _ _ 23 rfl (w3.heap.size) 3 i0 (.int .i64 0) 1 8 Tryd.underlying23 hi hz0 hz1 hz2 rfl (by decide) _ _ _ rfl (World.ownsRow.alloc hown7 _) ⟨w7.heap.size, 0, none⟩ 1 1 [.int .i64 0] rfl rfl (cell_one_new _ _ _) (fun x hx => by simp at hx; subst hx; rfl) (by unfold maxLen; omega) (by omega) (by simp; omega) ?_; intro v' w6 hown' hgrow3 _; have hown6 := own_put hown'; obtain ⟨ta, tc, rfl⟩ := hown6.shape; have hB6 : Below w3.heap.size w7 w6 := ((Below.refl w3.heap.size w7).alloc hs7 (.cells #[.int .i64 0] 3)).grown hgrow3 (by simp; omega) (fun q hq => (World.ownsRow.lt hown7 q hq).1); have m6 := m7.below hB6 (by omega); have z4 := m6.c1; have z5 := m6.fz 1; have z6 := m6.lt; have z7 := m6.c0; have r6 := r7.below hB6 (by omega); have y0 := r6.c0; have y1 := r6.c1; have f0 := r6.fz 0; have f1 := r6.fz 1; have l2 := r6.lt)
          have hG6 := GrC.app (n := n) m7 r7 hT7 hs7 hc7 hB6 hown6 (show N ≤ 400 by omega) (by omega) (Nat.le_refl _) hC (by omega) (by omega)
          have bE := (hG6.res.set 0 (by simp) (.int .i64 W)).set 1 (by simp) (.slice ta (N + 1) tc)
          have hBE : Below w.heap.size (w6.setCell ⟨w1.heap.size, 1, none⟩ (.slice ta (N + 1) tc)) (((w6.setCell ⟨w1.heap.size, 1, none⟩ (.slice ta (N + 1) tc)).setCell ⟨w.heap.size, 0, none⟩ (.int .i64 W)).setCell ⟨w.heap.size, 1, none⟩ (.slice ta (N + 1) tc)) := ((Below.refl _ _).setCell (p := ⟨w.heap.size, 0, none⟩) (by simp) _).setCell (p := ⟨w.heap.size, 1, none⟩) (by simp) _
          have hQ := lq_set (lq_set hG6.own.lq (b := w.heap.size) (k := 0) (.int .i64 W) (.inl (by omega))) (b := w.heap.size) (k := 1) (.slice ta (N + 1) tc) (.inl (by omega))
          have hsz6 := hG6.size
          refine ret_cel Tryd.results56 rfl bE.c0 bE.c1 rfl ?_
          exact ⟨W, ta, tc, N + 1, _, n7, rfl, by omega, hQ.wide (by omega) (by simp only [size_set]; simp only [size_set] at hsz6; omega), by omega, hG6.cur.below hBE (by omega), turns_below hG6.turns hBE (Nat.le_refl _)⟩
        | false =>
          have z1 := m7.c1
          have z0 := m7.c0
          have y0 := r7.c0
          have y1 := r7.c1
          have f0 := r7.fz 0
          have f1 := r7.fz 1
          have l1 := m7.lt
          have l2 := r7.lt
          have bE := (r7.set 0 (by simp) (.int .i64 W)).set 1 (by simp) (.slice sa (N) sc)
          have hBE : Below w.heap.size w7 ((w7.setCell ⟨w.heap.size, 0, none⟩ (.int .i64 W)).setCell ⟨w.heap.size, 1, none⟩ (.slice sa (N) sc)) := ((Below.refl _ _).setCell (p := ⟨w.heap.size, 0, none⟩) (by simp) _).setCell (p := ⟨w.heap.size, 1, none⟩) (by simp) _
          have hQ := lq_set (lq_set hown7.lq (b := w.heap.size) (k := 0) (.int .i64 W) (.inl (by omega))) (b := w.heap.size) (k := 1) (.slice sa (N) sc) (.inl (by omega))
          go_wp2_with fail
          refine ret_cel Tryd.results56 rfl bE.c0 bE.c1 rfl ?_
          exact ⟨W, sa, sc, N, _, n7, rfl, by omega, hQ.wide (by omega) (by simp only [size_set]; omega), by omega, hc7.below hBE (by omega), turns_below hT7 hBE (Nat.le_refl _)⟩
      | true =>
        by_cases h0 : N = 0
        · subst h0
          go_wp2_with fail
          refine (one_any C a len cap n5 30 _ hc5 (by omega)).mono ?_
          rintro e w7 ⟨u7, n7, rfl, hn7, hc7, hO7⟩
          obtain ⟨hown7, m7, r7, hT7, hs7⟩ := GrC.turn2 ⟨hown5, m5, r5, hT5, hs5⟩ hO7 hC (by omega) (by omega)
          have z1 := m7.c1
          have z2 := m7.fz 1
          have z3 := m7.lt
          clear hO7 hown5 m5 r5 hT5 hc5
          cases u7 with
          | true =>
            go_wp2_with (at_builtin; refine wpList_append_own _ rfl _ _ 23 rfl (w3.heap.size) 3 i0 (.int .i64 0) 1 8 Tryd.underlying23 hi hz0 hz1 hz2 rfl (by decide) _ _ _ rfl (World.ownsRow.alloc hown7 _) ⟨w7.heap.size, 0, none⟩ 1 1 [.int .i64 0] rfl rfl (cell_one_new _ _ _) (fun x hx => by simp at hx; subst hx; rfl) (by unfold maxLen; omega) (by omega) (by simp; omega) ?_; intro v' w6 hown' hgrow3 _; have hown6 := own_put hown'; obtain ⟨ta, tc, rfl⟩ := hown6.shape; have hB6 : Below w3.heap.size w7 w6 := ((Below.refl w3.heap.size w7).alloc hs7 (.cells #[.int .i64 0] 3)).grown hgrow3 (by simp; omega) (fun q hq => (World.ownsRow.lt hown7 q hq).1); have m6 := m7.below hB6 (by omega); have z4 := m6.c1; have z5 := m6.fz 1; have z6 := m6.lt; have z7 := m6.c0; have r6 := r7.below hB6 (by omega); have y0 := r6.c0; have y1 := r6.c1; have f0 := r6.fz 0; have f1 := r6.fz 1; have l2 := r6.lt)
            have hG6 := GrC.app (n := n) m7 r7 hT7 hs7 hc7 hB6 hown6 (show 0 ≤ 400 by omega) (by omega) (Nat.le_refl _) hC (by omega) (by omega)
            have bE := (hG6.res.set 0 (by simp) (.int .i64 W)).set 1 (by simp) (.slice ta (0 + 1) tc)
            have hBE : Below w.heap.size (w6.setCell ⟨w1.heap.size, 1, none⟩ (.slice ta (0 + 1) tc)) (((w6.setCell ⟨w1.heap.size, 1, none⟩ (.slice ta (0 + 1) tc)).setCell ⟨w.heap.size, 0, none⟩ (.int .i64 W)).setCell ⟨w.heap.size, 1, none⟩ (.slice ta (0 + 1) tc)) := ((Below.refl _ _).setCell (p := ⟨w.heap.size, 0, none⟩) (by simp) _).setCell (p := ⟨w.heap.size, 1, none⟩) (by simp) _
            have hQ := lq_set (lq_set hG6.own.lq (b := w.heap.size) (k := 0) (.int .i64 W) (.inl (by omega))) (b := w.heap.size) (k := 1) (.slice ta (0 + 1) tc) (.inl (by omega))
            have hsz6 := hG6.size
            refine ret_cel Tryd.results56 rfl bE.c0 bE.c1 rfl ?_
            exact ⟨W, ta, tc, 0 + 1, _, n7, rfl, by omega, hQ.wide (by omega) (by simp only [size_set]; simp only [size_set] at hsz6; omega), by omega, hG6.cur.below hBE (by omega), turns_below hG6.turns hBE (Nat.le_refl _)⟩
          | false =>
            have z1 := m7.c1
            have z0 := m7.c0
            have y0 := r7.c0
            have y1 := r7.c1
            have f0 := r7.fz 0
            have f1 := r7.fz 1
            have l1 := m7.lt
            have l2 := r7.lt
            have bE := (r7.set 0 (by simp) (.int .i64 W)).set 1 (by simp) (.slice sa (0) sc)
            have hBE : Below w.heap.size w7 ((w7.setCell ⟨w.heap.size, 0, none⟩ (.int .i64 W)).setCell ⟨w.heap.size, 1, none⟩ (.slice sa (0) sc)) := ((Below.refl _ _).setCell (p := ⟨w.heap.size, 0, none⟩) (by simp) _).setCell (p := ⟨w.heap.size, 1, none⟩) (by simp) _
            have hQ := lq_set (lq_set hown7.lq (b := w.heap.size) (k := 0) (.int .i64 W) (.inl (by omega))) (b := w.heap.size) (k := 1) (.slice sa (0) sc) (.inl (by omega))
            go_wp2_with fail
            refine ret_cel Tryd.results56 rfl bE.c0 bE.c1 rfl ?_
            exact ⟨W, sa, sc, 0, _, n7, rfl, by omega, hQ.wide (by omega) (by simp only [size_set]; omega), by omega, hc7.below hBE (by omega), turns_below hT7 hBE (Nat.le_refl _)⟩
        · obtain ⟨g, cap5, hv5, hg5, hP5⟩ := hown5.some (by omega)
          simp only [Value.slice.injEq] at hv5
          obtain ⟨rfl, -, rfl⟩ := hv5
          have k0 : (0 : Int) < (N : Int) := by omega
          have t0 : Turns C (C + 1) w5 w5.drew := turns_of (Below.refl _ _).drew
          have hbA : Below w5.drew.heap.size w5.drew (w5.drew.alloc (.cells #[.int .i64 (-1), .int .i64 3] 3)) := (Below.refl _ _).alloc (Nat.le_refl _) _
          have t1 := t0.trans (turns_of (lo := C) (hi := C + 1) hbA)
          have hcA := (hc5.drew).below hbA hc5.lt
          have hLA := lit_ip w5.drew [-1, 3] 3
          have hneA : w5.drew.heap.size ≠ C := Nat.ne_of_gt hc5.lt
          have kA0 := keep14 m5 hP5 (by omega) t0 (by omega) (by omega)
          have kA1 := keep14 m5 hP5 (by omega) t1 (by omega) (by omega)
          have hN0 : 0 < N := by omega
          go_wp2_with fail
          go_region_held3 (fun w' => w'.cell? ⟨w1.heap.size, 1, none⟩ = some (.slice (some ⟨g, 0, none⟩) N sc))
            (first | (exact kA0.1) | (exact kA1.1) | (exact kA8.1) | (exact (World.cell?_setCell_other _ _ _ _ (by simp <;> omega)).trans kA8.1) | (fail))
            (first | (go_at_call 33; refine (among_any C a len cap _ _ 2 _ _ _ hcA (by omega) hLA hneA (by omega) (by omega)).mono ?_; rintro e w8 ⟨y8, n8, -, rfl, hn8, hc8, hO8⟩; have hw8 := t1.trans (on_turns hO8); have kA8 := keep14 m5 hP5 hN0 hw8 (by omega) (by omega); have g1 := kA8.2.1; have g2 := kA8.2.2.1; have g3 := kA8.2.2.2; generalize List.getD [-1, 3] y8 (0 : Int) = y) | (fail))
          have hown8 := own_set0 (own_turns hown5 hw8 (by omega)) hN0 y
          have m8 := (m5.turns hw8 (.inr (by omega))).far (b' := g) (k := 0) (.int .i64 y) (by omega)
          have r8 := (r5.turns hw8 (.inr (by omega))).far (b' := g) (k := 0) (.int .i64 y) (by omega)
          have hBg : Below w3.heap.size w8 (w8.setCell ⟨g, 0, none⟩ (.int .i64 y)) := (Below.refl _ _).setCell (p := ⟨g, 0, none⟩) (by simpa using hg5) _
          have hT8 := turns_below (hT5.trans hw8) hBg (by omega)
          have hcc8 := hc8.below hBg (by omega)
          have hs8 : w3.heap.size ≤ (w8.setCell ⟨g, 0, none⟩ (.int .i64 y)).heap.size := by rw [size_set]; have := hw8.size; omega
          clear hown5 m5 r5 hT5 hc5 hP5 t0 t1 hbA hcA hLA hneA kA0 kA1 kA8 g1 g2 g3 hc8 hO8 hw8 hBg q1 q3
          generalize w8.setCell ⟨g, 0, none⟩ (.int .i64 y) = w9 at *
          have q1 := m8.c1
          have q3 := m8.lt
          go_wp2_with fail
          refine (one_any C a len cap n8 30 _ hcc8 (by omega)).mono ?_
          rintro e w7 ⟨u7, n7, rfl, hn7, hc7, hO7⟩
          obtain ⟨hown7, m7, r7, hT7, hs7⟩ := GrC.turn2 ⟨hown8, m8, r8, hT8, hs8⟩ hO7 hC (by omega) (by omega)
          have z1 := m7.c1
          have z2 := m7.fz 1
          have z3 := m7.lt
          clear hO7 hown8 m8 r8 hT8 hcc8
          cases u7 with
          | true =>
            go_wp2_with (at_builtin; refine wpList_append_own _ rfl _ _ 23 rfl (w3.heap.size) 3 i0 (.int .i64 0) 1 8 Tryd.underlying23 hi hz0 hz1 hz2 rfl (by decide) _ _ _ rfl (World.ownsRow.alloc hown7 _) ⟨w7.heap.size, 0, none⟩ 1 1 [.int .i64 0] rfl rfl (cell_one_new _ _ _) (fun x hx => by simp at hx; subst hx; rfl) (by unfold maxLen; omega) (by omega) (by simp; omega) ?_; intro v' w6 hown' hgrow3 _; have hown6 := own_put hown'; obtain ⟨ta, tc, rfl⟩ := hown6.shape; have hB6 : Below w3.heap.size w7 w6 := ((Below.refl w3.heap.size w7).alloc hs7 (.cells #[.int .i64 0] 3)).grown hgrow3 (by simp; omega) (fun q hq => (World.ownsRow.lt hown7 q hq).1); have m6 := m7.below hB6 (by omega); have z4 := m6.c1; have z5 := m6.fz 1; have z6 := m6.lt; have z7 := m6.c0; have r6 := r7.below hB6 (by omega); have y0 := r6.c0; have y1 := r6.c1; have f0 := r6.fz 0; have f1 := r6.fz 1; have l2 := r6.lt)
            have hG6 := GrC.app (n := n) m7 r7 hT7 hs7 hc7 hB6 hown6 (show N ≤ 400 by omega) (by omega) (Nat.le_refl _) hC (by omega) (by omega)
            have bE := (hG6.res.set 0 (by simp) (.int .i64 W)).set 1 (by simp) (.slice ta (N + 1) tc)
            have hBE : Below w.heap.size (w6.setCell ⟨w1.heap.size, 1, none⟩ (.slice ta (N + 1) tc)) (((w6.setCell ⟨w1.heap.size, 1, none⟩ (.slice ta (N + 1) tc)).setCell ⟨w.heap.size, 0, none⟩ (.int .i64 W)).setCell ⟨w.heap.size, 1, none⟩ (.slice ta (N + 1) tc)) := ((Below.refl _ _).setCell (p := ⟨w.heap.size, 0, none⟩) (by simp) _).setCell (p := ⟨w.heap.size, 1, none⟩) (by simp) _
            have hQ := lq_set (lq_set hG6.own.lq (b := w.heap.size) (k := 0) (.int .i64 W) (.inl (by omega))) (b := w.heap.size) (k := 1) (.slice ta (N + 1) tc) (.inl (by omega))
            have hsz6 := hG6.size
            refine ret_cel Tryd.results56 rfl bE.c0 bE.c1 rfl ?_
            exact ⟨W, ta, tc, N + 1, _, n7, rfl, by omega, hQ.wide (by omega) (by simp only [size_set]; simp only [size_set] at hsz6; omega), by omega, hG6.cur.below hBE (by omega), turns_below hG6.turns hBE (Nat.le_refl _)⟩
          | false =>
            have z1 := m7.c1
            have z0 := m7.c0
            have y0 := r7.c0
            have y1 := r7.c1
            have f0 := r7.fz 0
            have f1 := r7.fz 1
            have l1 := m7.lt
            have l2 := r7.lt
            have bE := (r7.set 0 (by simp) (.int .i64 W)).set 1 (by simp) (.slice (some ⟨g, 0, none⟩) (N) sc)
            have hBE : Below w.heap.size w7 ((w7.setCell ⟨w.heap.size, 0, none⟩ (.int .i64 W)).setCell ⟨w.heap.size, 1, none⟩ (.slice (some ⟨g, 0, none⟩) (N) sc)) := ((Below.refl _ _).setCell (p := ⟨w.heap.size, 0, none⟩) (by simp) _).setCell (p := ⟨w.heap.size, 1, none⟩) (by simp) _
            have hQ := lq_set (lq_set hown7.lq (b := w.heap.size) (k := 0) (.int .i64 W) (.inl (by omega))) (b := w.heap.size) (k := 1) (.slice (some ⟨g, 0, none⟩) (N) sc) (.inl (by omega))
            go_wp2_with fail
            refine ret_cel Tryd.results56 rfl bE.c0 bE.c1 rfl ?_
            exact ⟨W, (some ⟨g, 0, none⟩), sc, N, _, n7, rfl, by omega, hQ.wide (by omega) (by simp only [size_set]; omega), by omega, hc7.below hBE (by omega), turns_below hT7 hBE (Nat.le_refl _)⟩
end Go.Proofs.YtbndhhjgjalecaaDoor
