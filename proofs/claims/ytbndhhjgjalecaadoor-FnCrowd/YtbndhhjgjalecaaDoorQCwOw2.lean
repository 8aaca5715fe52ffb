/- What FnCrowd draws: cells with few walls. -/
import Derived.Test.YtbndhhjgjalecaaDoorQPlCel
import Derived.Test.YtbndhhjgjalecaaDoorQPlTn
import Derived.Test.YtbndhhjgjalecaaDoorQCwGtS
namespace Go.Proofs.YtbndhhjgjalecaaDoor
open Go.RowKit

/-- the answer: cells whose list is the call's own -/
def AnsYd (w w' : World) (e : Ending) (C : Nat) (a : Option Addr) (len cap n : Nat) : Prop := ∃ (W : Int) (a' : Option Addr) (c' : Nat) (N : Nat) (F : Nat → Int) (n' : Nat), e = .returned (cel W a' N c') ∧ N ≤ 300 ∧ LQ w' w.heap.size w'.heap.size a' N F ∧ n' ≤ n + 2100 ∧ Cur w' C a len cap n' ∧ Turns C (C + 1) w w'
set_option maxRecDepth 20000 in
set_option maxHeartbeats 4000000 in
theorem yard_any (C : Nat) (a : Option Addr) (len cap n : Nat) (w : World) (h : Cur w C a len cap n) (hn : n ≤ 700000) :
    Calls Tryd.prog 30 #[.pointer (some ⟨C, 0, none⟩)] w fun e w' => AnsYd w w' e C a len cap n := by
  obtain ⟨i0, hi, hzz⟩ := Option.map_eq_some_iff.1 infoI
  simp only [Prod.mk.injEq] at hzz
  obtain ⟨hz0, hz1, hz2⟩ := hzz
  have hb0 : Below w.heap.size w (w.alloc (celO 0 none 0 0 25)) := (Below.refl _ _).alloc (Nat.le_refl _) _
  have r0 := bx_new (w := w) (celL 0 none 0 0) 25 rfl
  have hC := h.lt
  have hc0 := h.below hb0 hC
  go_enter Tryd.func30, Tryd.ntmps30
  go_wp2_with fail
  refine (one_any C a len cap n 20 _ hc0 (by omega)).mono ?_
  rintro e wA ⟨u, nA, rfl, hnA, hcA, hOA⟩
  have rA := r0.turns (on_turns hOA) (.inr (by omega))
  have hTA : Turns C (C + 1) w wA := (turns_of hb0).trans (on_turns hOA)
  have hsA' : wA.heap.size = w.heap.size + 1 := by rw [hOA.size]; simp
  have hsA : w.heap.size + 1 ≤ wA.heap.size := by omega
  clear hsA'
  clear hb0 r0 h hc0 hOA
  cases u with
  | true =>
    go_wp2_with fail
    refine (cells_any C a len cap nA _ hcA (by omega)).mono ?_
    rintro e w2 ⟨W, a', c', N, F, n2, rfl, hN, hLQ, hn2, hc2, hT2⟩
    have r2 := rA.turns hT2 (.inr (by omega))
    have hT3 := hTA.trans hT2
    have y0 := r2.c0
    have y1 := r2.c1
    have f0 := r2.fz 0
    have f1 := r2.fz 1
    have l2 := r2.lt
    have bE := (r2.set 0 (by simp) (.int .i64 W)).set 1 (by simp) (.slice a' N c')
    have hBE : Below w.heap.size w2 ((w2.setCell ⟨w.heap.size, 0, none⟩ (.int .i64 W)).setCell ⟨w.heap.size, 1, none⟩ (.slice a' N c')) := ((Below.refl w.heap.size w2).setCell (p := ⟨w.heap.size, 0, none⟩) (Nat.le_refl _) _).setCell (p := ⟨w.heap.size, 1, none⟩) (Nat.le_refl _) _
    have hQ := lq_set (lq_set hLQ (b := w.heap.size) (k := 0) (.int .i64 W) (.inl (by omega))) (b := w.heap.size) (k := 1) (.slice a' N c') (.inl (by omega))
    have HQ : Hid (LQ ((w2.setCell ⟨w.heap.size, 0, none⟩ (.int .i64 W)).setCell ⟨w.heap.size, 1, none⟩ (.slice a' N c')) wA.heap.size w2.heap.size a' N F) := hQ
    clear hQ hLQ rA hTA
    go_wp2_with fail
    refine ret_cel Tryd.results30 rfl bE.c0 bE.c1 rfl ?_
    exact ⟨W, a', c', N, F, n2, rfl, hN, HQ.out.wide (by omega) (by simp only [size_set]; omega), by omega, hc2.below hBE (by omega), turns_below hT3 hBE (Nat.le_refl _)⟩
  | false =>
    go_wp2_with fail
    refine (pick_any C a len cap nA 4 _ hcA (by omega)).mono ?_
    rintro e w1 ⟨x, n1, rfl, hx0, hx1, -, hn1, hc1, hO1⟩
    have hx1 := hx1 (by omega)
    have r1 := rA.turns (on_turns hO1) (.inr (by omega))
    have hT1 := hTA.trans (on_turns hO1)
    have hs1 : w.heap.size + 1 ≤ w1.heap.size := by rw [hO1.size]; exact hsA
    have hb2 : Below w1.heap.size w1 (w1.alloc (celO (2 + x) none 0 0 25)) := (Below.refl _ _).alloc (Nat.le_refl _) _
    have m2 := bx_new (w := w1) (celL (2 + x) none 0 0) 25 rfl
    have r2 := r1.on hb2
    have hc2 := hc1.below hb2 hc1.lt
    have hT2 : Turns C (C + 1) w (w1.alloc (celO (2 + x) none 0 0 25)) := hT1.trans (turns_of hb2)
    have hW0 : 2 ≤ 2 + x := by omega
    have hW1 : 2 + x ≤ 5 := by omega
    clear rA hTA hO1 r1 hT1 hb2 hc1 hsA hcA
    go_wp2_with fail
    generalize 2 + x = W at *
    clear hx0 hx1
    refine (pick_any C a len cap n1 4 _ hc2 (by omega)).mono ?_
    rintro e w3 ⟨y, n3, rfl, hy0, hy1, -, hn3, hc3, hO3⟩
    have hy1 := hy1 (by omega)
    have m3 := m2.turns (on_turns hO3) (.inr (by omega))
    have r3 := r2.turns (on_turns hO3) (.inr (by omega))
    have hT3 := hT2.trans (on_turns hO3)
    have hs3 : w3.heap.size = w1.heap.size + 1 := by rw [hO3.size]; simp
    clear m2 r2 hT2 hO3 hc2
    have HG : Hid (GrC w3 w w3 w.heap.size w1.heap.size W C a len cap n 0 none 0 0 (fun _ => 0) n3) := ⟨World.ownsRow_nil _ _ _ _, Nat.le_refl _, by omega, hc3, m3, r3, hT3, Nat.le_refl _⟩
    have hH0 : 1 ≤ 1 + y := by omega
    have hH1 : 1 + y ≤ 4 := by omega
    clear m3 r3 hT3 hc3
    go_wp2
    generalize 1 + y = H at *
    clear hy0 hy1
    have hp0 : 0 ≤ W * H := Int.mul_nonneg (by omega) (by omega)
    have hp1 : W * H ≤ 20 := by
      have h1 := Int.mul_le_mul_of_nonneg_right hW1 (show (0 : Int) ≤ H by omega)
      omega
    go_loopw [5] (fun i wr => ∃ (k : Nat) (sa : Option Addr) (sc : Nat) (N : Nat) (F : Nat → Int) (n' : Nat), (k : Int) ≤ W * H ∧ i = .int .i64 k ∧ GrC wr w w3 w.heap.size w1.heap.size W C a len cap n k sa sc N F n') (fun i _ => 300 - (intOf i).toNat)
    case atStart => exact ⟨0, none, 0, 0, _, n3, by omega, rfl, HG.out⟩
    case round =>
      obtain ⟨k, sa, sc, N, F, n4, hk, rfl, hG⟩ := hrel
      have hle := hG.le
      have hsm := hG.small
      have q0 := hG.box.c0
      clear HG
      by_cases hlt : (k : Int) < W * H
      · have hcur := hG.cur
        go_wp2_with fail
        refine (one_any C a len cap n4 6 _ hcur (by omega)).mono ?_
        rintro e w7 ⟨u, n7, rfl, hn7, hc7, hO7⟩
        obtain ⟨hown7, m7, r7, hT7, hs7⟩ := hG.turn hO7 hC (by omega) (by omega)
        clear hG hcur hO7 q0
        have z1 := m7.c1
        have z2 := m7.fz 1
        have z3 := m7.lt
        cases u with
        | true =>
          go_wp2_with (at_builtin; refine wpList_append_own _ rfl _ _ 23 rfl (w3.heap.size) 3 i0 (.int .i64 0) 1 8 Tryd.underlying23 hi hz0 hz1 hz2 rfl (by decide) _ _ _ rfl (World.ownsRow.alloc hown7 _) ⟨w7.heap.size, 0, none⟩ 1 1 [.int .i64 1] rfl rfl (cell_one_new _ _ _) (fun x hx => by simp at hx; subst hx; rfl) (by unfold maxLen; omega) (by omega) (by simp; omega) ?_; intro v' w6 hown' hgrow3 _; have hown6 := own_put hown'; obtain ⟨ta, tc, rfl⟩ := hown6.shape; have hB6 : Below w3.heap.size w7 w6 := ((Below.refl w3.heap.size w7).alloc hs7 (.cells #[.int .i64 1] 3)).grown hgrow3 (by simp; omega) (fun q hq => (World.ownsRow.lt hown7 q hq).1); have m6 := m7.below hB6 (by omega); have z4 := m6.c1; have z5 := m6.fz 1; have z6 := m6.lt)
          have hG6 := GrC.app (n := n) m7 r7 hT7 hs7 hc7 hB6 hown6 hle (by omega) (Nat.le_refl _) hC (by omega) (by omega)
          exact ⟨⟨k + 1, ta, tc, _, _, n7, by omega, by go_num, hG6⟩, by simp [intOf]; omega⟩
        | false =>
          go_wp2_with (at_builtin; refine wpList_append_own _ rfl _ _ 23 rfl (w3.heap.size) 3 i0 (.int .i64 0) 1 8 Tryd.underlying23 hi hz0 hz1 hz2 rfl (by decide) _ _ _ rfl (World.ownsRow.alloc hown7 _) ⟨w7.heap.size, 0, none⟩ 1 1 [.int .i64 0] rfl rfl (cell_one_new _ _ _) (fun x hx => by simp at hx; subst hx; rfl) (by unfold maxLen; omega) (by omega) (by simp; omega) ?_; intro v' w6 hown' hgrow3 _; have hown6 := own_put hown'; obtain ⟨ta, tc, rfl⟩ := hown6.shape; have hB6 : Below w3.heap.size w7 w6 := ((Below.refl w3.heap.size w7).alloc hs7 (.cells #[.int .i64 0] 3)).grown hgrow3 (by simp; omega) (fun q hq => (World.ownsRow.lt hown7 q hq).1); have m6 := m7.below hB6 (by omega); have z4 := m6.c1; have z5 := m6.fz 1; have z6 := m6.lt)
          have hG6 := GrC.app (n := n) m7 r7 hT7 hs7 hc7 hB6 hown6 hle (by omega) (Nat.le_refl _) hC (by omega) (by omega)
          exact ⟨⟨k + 1, ta, tc, _, _, n7, by omega, by go_num, hG6⟩, by simp [intOf]; omega⟩
      · have hk2 : k ≤ 20 := by omega
        have z0 := hG.box.c0
        have z1 := hG.box.c1
        have y0 := hG.res.c0
        have y1 := hG.res.c1
        have f0 := hG.res.fz 0
        have f1 := hG.res.fz 1
        have l1 := hG.box.lt
        have l2 := hG.res.lt
        have bE := (hG.res.set 0 (by simp) (.int .i64 W)).set 1 (by simp) (.slice sa N sc)
        have hBE : Below w.heap.size wr ((wr.setCell ⟨w.heap.size, 0, none⟩ (.int .i64 W)).setCell ⟨w.heap.size, 1, none⟩ (.slice sa N sc)) := ((Below.refl w.heap.size wr).setCell (p := ⟨w.heap.size, 0, none⟩) (Nat.le_refl _) _).setCell (p := ⟨w.heap.size, 1, none⟩) (Nat.le_refl _) _
        have hQ := lq_set (lq_set hG.own.lq (b := w.heap.size) (k := 0) (.int .i64 W) (.inl (by omega))) (b := w.heap.size) (k := 1) (.slice sa N sc) (.inl (by omega))
        have hsz6 := hG.size
        have hcE := hG.cur.below hBE (by omega)
        have hTE := turns_below hG.turns hBE (Nat.le_refl _)
        have HQ : Hid (LQ ((wr.setCell ⟨w.heap.size, 0, none⟩ (.int .i64 W)).setCell ⟨w.heap.size, 1, none⟩ (.slice sa N sc)) w3.heap.size wr.heap.size sa N F) := hQ
        clear hQ hG
        go_wp2_with fail
        refine ret_cel Tryd.results30 rfl bE.c0 bE.c1 rfl ?_
        exact ⟨W, sa, sc, N, F, n4, rfl, by omega, HQ.out.wide (by omega) (by simp only [size_set]; omega), by omega, hcE, hTE⟩
end Go.Proofs.YtbndhhjgjalecaaDoor

/- A list of pairs of the call's own, which grows. -/
namespace Go.Proofs.YtbndhhjgjalecaaDoor
open Go.RowKit

/-- k pairs, of the call's own -/
def Own2 (w : World) (base : Nat) (v : Value) (k : Nat) (G : Nat → Int) : Prop := w.ownsRow base 34 2 v k (vL G (k * 2))
section
variable {w w' : World} {base : Nat} {v : Value} {k : Nat} {G : Nat → Int}
theorem own2_nil (w : World) (base : Nat) (G : Nat → Int) : Own2 w base (.slice none 0 0) 0 G := World.ownsRow_nil _ _ _ _
theorem Own2.some (h : Own2 w base v k G) (hk : 0 < k) : ∃ g cap, v = .slice (some ⟨g, 0, none⟩) k cap ∧ base ≤ g ∧ IP w g (k * 2) G := by
  have h' := h
  obtain ⟨_, h0 | ⟨g, cap, cur, rfl, h2, h3, _⟩⟩ := h
  · omega
  · have hlt : g < w.heap.size := (Array.getElem?_eq_some_iff.1 h3).1
    refine ⟨g, cap, rfl, h2, hlt, fun i hi => ?_, fun j => World.ownsRow.frozenAt h' j⟩
    rw [World.ownsRow.cellAt h' i hi]; exact vL_get hi
theorem Own2.shape (h : Own2 w base v k G) : ∃ a cap, v = .slice a k cap := by
  obtain ⟨_, ⟨rfl, rfl⟩ | ⟨g, cap, cur, rfl, _⟩⟩ := h
  · exact ⟨_, _, rfl⟩
  · exact ⟨_, _, rfl⟩
theorem Own2.of (h : Own2 w base v k G) (hb : ∀ x, x < w.heap.size → base ≤ x → w'.heap[x]? = w.heap[x]?) : Own2 w' base v k G := by
  obtain ⟨hl, h⟩ := h
  refine ⟨hl, ?_⟩
  rcases h with h | ⟨g, cap, cur, h1, h2, h3, h4⟩
  · exact .inl h
  · exact .inr ⟨g, cap, cur, h1, h2, (hb g (Array.getElem?_eq_some_iff.1 h3).1 h2).trans h3, h4⟩
theorem Own2.on (h : Own2 w base v k G) (b : Below w.heap.size w w') : Own2 w' base v k G := h.of fun x hx _ => b.block x hx
theorem Own2.turns {lo hi : Nat} (h : Own2 w base v k G) (o : Turns lo hi w w') (hb : hi ≤ base) : Own2 w' base v k G := h.of fun x hx hy => o.block x hx (.inr (by omega))
theorem Own2.lq {a : Option Addr} {c : Nat} (h : Own2 w base (.slice a k c) k G) : LQ w base w.heap.size a (k * 2) G := fun h0 => by
  obtain ⟨g, cap, e, h1, hP⟩ := h.some (by omega)
  cases e
  exact ⟨g, rfl, h1, hP.lt, hP⟩
theorem own2_put {x y : Int} (h : w.ownsRow base 34 2 v (k + 1) (vL G (k * 2) ++ [.int .i64 x, .int .i64 y])) : Own2 w base v (k + 1) (put (put G (k * 2) x) (k * 2 + 1) y) := by
  unfold Own2
  rw [show (k + 1) * 2 = k * 2 + 1 + 1 by omega, vL_put, vL_put, List.append_assoc]
  exact h
theorem own2_cap {a : Option Addr} {c : Nat} (h : Own2 w base (.slice a k c) k G) : k ≤ c := by
  obtain ⟨_, ⟨h1, h2⟩ | ⟨g, cap, cur, h1, _, _, h4, _⟩⟩ := h
  · omega
  · cases h1; exact h4
end
theorem infoTp : (Tryd.prog.info? 34).map (fun i => (i.zero, i.size, i.bytes)) = some (some (.agg #[.int .i64 0, .int .i64 0]), 2, 16) := by kernel_rfl
end Go.Proofs.YtbndhhjgjalecaaDoor
