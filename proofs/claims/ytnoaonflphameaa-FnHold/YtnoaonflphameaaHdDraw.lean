/- What FnPlant and FnHold draw: a loop, numbers, a list of numbers. -/
import Derived.Test.YtnoaonflphameaaPlExt
import Derived.Test.YtnoaonflphameaaHdGoodH
import Derived.Deep.CutRange
namespace Go.Proofs.Ytnoaonflphameaa
open Go.RowKit

theorem turns_below {lo hi B : Nat} {w w' w'' : World} (h : Turns lo hi w w') (k : Below B w' w'') (hB : w.heap.size ≤ B) : Turns lo hi w w'' :=
  ⟨k.os.trans h.os, k.tape.trans h.tape, k.output.trans h.output, Nat.le_trans h.size k.size, fun j hj hd => (k.block j (by omega)).trans (h.block j hj hd)⟩
def AnsI (w w' : World) (e : Ending) (C : Nat) (a : Option Addr) (len cap n d : Nat) : Prop := ∃ (v : Int) (n' : Nat), e = .returned (.int .i64 v) ∧ n' ≤ n + d ∧ Cur w' C a len cap n' ∧ Turns C (C + 1) w w'
def AnsLp (w w' : World) (e : Ending) (C : Nat) (a : Option Addr) (len cap n : Nat) : Prop := ∃ (l : Lp) (n' : Nat), e = .returned (lv l) ∧ n' ≤ n + 20 ∧ Cur w' C a len cap n' ∧ Turns C (C + 1) w w'

set_option maxHeartbeats 2000000 in
theorem level_any (C : Nat) (a : Option Addr) (len cap n : Nat) (w : World) (h : Cur w C a len cap n) (hn : n ≤ 900000) :
    Calls Try.prog 69 #[.pointer (some ⟨C, 0, none⟩)] w fun e w' => AnsI w w' e C a len cap n 4 := by
  go_enter Try.func69, Try.ntmps69
  go_wp2_with fail
  refine (one_any C a len cap n _ _ h (by omega)).mono ?_
  rintro e w1 ⟨q, n1, rfl, hn1, hc1, hO1⟩
  have hB1 := on_turns hO1
  clear h hO1
  cases q with
  | true =>
    have hL := lit_ip w1 [1000000, -1000000, 1000001] 3
    have hA := (Below.refl w1.heap.size w1).alloc (Nat.le_refl _) (.cells #[.int .i64 1000000, .int .i64 (-1000000), .int .i64 1000001] 3)
    have hcx := hc1.below hA hc1.lt
    have hBx := hB1.trans (turns_of hA)
    have hne : w1.heap.size ≠ C := Nat.ne_of_gt hc1.lt
    clear hA hc1 hB1
    go_wp2_with fail
    refine (among_any C a len cap _ _ 3 _ _ _ hcx (by omega) hL hne (by omega) (by omega)).mono ?_
    rintro e w2 ⟨y2, n2, -, rfl, hn2, hc2, hO2⟩
    have hB2 := hBx.trans (on_turns hO2)
    clear hcx hBx hO2 hL hne
    generalize List.getD [1000000, -1000000, 1000001] y2 (0 : Int) = p1
    go_wp2
    go_ret
    exact ⟨_, _, rfl, by omega, hc2, hB2⟩
  | false =>
    go_wp2_with fail
    refine (pick_any C a len cap _ 61 _ hc1 (by omega)).mono ?_
    rintro e w2 ⟨p2, n2, rfl, h20, h21, -, hn2, hc2, hO2⟩
    have h22 := h21 (by omega)
    have hB2 := hB1.trans (on_turns hO2)
    clear hc1 hB1 hO2 h21
    go_wp2
    go_ret
    exact ⟨_, _, rfl, by omega, hc2, hB2⟩

theorem lseven {w : World} {b : Nat} {l : Lp} (h : Bx w b (lvs l)) : w.cell? ⟨b, 0, none⟩ = some (.int .i64 l.P) ∧ w.cell? ⟨b, 1, none⟩ = some (.int .i64 l.I) ∧ w.cell? ⟨b, 2, none⟩ = some (.int .i64 l.D) ∧ w.cell? ⟨b, 3, none⟩ = some (.int .i64 l.S) ∧ w.cell? ⟨b, 4, none⟩ = some (.int .i64 l.M) ∧ w.cell? ⟨b, 5, none⟩ = some (.int .i64 l.W) ∧ w.cell? ⟨b, 6, none⟩ = some (.int .i64 l.L) := loop_at h
theorem Bx.set7 {w : World} {b : Nat} {g : Lp} (c : Bx w b (lvs g)) (l : Lp) : Bx (((((((w.setCell ⟨b, 0, none⟩ (.int .i64 l.P)).setCell ⟨b, 1, none⟩ (.int .i64 l.I)).setCell ⟨b, 2, none⟩ (.int .i64 l.D)).setCell ⟨b, 3, none⟩ (.int .i64 l.S)).setCell ⟨b, 4, none⟩ (.int .i64 l.M)).setCell ⟨b, 5, none⟩ (.int .i64 l.W)).setCell ⟨b, 6, none⟩ (.int .i64 l.L)) b (lvs l) :=
  ((((((c.set 0 (by simp) _).set 1 (by simp) _).set 2 (by simp) _).set 3 (by simp) _).set 4 (by simp) _).set 5 (by simp) _).set 6 (by simp) _
theorem below_seven {B b : Nat} {w w1 : World} (h : Below B w w1) (hb : B ≤ b) (x y z u v r s : Value) : Below B w (((((((w1.setCell ⟨b, 0, none⟩ x).setCell ⟨b, 1, none⟩ y).setCell ⟨b, 2, none⟩ z).setCell ⟨b, 3, none⟩ u).setCell ⟨b, 4, none⟩ v).setCell ⟨b, 5, none⟩ r).setCell ⟨b, 6, none⟩ s) :=
  ((((((h.setCell (p := ⟨b, 0, none⟩) hb _).setCell (p := ⟨b, 1, none⟩) hb _).setCell (p := ⟨b, 2, none⟩) hb _).setCell (p := ⟨b, 3, none⟩) hb _).setCell (p := ⟨b, 4, none⟩) hb _).setCell (p := ⟨b, 5, none⟩) hb _).setCell (p := ⟨b, 6, none⟩) hb _
theorem ret_loop {fn : Func} {t : Tmp} {R : Ending → World → Prop} {a : Act} {w : World} {b : Nat} {l : Lp} (e : fn.results = #[.cell t 34]) (hp : a.tmps.getD t undef = .pointer (some ⟨b, 0, none⟩)) (c : Bx w b (lvs l)) (hd : a.defers = [])
    (hR : R (.returned (lv l)) w) : bodyPost Try.prog fn R .ret a w := by
  refine bodyPost_ret ?_ hd hR
  obtain ⟨x0, x1, x2, x3, x4, x5, x6⟩ := loop_at c
  have hp' : a.tmps[t]?.getD undef = .pointer (some ⟨b, 0, none⟩) := by simpa using hp
  simp [results, e, hp', asAddr, loadVar, go_sem, x0, x1, x2, x3, x4, x5, x6]

set_option maxHeartbeats 8000000 in
set_option maxRecDepth 20000 in
theorem loop_any (C : Nat) (a : Option Addr) (len cap n : Nat) (w : World) (h : Cur w C a len cap n) (hn : n ≤ 900000) :
    Calls Try.prog 40 #[.pointer (some ⟨C, 0, none⟩)] w fun e w' => AnsLp w w' e C a len cap n := by
  have hA := (Below.refl w.heap.size w).alloc (Nat.le_refl _) (lvo lp0)
  have r0 := bx_new (b := w.heap.size) (w := w) (lvs lp0) 34 rfl
  have hc0 := h.below hA h.lt
  have hT0 : Turns C (C + 1) w (w.alloc (lvo lp0)) := turns_of hA
  have hC := h.lt
  have hs0 : w.heap.size + 1 ≤ (w.alloc (lvo lp0)).heap.size := by simp
  clear hA h
  go_enter Try.func40, Try.ntmps40
  go_upto_region 1 with fail
  generalize w.alloc (lvo lp0) = w0 at r0 hc0 hT0 hs0 ⊢
  go_wp2_with fail
  refine (pick_any C a len cap n 10 _ hc0 (by omega)).mono ?_
  rintro e w1 ⟨p1, n1, rfl, g1, -, q1, hn1, hc1, hO⟩
  have hT1 := hT0.trans (on_turns hO)
  have r1 := r0.turns (on_turns hO) (.inr (by omega))
  have hs1 : w.heap.size + 1 ≤ w1.heap.size := by rw [hO.size]; exact hs0
  clear hc0 hT0 r0 hs0 hO
  go_wp2_with fail
  refine (pick_any C a len cap n1 4 _ hc1 (by omega)).mono ?_
  rintro e w2 ⟨p2, n2, rfl, g2, -, q2, hn2, hc2, hO⟩
  have hT2 := hT1.trans (on_turns hO)
  have r2 := r1.turns (on_turns hO) (.inr (by omega))
  have hs2 : w.heap.size + 1 ≤ w2.heap.size := by rw [hO.size]; exact hs1
  clear hc1 hT1 r1 hs1 hO
  go_wp2_with fail
  refine (pick_any C a len cap n2 4 _ hc2 (by omega)).mono ?_
  rintro e w3 ⟨p3, n3, rfl, g3, -, q3, hn3, hc3, hO⟩
  have hT3 := hT2.trans (on_turns hO)
  have r3 := r2.turns (on_turns hO) (.inr (by omega))
  have hs3 : w.heap.size + 1 ≤ w3.heap.size := by rw [hO.size]; exact hs2
  clear hc2 hT2 r2 hs2 hO
  go_wp2_with fail
  refine (pick_any C a len cap n3 5 _ hc3 (by omega)).mono ?_
  rintro e w4 ⟨p4, n4, rfl, g4, -, q4, hn4, hc4, hO⟩
  have hT4 := hT3.trans (on_turns hO)
  have r4 := r3.turns (on_turns hO) (.inr (by omega))
  have hs4 : w.heap.size + 1 ≤ w4.heap.size := by rw [hO.size]; exact hs3
  clear hc3 hT3 r3 hs3 hO
  go_wp2_with fail
  refine (pick_any C a len cap n4 40 _ hc4 (by omega)).mono ?_
  rintro e w5 ⟨p5, n5, rfl, g5, -, q5, hn5, hc5, hO⟩
  have hT5 := hT4.trans (on_turns hO)
  have r5 := r4.turns (on_turns hO) (.inr (by omega))
  have hs5 : w.heap.size + 1 ≤ w5.heap.size := by rw [hO.size]; exact hs4
  clear hc4 hT4 r4 hs4 hO
  go_wp2_with fail
  refine (pick_any C a len cap n5 60 _ hc5 (by omega)).mono ?_
  rintro e w6 ⟨p6, n6, rfl, g6, -, q6, hn6, hc6, hO⟩
  have hT6 := hT5.trans (on_turns hO)
  have r6 := r5.turns (on_turns hO) (.inr (by omega))
  have hs6 : w.heap.size + 1 ≤ w6.heap.size := by rw [hO.size]; exact hs5
  clear hc5 hT5 r5 hs5 hO
  go_wp2_with fail
  refine (pick_any C a len cap n6 12 _ hc6 (by omega)).mono ?_
  rintro e w7 ⟨p7, n7, rfl, g7, -, q7, hn7, hc7, hO⟩
  have hT7 := hT6.trans (on_turns hO)
  have r7 := r6.turns (on_turns hO) (.inr (by omega))
  have hs7 : w.heap.size + 1 ≤ w7.heap.size := by rw [hO.size]; exact hs6
  clear hc6 hT6 r6 hs6 hO
  go_upto_region 2 with fail
  have hA := (Below.refl w7.heap.size w7).alloc (Nat.le_refl _) (lvo ⟨p1, p2, p3, 1 + p4, 1 + p5, p6, p7⟩)
  have m8 := bx_new (b := w7.heap.size) (w := w7) (lvs ⟨p1, p2, p3, 1 + p4, 1 + p5, p6, p7⟩) 34 rfl
  have r8 := r7.on hA
  have hc8 := hc7.below hA hc7.lt
  have hT8 := hT7.trans (turns_of hA)
  have hM : w.heap.size + 1 ≤ w7.heap.size := hs7
  have hs8 : w7.heap.size < (w7.alloc (lvo ⟨p1, p2, p3, 1 + p4, 1 + p5, p6, p7⟩)).heap.size := by simp
  clear hA hs7 r7 hc7 hT7
  generalize w7.alloc (lvo ⟨p1, p2, p3, 1 + p4, 1 + p5, p6, p7⟩) = w8 at m8 r8 hc8 hT8 hs8 ⊢
  generalize w7.heap.size = M at m8 hM hs8 ⊢
  generalize hl : (⟨p1, p2, p3, 1 + p4, 1 + p5, p6, p7⟩ : Lp) = l at m8
  clear hl
  go_wp2_with fail
  refine (pick_any C a len cap n7 16 _ hc8 (by omega)).mono ?_
  rintro e w9 ⟨p9, n9, rfl, g9, -, q9, hn9, hc9, hO⟩
  have hT9 := hT8.trans (on_turns hO)
  have r9 := r8.turns (on_turns hO) (.inr (by omega))
  have m9 := m8.turns (on_turns hO) (.inr (by omega))
  have hs9 : M < w9.heap.size := by rw [hO.size]; exact hs8
  clear hc8 hT8 r8 m8 hs8 hO
  by_cases e0 : p9 = 0
  · subst e0
    have hL := lit_ip w9 [1000, 1001, -1] 3
    have hA := (Below.refl w9.heap.size w9).alloc (Nat.le_refl _) (.cells #[.int .i64 1000, .int .i64 1001, .int .i64 (-1)] 3)
    have hcx := hc9.below hA hc9.lt
    have hTx := hT9.trans (turns_of hA)
    have rx := r9.on hA
    have mx := m9.on hA
    have hne : w9.heap.size ≠ C := Nat.ne_of_gt hc9.lt
    have hsx : M < (w9.alloc (.cells #[.int .i64 1000, .int .i64 1001, .int .i64 (-1)] 3)).heap.size := by simp; omega
    clear hA hc9 hT9 r9 m9
    go_wp2_with fail
    refine (among_any C a len cap _ _ 3 _ _ _ hcx (by omega) hL hne (by omega) (by omega)).mono ?_
    rintro e wa ⟨ya, na, -, rfl, hna, hca, hO⟩
    have hTa := hTx.trans (on_turns hO)
    have ra := rx.turns (on_turns hO) (.inr (by omega))
    have ma := mx.turns (on_turns hO) (.inr (by omega))
    clear hcx hTx rx mx hO hL hne
    generalize List.getD [1000, 1001, -1] ya (0 : Int) = pz
    have k1 := ma.at 0 rfl
    have k2 := ma.fz 0
    go_upto_region 11 with fail
    have hbs : Below (w.heap.size + 1) wa (wa.setCell ⟨M, 0, none⟩ (.int .i64 pz)) := (Below.refl _ _).setCell (p := ⟨M, 0, none⟩) (by simp; omega) _
    have mb : Bx (wa.setCell ⟨M, 0, none⟩ (.int .i64 pz)) M (lvs ⟨pz, l.I, l.D, l.S, l.M, l.W, l.L⟩) := ma.set 0 (by simp) (.int .i64 pz)
    have rb := ra.below hbs (by omega)
    have hcb := hca.below hbs (by omega)
    have hTb := turns_below hTa (hbs.mono (Nat.le_succ _)) (Nat.le_refl _)
    clear ma ra hca hTa k1 k2 hbs
    generalize wa.setCell ⟨M, 0, none⟩ (.int .i64 pz) = wb at mb rb hcb hTb ⊢
    generalize hl2 : (⟨pz, l.I, l.D, l.S, l.M, l.W, l.L⟩ : Lp) = l2 at mb
    clear hl2
    obtain ⟨x0, x1, x2, x3, x4, x5, x6⟩ := loop_at mb
    obtain ⟨y0, y1, y2, y3, y4, y5, y6⟩ := loop_at rb
    have f0 := rb.fz 0
    have f1 := rb.fz 1
    have f2 := rb.fz 2
    have f3 := rb.fz 3
    have f4 := rb.fz 4
    have f5 := rb.fz 5
    have f6 := rb.fz 6
    go_wp2
    have hbe := below_seven (Below.refl w.heap.size wb) (Nat.le_refl _) (.int .i64 l2.P) (.int .i64 l2.I) (.int .i64 l2.D) (.int .i64 l2.S) (.int .i64 l2.M) (.int .i64 l2.W) (.int .i64 l2.L)
    exact ret_loop rfl rfl (rb.set7 l2) rfl ⟨l2, na, rfl, by omega, hcb.below hbe (by omega), turns_below hTb hbe (Nat.le_refl _)⟩
  by_cases e1 : p9 = 1
  · subst e1
    have hL := lit_ip w9 [1000000, 1000001, 0] 3
    have hA := (Below.refl w9.heap.size w9).alloc (Nat.le_refl _) (.cells #[.int .i64 1000000, .int .i64 1000001, .int .i64 0] 3)
    have hcx := hc9.below hA hc9.lt
    have hTx := hT9.trans (turns_of hA)
    have rx := r9.on hA
    have mx := m9.on hA
    have hne : w9.heap.size ≠ C := Nat.ne_of_gt hc9.lt
    have hsx : M < (w9.alloc (.cells #[.int .i64 1000000, .int .i64 1000001, .int .i64 0] 3)).heap.size := by simp; omega
    clear hA hc9 hT9 r9 m9
    go_wp2_with fail
    refine (among_any C a len cap _ _ 3 _ _ _ hcx (by omega) hL hne (by omega) (by omega)).mono ?_
    rintro e wa ⟨ya, na, -, rfl, hna, hca, hO⟩
    have hTa := hTx.trans (on_turns hO)
    have ra := rx.turns (on_turns hO) (.inr (by omega))
    have ma := mx.turns (on_turns hO) (.inr (by omega))
    clear hcx hTx rx mx hO hL hne
    generalize List.getD [1000000, 1000001, 0] ya (0 : Int) = pz
    have k1 := ma.at 4 rfl
    have k2 := ma.fz 4
    go_upto_region 11 with fail
    have hbs : Below (w.heap.size + 1) wa (wa.setCell ⟨M, 4, none⟩ (.int .i64 pz)) := (Below.refl _ _).setCell (p := ⟨M, 4, none⟩) (by simp; omega) _
    have mb : Bx (wa.setCell ⟨M, 4, none⟩ (.int .i64 pz)) M (lvs ⟨l.P, l.I, l.D, l.S, pz, l.W, l.L⟩) := ma.set 4 (by simp) (.int .i64 pz)
    have rb := ra.below hbs (by omega)
    have hcb := hca.below hbs (by omega)
    have hTb := turns_below hTa (hbs.mono (Nat.le_succ _)) (Nat.le_refl _)
    clear ma ra hca hTa k1 k2 hbs
    generalize wa.setCell ⟨M, 4, none⟩ (.int .i64 pz) = wb at mb rb hcb hTb ⊢
    generalize hl2 : (⟨l.P, l.I, l.D, l.S, pz, l.W, l.L⟩ : Lp) = l2 at mb
    clear hl2
    obtain ⟨x0, x1, x2, x3, x4, x5, x6⟩ := loop_at mb
    obtain ⟨y0, y1, y2, y3, y4, y5, y6⟩ := loop_at rb
    have f0 := rb.fz 0
    have f1 := rb.fz 1
    have f2 := rb.fz 2
    have f3 := rb.fz 3
    have f4 := rb.fz 4
    have f5 := rb.fz 5
    have f6 := rb.fz 6
    go_wp2
    have hbe := below_seven (Below.refl w.heap.size wb) (Nat.le_refl _) (.int .i64 l2.P) (.int .i64 l2.I) (.int .i64 l2.D) (.int .i64 l2.S) (.int .i64 l2.M) (.int .i64 l2.W) (.int .i64 l2.L)
    exact ret_loop rfl rfl (rb.set7 l2) rfl ⟨l2, na, rfl, by omega, hcb.below hbe (by omega), turns_below hTb hbe (Nat.le_refl _)⟩
  by_cases e2 : p9 = 2
  · subst e2
    have hL := lit_ip w9 [1000000, -1] 3
    have hA := (Below.refl w9.heap.size w9).alloc (Nat.le_refl _) (.cells #[.int .i64 1000000, .int .i64 (-1)] 3)
    have hcx := hc9.below hA hc9.lt
    have hTx := hT9.trans (turns_of hA)
    have rx := r9.on hA
    have mx := m9.on hA
    have hne : w9.heap.size ≠ C := Nat.ne_of_gt hc9.lt
    have hsx : M < (w9.alloc (.cells #[.int .i64 1000000, .int .i64 (-1)] 3)).heap.size := by simp; omega
    clear hA hc9 hT9 r9 m9
    go_wp2_with fail
    refine (among_any C a len cap _ _ 2 _ _ _ hcx (by omega) hL hne (by omega) (by omega)).mono ?_
    rintro e wa ⟨ya, na, -, rfl, hna, hca, hO⟩
    have hTa := hTx.trans (on_turns hO)
    have ra := rx.turns (on_turns hO) (.inr (by omega))
    have ma := mx.turns (on_turns hO) (.inr (by omega))
    clear hcx hTx rx mx hO hL hne
    generalize List.getD [1000000, -1] ya (0 : Int) = pz
    have k1 := ma.at 5 rfl
    have k2 := ma.fz 5
    go_upto_region 11 with fail
    have hbs : Below (w.heap.size + 1) wa (wa.setCell ⟨M, 5, none⟩ (.int .i64 pz)) := (Below.refl _ _).setCell (p := ⟨M, 5, none⟩) (by simp; omega) _
    have mb : Bx (wa.setCell ⟨M, 5, none⟩ (.int .i64 pz)) M (lvs ⟨l.P, l.I, l.D, l.S, l.M, pz, l.L⟩) := ma.set 5 (by simp) (.int .i64 pz)
    have rb := ra.below hbs (by omega)
    have hcb := hca.below hbs (by omega)
    have hTb := turns_below hTa (hbs.mono (Nat.le_succ _)) (Nat.le_refl _)
    clear ma ra hca hTa k1 k2 hbs
    generalize wa.setCell ⟨M, 5, none⟩ (.int .i64 pz) = wb at mb rb hcb hTb ⊢
    generalize hl2 : (⟨l.P, l.I, l.D, l.S, l.M, pz, l.L⟩ : Lp) = l2 at mb
    clear hl2
    obtain ⟨x0, x1, x2, x3, x4, x5, x6⟩ := loop_at mb
    obtain ⟨y0, y1, y2, y3, y4, y5, y6⟩ := loop_at rb
    have f0 := rb.fz 0
    have f1 := rb.fz 1
    have f2 := rb.fz 2
    have f3 := rb.fz 3
    have f4 := rb.fz 4
    have f5 := rb.fz 5
    have f6 := rb.fz 6
    go_wp2
    have hbe := below_seven (Below.refl w.heap.size wb) (Nat.le_refl _) (.int .i64 l2.P) (.int .i64 l2.I) (.int .i64 l2.D) (.int .i64 l2.S) (.int .i64 l2.M) (.int .i64 l2.W) (.int .i64 l2.L)
    exact ret_loop rfl rfl (rb.set7 l2) rfl ⟨l2, na, rfl, by omega, hcb.below hbe (by omega), turns_below hTb hbe (Nat.le_refl _)⟩
  by_cases e3 : p9 = 3
  · subst e3
    have hL := lit_ip w9 [0, 1000, 1001] 3
    have hA := (Below.refl w9.heap.size w9).alloc (Nat.le_refl _) (.cells #[.int .i64 0, .int .i64 1000, .int .i64 1001] 3)
    have hcx := hc9.below hA hc9.lt
    have hTx := hT9.trans (turns_of hA)
    have rx := r9.on hA
    have mx := m9.on hA
    have hne : w9.heap.size ≠ C := Nat.ne_of_gt hc9.lt
    have hsx : M < (w9.alloc (.cells #[.int .i64 0, .int .i64 1000, .int .i64 1001] 3)).heap.size := by simp; omega
    clear hA hc9 hT9 r9 m9
    go_wp2_with fail
    refine (among_any C a len cap _ _ 3 _ _ _ hcx (by omega) hL hne (by omega) (by omega)).mono ?_
    rintro e wa ⟨ya, na, -, rfl, hna, hca, hO⟩
    have hTa := hTx.trans (on_turns hO)
    have ra := rx.turns (on_turns hO) (.inr (by omega))
    have ma := mx.turns (on_turns hO) (.inr (by omega))
    clear hcx hTx rx mx hO hL hne
    generalize List.getD [0, 1000, 1001] ya (0 : Int) = pz
    have k1 := ma.at 3 rfl
    have k2 := ma.fz 3
    go_upto_region 11 with fail
    have hbs : Below (w.heap.size + 1) wa (wa.setCell ⟨M, 3, none⟩ (.int .i64 pz)) := (Below.refl _ _).setCell (p := ⟨M, 3, none⟩) (by simp; omega) _
    have mb : Bx (wa.setCell ⟨M, 3, none⟩ (.int .i64 pz)) M (lvs ⟨l.P, l.I, l.D, pz, l.M, l.W, l.L⟩) := ma.set 3 (by simp) (.int .i64 pz)
    have rb := ra.below hbs (by omega)
    have hcb := hca.below hbs (by omega)
    have hTb := turns_below hTa (hbs.mono (Nat.le_succ _)) (Nat.le_refl _)
    clear ma ra hca hTa k1 k2 hbs
    generalize wa.setCell ⟨M, 3, none⟩ (.int .i64 pz) = wb at mb rb hcb hTb ⊢
    generalize hl2 : (⟨l.P, l.I, l.D, pz, l.M, l.W, l.L⟩ : Lp) = l2 at mb
    clear hl2
    obtain ⟨x0, x1, x2, x3, x4, x5, x6⟩ := loop_at mb
    obtain ⟨y0, y1, y2, y3, y4, y5, y6⟩ := loop_at rb
    have f0 := rb.fz 0
    have f1 := rb.fz 1
    have f2 := rb.fz 2
    have f3 := rb.fz 3
    have f4 := rb.fz 4
    have f5 := rb.fz 5
    have f6 := rb.fz 6
    go_wp2
    have hbe := below_seven (Below.refl w.heap.size wb) (Nat.le_refl _) (.int .i64 l2.P) (.int .i64 l2.I) (.int .i64 l2.D) (.int .i64 l2.S) (.int .i64 l2.M) (.int .i64 l2.W) (.int .i64 l2.L)
    exact ret_loop rfl rfl (rb.set7 l2) rfl ⟨l2, na, rfl, by omega, hcb.below hbe (by omega), turns_below hTb hbe (Nat.le_refl _)⟩
  obtain ⟨x0, x1, x2, x3, x4, x5, x6⟩ := loop_at m9
  obtain ⟨y0, y1, y2, y3, y4, y5, y6⟩ := loop_at r9
  have f0 := r9.fz 0
  have f1 := r9.fz 1
  have f2 := r9.fz 2
  have f3 := r9.fz 3
  have f4 := r9.fz 4
  have f5 := r9.fz 5
  have f6 := r9.fz 6
  go_wp2
  have hbe := below_seven (Below.refl w.heap.size w9) (Nat.le_refl _) (.int .i64 l.P) (.int .i64 l.I) (.int .i64 l.D) (.int .i64 l.S) (.int .i64 l.M) (.int .i64 l.W) (.int .i64 l.L)
  exact ret_loop rfl rfl (r9.set7 l) rfl ⟨l, n9, rfl, by omega, hc9.below hbe (by omega), turns_below hT9 hbe (Nat.le_refl _)⟩
end Go.Proofs.Ytnoaonflphameaa
