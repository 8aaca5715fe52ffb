/- BookLane, as the model goes (tools/gen_bls.py). -/
import Derived.Test.YtdpblholoogikaaBlI
import Derived.Test.YtdpblholoogikaaBkGoodS
import Derived.Laws.AppendOwnNone
import Derived.BigQuiet
import Derived.Deep.Cut
namespace Go.Proofs.Ytdpblholoogikaa
open Go.RowKit
theorem ins_all {F : Nat → Int} {n k : Nat} {a f t u : Int} (hk : k ≤ n) : (vL F (k * 4) ++ [.int .i64 a, .int .i64 f, .int .i64 t, .int .i64 u]) ++ dropL F k n = vL (insF F k a f t u) ((n + 1) * 4) := by
  rw [ins_end]
  unfold dropL vL
  rw [show (n + 1) * 4 = (k + 1) * 4 + (n - k) * 4 by omega, List.range_add, List.map_append, List.map_map]
  congr 1
  refine List.map_congr_left fun i _ => ?_
  show Value.int .i64 (F (k * 4 + i)) = Value.int .i64 (insF F k a f t u ((k + 1) * 4 + i))
  rw [show (k + 1) * 4 + i = k * 4 + i + 4 by omega, insF_hi _ _ _ _ _ _ _ (by omega)]
set_option maxHeartbeats 8000000 in
set_option maxRecDepth 20000 in
theorem sBookNo (a : Option Addr) (n c : Nat) (F : Nat → Int) (bl bf bt bw : Int) (w : World) (hn : n ≤ 1048576) (hA : InB w a n c F) (hz : (bsB n F && bkB bl bf bt bw) = false) :
    Calls Try.prog 6 #[.slice a n c, bkv bl bf bt bw] w fun e w' => AnsBx w w' e F n bl bf bt bw ∧ Below w.heap.size w w' := by
  have HR : Hid (bkR F n bl bf bt bw = false) := by
    show bkR F n bl bf bt bw = false
    unfold bkR
    cases e : bsB n F with
    | false => rfl
    | true => rw [e] at hz; rw [ins_no (plB_le F bl bf n) (by simpa using hz)]; rfl
  have hb0 : Below w.heap.size w (w.alloc (.cells #[.int .i64 bl, .int .i64 bf, .int .i64 bt, .int .i64 bw] 25)) := (Below.refl _ _).alloc (Nat.le_refl _) _
  have b0 := bx_new (w := w) (b := w.heap.size) [.int .i64 bl, .int .i64 bf, .int .i64 bt, .int .i64 bw] 25 rfl
  have kG := sBooks a n c F _ hn (hA.below hb0).1
  have kO := fun w => sBook1 bl bf bt bw w
  cases e : bsB n F with
  | false =>
    rw [e] at kG
    clear kO e hz hA
    go_enter Try.func6, Try.ntmps6
    go_wp2_with fail
    refine kG.mono ?_
    rintro e w1 ⟨rfl, hb1⟩
    have hB1 := stepA hb0 hb1
    clear kG b0 hb0 hb1
    go_wp2
    go_ret2
    exact ⟨by unfold AnsBx; rw [HR.out]; exact ansBk_nil _ _ _ _, hB1⟩
  | true =>
    rw [e] at kG hz
    have e2 : bkB bl bf bt bw = false := by simpa using hz
    rw [e2] at kO
    clear e e2 hz hA
    go_enter Try.func6, Try.ntmps6
    go_wp2_with fail
    refine kG.mono ?_
    rintro e w1 ⟨rfl, hb1⟩
    have hB1 := stepA hb0 hb1
    have b1 := b0.on hb1
    clear kG b0 hb0 hb1
    have x0 := b1.c0
    have x1 := b1.c1
    have x2 := b1.c2
    have x3 := b1.c 3 (by simp)
    go_wp2_with fail
    refine (kO _).mono ?_
    rintro e w2 ⟨rfl, hb2⟩
    have hB2 := stepA hB1 hb2
    clear kO x0 x1 x2 x3 b1 hB1 hb2
    go_wp2
    go_ret2
    exact ⟨by unfold AnsBx; rw [HR.out]; exact ansBk_nil _ _ _ _, hB2⟩
set_option maxHeartbeats 8000000 in
set_option maxRecDepth 20000 in
theorem sBookIn (a : Option Addr) (n c : Nat) (F : Nat → Int) (bl bf bt bw : Int) (w : World) (hn : n ≤ 1048576) (hA : InB w a n c F) (e : bsB n F = true) (e2 : bkB bl bf bt bw = true) :
    Calls Try.prog 6 #[.slice a n c, bkv bl bf bt bw] w fun e w' => AnsBx w w' e F n bl bf bt bw ∧ Below w.heap.size w w' := by
  obtain ⟨ib, hib, hz0, hz1, hz2⟩ := infoBkd
  have hb0 : Below w.heap.size w (w.alloc (.cells #[.int .i64 bl, .int .i64 bf, .int .i64 bt, .int .i64 bw] 25)) := (Below.refl _ _).alloc (Nat.le_refl _) _
  have b0 := bx_new (w := w) (b := w.heap.size) [.int .i64 bl, .int .i64 bf, .int .i64 bt, .int .i64 bw] 25 rfl
  have kG := sBooks a n c F _ hn (hA.below hb0).1
  have kO := fun w => sBook1 bl bf bt bw w
  rw [e] at kG
  rw [e2] at kO
  have h40 := (bsB_t e).1
  have HLT : Hid (∀ k, k < plB F bl bf n → ltK F bl bf k = true) := fun k h => plB_lt F bl bf n k h
  have HAT : Hid (plB F bl bf n < n → ltK F bl bf (plB F bl bf n) = false) := plB_at F bl bf n
  have HR : Hid (bsB (n + 1) (insF F (plB F bl bf n) bl bf bt bw) = bkR F n bl bf bt bw) := by show _ = bkR F n bl bf bt bw; unfold bkR; rw [e]; rfl
  have kG2 := fun (b : Option Addr) (c2 : Nat) (w : World) (h : IL w b ((n + 1) * 4) (insF F (plB F bl bf n) bl bf bt bw)) => sBooks b (n + 1) c2 _ w (by omega) h
  have hple := plB_le F bl bf n
  have HE : Hid (∀ (w1 w' : World) (r : Ending), AnsBk w1 w' r (if bkR F n bl bf bt bw = true then n + 1 else 0) (insF F (plB F bl bf n) bl bf bt bw) (bkR F n bl bf bt bw) → AnsBx w1 w' r F n bl bf bt bw) := fun _ _ _ h => h
  rw [HR.out] at kG2
  generalize plB F bl bf n = K at *
  generalize bkR F n bl bf bt bw = R at *
  clear HR e e2
  go_enter Try.func6, Try.ntmps6
  go_wp2_with fail
  refine kG.mono ?_
  rintro e w1 ⟨rfl, hb1⟩
  have hB1 := stepA hb0 hb1
  have b1 := b0.on hb1
  clear kG b0 hb0 hb1
  have x0 := b1.c0
  have x1 := b1.c1
  have x2 := b1.c2
  have x3 := b1.c 3 (by simp)
  go_wp2_with fail
  refine (kO _).mono ?_
  rintro e w2 ⟨rfl, hb2⟩
  have hB2 := stepA hB1 hb2
  have b2 := b1.on hb2
  clear kO x0 x1 x2 x3 b1 hB1 hb2
  go_wp2_with fail
  go_loopw [6] (fun i wr => ∃ k : Nat, k ≤ K ∧ i = .int .i64 (k : Int) ∧ Below w.heap.size w wr ∧ Bx wr w.heap.size [.int .i64 bl, .int .i64 bf, .int .i64 bt, .int .i64 bw]) (fun i _ => n - (intOf i).toNat)
  case atStart => exact ⟨0, Nat.zero_le _, rfl, hB2, b2⟩
  case round =>
    obtain ⟨k, hk, rfl, hB, hb⟩ := hrel
    clear hB2 b2
    have hA2 := hA.below hB
    have i0 : (0 : Int) ≤ (k : Int) := by omega
    by_cases hlt : k < n
    · obtain ⟨gb, go_, rfl, gl_, y0, y1, y2, y3⟩ := il_four4 hA2.1 hlt
      have i1 : (k : Int) < (n : Int) := by omega
      have x0 := hb.c0
      have x1 := hb.c1
      have HLk : Hid (ltK F bl bf k = decide (F (k * 4) < bl ∨ F (k * 4) = bl ∧ F (k * 4 + 1) < bf)) := rfl
      by_cases hkK : k < K
      · have HT : Hid (F (k * 4) < bl ∨ F (k * 4) = bl ∧ F (k * 4 + 1) < bf) := (of_decide_eq_true (HLk.out.symm.trans (HLT.out k hkK)) : F (k * 4) < bl ∨ F (k * 4) = bl ∧ F (k * 4 + 1) < bf)
        clear HLT HAT HLk hA2
        generalize F (k * 4) = A at y0 HT
        generalize F (k * 4 + 1) = B at y1 HT
        by_cases g0 : A < bl
        · have d0 : decide (A < bl) = true := decide_eq_true g0
          clear HT g0 y2 y3
          go_upto_region 4 with fail
          go_quiet (fail)
          go_wp2
          exact ⟨⟨k + 1, by omega, by go_num, below_dr hB _, hb.on (below_dr (Below.refl _ _) _)⟩, by simp [intOf]; omega⟩
        · have d0 : decide (A < bl) = false := decide_eq_false g0
          have d1 : (A == bl) = true := by have := HT.out; simp; omega
          have d2 : decide (B < bf) = true := decide_eq_true (by have := HT.out; omega)
          clear HT g0 y2 y3
          go_upto_region 4 with fail
          go_quiet (fail)
          go_wp2
          exact ⟨⟨k + 1, by omega, by go_num, below_dr hB _, hb.on (below_dr (Below.refl _ _) _)⟩, by simp [intOf]; omega⟩
      · have hkK2 : k = K := by omega
        subst hkK2
        have HF : Hid (¬ (F (k * 4) < bl ∨ F (k * 4) = bl ∧ F (k * 4 + 1) < bf)) := (of_decide_eq_false (HLk.out.symm.trans (HAT.out hlt)) : ¬ (F (k * 4) < bl ∨ F (k * 4) = bl ∧ F (k * 4 + 1) < bf))
        clear HLT HAT HLk hkK
        obtain ⟨A, HA⟩ : ∃ A, Hid (F (k * 4) = A) := ⟨_, rfl⟩
        obtain ⟨B, HB⟩ : ∃ B, Hid (F (k * 4 + 1) = B) := ⟨_, rfl⟩
        rw [HA.out] at y0 HF
        rw [HB.out] at y1 HF
        by_cases g0 : A = bl
        · have d0 : decide (A < bl) = false := decide_eq_false (by omega)
          have d1 : (A == bl) = true := by simpa using g0
          have d2 : decide (B < bf) = false := decide_eq_false (by have := HF.out; omega)
          clear HF g0 y2 y3 HA HB
          go_upto_region 4 with fail
          go_quiet (fail)
          clear y0 y1 x0 x1 d0 d1 d2
          have hB3 : Below w.heap.size w (wr.drewN nq) := below_dr hB _
          have hb3 : Bx (wr.drewN nq) w.heap.size [.int .i64 bl, .int .i64 bf, .int .i64 bt, .int .i64 bw] := hb.on (below_dr (Below.refl _ _) _)
          clear hB hb
          generalize wr.drewN nq = w3 at hB3 hb3 ⊢
          have hA3 := hA.below hB3
          have hw3 := hb3.lt
          have hsrc : ∀ w', Below w3.heap.size w3 w' → ∀ j u, (vL F (k * 4))[j]? = some u → w'.cell? ((⟨gb, go_, none⟩ : Addr).add j) = some u := fun w' hb j u hj => by
            obtain ⟨hjk, rfl⟩ := vL_at hj
            obtain ⟨b9, o9, e9, hb9, hc9⟩ := (hA3.below hb).1 (by omega)
            injection e9 with e9; injection e9 with e8 e7; subst e8; subst e7
            rw [bk_add]
            exact hc9 j (by omega)
          have hsrc2 : ∀ w', Below w3.heap.size w3 w' → ∀ j u, (dropL F k n)[j]? = some u → w'.cell? ((⟨gb, go_ + k * 4, none⟩ : Addr).add j) = some u := fun w' hb j u hj => by
            obtain ⟨hjk, rfl⟩ := vL_at hj
            obtain ⟨b9, o9, e9, hb9, hc9⟩ := (hA3.below hb).1 (by omega)
            injection e9 with e9; injection e9 with e8 e7; subst e8; subst e7
            rw [bk_add, Nat.add_assoc]
            exact hc9 _ (by omega)
          have hcap := hA3.2.1
          have hS1 := hsrc _ (Below.refl _ _)
          have hS2 : Hid (∀ w', Below w3.heap.size w3 w' → ∀ j u, (dropL F k n)[j]? = some u → w'.cell? ((⟨gb, go_ + k * 4, none⟩ : Addr).add j) = some u) := hsrc2
          clear hA3 hsrc hsrc2
          have hO0 : w3.ownsRow w3.heap.size 25 4 (.slice none 0 0) 0 [] := World.ownsRow_nil _ _ _ _
          go_upto_region 8 with (at_builtin; go_loud (refine wpList_append_own _ rfl _ _ 23 rfl w3.heap.size 25 ib (bkv 0 0 0 0) 4 32 Try.underlying23 hib hz0 hz1 hz2 rfl (by decide) _ _ _ rfl hO0 ⟨gb, go_, none⟩ k _ (vL F (k * 4)) rfl (vL_len _ _) hS1 (vL_one _ _) (by unfold maxLen; omega) (by omega) (Nat.le_refl _) ?_); intro v4 w4 hO4 hg4 _)
          have hB4 : Below w3.heap.size w3 w4 := ⟨hg4.os, hg4.tape, hg4.output, hg4.size, fun x hx => hg4.block x hx (by intro e; cases e)⟩
          rw [List.nil_append, Nat.zero_add] at hO4
          have hb4 := hb3.on hB4
          clear hg4 hO0 hS1 hb3
          have x0 := hb4.c0
          have x1 := hb4.c1
          have x2 := hb4.c2
          have x3 : w4.cell? ⟨w.heap.size, 3, none⟩ = some (.int .i64 bw) := hb4.c 3 (by simp)
          have hB5 : Below w3.heap.size w3 (w4.alloc (.cells #[.int .i64 bl, .int .i64 bf, .int .i64 bt, .int .i64 bw] 25)) := hB4.alloc hB4.size _
          have hO5 : (w4.alloc (.cells #[.int .i64 bl, .int .i64 bf, .int .i64 bt, .int .i64 bw] 25)).ownsRow w3.heap.size 25 4 v4 k (vL F (k * 4)) := World.ownsRow.alloc hO4 _
          have hN5 := four_new w4 (.int .i64 bl) (.int .i64 bf) (.int .i64 bt) (.int .i64 bw) 25
          have hs5 := hB5.size
          clear hO4
          go_upto_region 9 with (at_builtin; go_loud (refine wpList_append_own _ rfl _ _ 23 rfl w3.heap.size 25 ib (bkv 0 0 0 0) 4 32 Try.underlying23 hib hz0 hz1 hz2 rfl (by decide) _ _ _ rfl hO5 ⟨w4.heap.size, 0, none⟩ 1 _ [.int .i64 bl, .int .i64 bf, .int .i64 bt, .int .i64 bw] rfl rfl hN5 (fun x hx => by simp at hx; rcases hx with rfl | rfl | rfl | rfl <;> rfl) (by unfold maxLen; omega) (by omega) hs5 ?_); intro v6 w6 hO6 hg6 _)
          have hB6 : Below w3.heap.size w3 w6 := hB5.grown hg6 hs5 (fun q hq => (World.ownsRow.lt hO5 q hq).1)
          clear hg6 hO5 hN5 hs5 hB5 x0 x1 x2 x3 hb4 hB4
          have hs6 := hB6.size
          have hS6 := hS2.out _ hB6
          clear hS2
          go_upto_region 10 with (at_builtin; go_loud (refine wpList_append_own _ rfl _ _ 23 rfl w3.heap.size 25 ib (bkv 0 0 0 0) 4 32 Try.underlying23 hib hz0 hz1 hz2 rfl (by decide) _ _ _ rfl hO6 ⟨gb, go_ + k * 4, none⟩ (n - k) _ (dropL F k n) rfl (vL_len _ _) hS6 (vL_one _ _) (by unfold maxLen; omega) (by omega) hs6 ?_); intro v7 w7 hO7 hg7 _)
          have hB7 : Below w3.heap.size w3 w7 := hB6.grown hg7 hs6 (fun q hq => (World.ownsRow.lt hO6 q hq).1)
          rw [ins_all (by omega), show k + 1 + (n - k) = n + 1 by omega] at hO7
          clear hg7 hO6 hS6 hs6 hB6
          have hsome : ∃ g9 c9, v7 = .slice (some ⟨g9, 0, none⟩) (n + 1) c9 ∧ w3.heap.size ≤ g9 := by
            obtain ⟨_, ⟨h1, h2⟩ | ⟨g9, cap, cur, h1, h2, _, h3, _⟩⟩ := hO7
            · omega
            · exact ⟨g9, cap, h1, h2⟩
          obtain ⟨g9, c9, rfl, hb9⟩ := hsome
          have HP : Hid (IP w7 g9 ((n + 1) * 4) (insF F k bl bf bt bw)) := ⟨(World.ownsRow.lt hO7 g9 rfl).2, fun i hi => by rw [World.ownsRow.cellAt hO7 i (by omega)]; exact vL_get hi, fun j => World.ownsRow.frozenAt hO7 j⟩
          have hB8 := stepA hB3 hB7
          have hs3 := hB3.size
          have hLQ : Hid (LQ w7 w.heap.size w7.heap.size (some ⟨g9, 0, none⟩) ((n + 1) * 4) (insF F k bl bf bt bw)) := lq_of HP.out (by omega) HP.out.lt
          clear hO7 hB7 HP
          go_wp2_with fail
          refine (kG2 _ _ _ hLQ.out.il).mono ?_
          rintro e w8 ⟨rfl, hb8⟩
          have hB9 := stepA hB8 hb8
          have hLQ8 := hLQ.out.on hb8
          cases R with
          | false =>
            go_wp2
            go_ret2
            exact ⟨HE.out _ _ _ (ansBk_nil _ _ _ _), hB9⟩
          | true =>
            go_wp2
            go_ret2
            exact ⟨HE.out _ _ _ ⟨_, _, rfl, hLQ8.wide (Nat.le_refl _) hb8.size⟩, hB9⟩
        · have d0 : decide (A < bl) = false := decide_eq_false (by have := HF.out; omega)
          have d1 : (A == bl) = false := by simpa using g0
          clear HF g0 y2 y3 HA HB
          go_upto_region 4 with fail
          go_quiet (fail)
          clear y0 y1 x0 x1 d0 d1
          have hB3 : Below w.heap.size w (wr.drewN nq) := below_dr hB _
          have hb3 : Bx (wr.drewN nq) w.heap.size [.int .i64 bl, .int .i64 bf, .int .i64 bt, .int .i64 bw] := hb.on (below_dr (Below.refl _ _) _)
          clear hB hb
          generalize wr.drewN nq = w3 at hB3 hb3 ⊢
          have hA3 := hA.below hB3
          have hw3 := hb3.lt
          have hsrc : ∀ w', Below w3.heap.size w3 w' → ∀ j u, (vL F (k * 4))[j]? = some u → w'.cell? ((⟨gb, go_, none⟩ : Addr).add j) = some u := fun w' hb j u hj => by
            obtain ⟨hjk, rfl⟩ := vL_at hj
            obtain ⟨b9, o9, e9, hb9, hc9⟩ := (hA3.below hb).1 (by omega)
            injection e9 with e9; injection e9 with e8 e7; subst e8; subst e7
            rw [bk_add]
            exact hc9 j (by omega)
          have hsrc2 : ∀ w', Below w3.heap.size w3 w' → ∀ j u, (dropL F k n)[j]? = some u → w'.cell? ((⟨gb, go_ + k * 4, none⟩ : Addr).add j) = some u := fun w' hb j u hj => by
            obtain ⟨hjk, rfl⟩ := vL_at hj
            obtain ⟨b9, o9, e9, hb9, hc9⟩ := (hA3.below hb).1 (by omega)
            injection e9 with e9; injection e9 with e8 e7; subst e8; subst e7
            rw [bk_add, Nat.add_assoc]
            exact hc9 _ (by omega)
          have hcap := hA3.2.1
          have hS1 := hsrc _ (Below.refl _ _)
          have hS2 : Hid (∀ w', Below w3.heap.size w3 w' → ∀ j u, (dropL F k n)[j]? = some u → w'.cell? ((⟨gb, go_ + k * 4, none⟩ : Addr).add j) = some u) := hsrc2
          clear hA3 hsrc hsrc2
          have hO0 : w3.ownsRow w3.heap.size 25 4 (.slice none 0 0) 0 [] := World.ownsRow_nil _ _ _ _
          go_upto_region 8 with (at_builtin; go_loud (refine wpList_append_own _ rfl _ _ 23 rfl w3.heap.size 25 ib (bkv 0 0 0 0) 4 32 Try.underlying23 hib hz0 hz1 hz2 rfl (by decide) _ _ _ rfl hO0 ⟨gb, go_, none⟩ k _ (vL F (k * 4)) rfl (vL_len _ _) hS1 (vL_one _ _) (by unfold maxLen; omega) (by omega) (Nat.le_refl _) ?_); intro v4 w4 hO4 hg4 _)
          have hB4 : Below w3.heap.size w3 w4 := ⟨hg4.os, hg4.tape, hg4.output, hg4.size, fun x hx => hg4.block x hx (by intro e; cases e)⟩
          rw [List.nil_append, Nat.zero_add] at hO4
          have hb4 := hb3.on hB4
          clear hg4 hO0 hS1 hb3
          have x0 := hb4.c0
          have x1 := hb4.c1
          have x2 := hb4.c2
          have x3 : w4.cell? ⟨w.heap.size, 3, none⟩ = some (.int .i64 bw) := hb4.c 3 (by simp)
          have hB5 : Below w3.heap.size w3 (w4.alloc (.cells #[.int .i64 bl, .int .i64 bf, .int .i64 bt, .int .i64 bw] 25)) := hB4.alloc hB4.size _
          have hO5 : (w4.alloc (.cells #[.int .i64 bl, .int .i64 bf, .int .i64 bt, .int .i64 bw] 25)).ownsRow w3.heap.size 25 4 v4 k (vL F (k * 4)) := World.ownsRow.alloc hO4 _
          have hN5 := four_new w4 (.int .i64 bl) (.int .i64 bf) (.int .i64 bt) (.int .i64 bw) 25
          have hs5 := hB5.size
          clear hO4
          go_upto_region 9 with (at_builtin; go_loud (refine wpList_append_own _ rfl _ _ 23 rfl w3.heap.size 25 ib (bkv 0 0 0 0) 4 32 Try.underlying23 hib hz0 hz1 hz2 rfl (by decide) _ _ _ rfl hO5 ⟨w4.heap.size, 0, none⟩ 1 _ [.int .i64 bl, .int .i64 bf, .int .i64 bt, .int .i64 bw] rfl rfl hN5 (fun x hx => by simp at hx; rcases hx with rfl | rfl | rfl | rfl <;> rfl) (by unfold maxLen; omega) (by omega) hs5 ?_); intro v6 w6 hO6 hg6 _)
          have hB6 : Below w3.heap.size w3 w6 := hB5.grown hg6 hs5 (fun q hq => (World.ownsRow.lt hO5 q hq).1)
          clear hg6 hO5 hN5 hs5 hB5 x0 x1 x2 x3 hb4 hB4
          have hs6 := hB6.size
          have hS6 := hS2.out _ hB6
          clear hS2
          go_upto_region 10 with (at_builtin; go_loud (refine wpList_append_own _ rfl _ _ 23 rfl w3.heap.size 25 ib (bkv 0 0 0 0) 4 32 Try.underlying23 hib hz0 hz1 hz2 rfl (by decide) _ _ _ rfl hO6 ⟨gb, go_ + k * 4, none⟩ (n - k) _ (dropL F k n) rfl (vL_len _ _) hS6 (vL_one _ _) (by unfold maxLen; omega) (by omega) hs6 ?_); intro v7 w7 hO7 hg7 _)
          have hB7 : Below w3.heap.size w3 w7 := hB6.grown hg7 hs6 (fun q hq => (World.ownsRow.lt hO6 q hq).1)
          rw [ins_all (by omega), show k + 1 + (n - k) = n + 1 by omega] at hO7
          clear hg7 hO6 hS6 hs6 hB6
          have hsome : ∃ g9 c9, v7 = .slice (some ⟨g9, 0, none⟩) (n + 1) c9 ∧ w3.heap.size ≤ g9 := by
            obtain ⟨_, ⟨h1, h2⟩ | ⟨g9, cap, cur, h1, h2, _, h3, _⟩⟩ := hO7
            · omega
            · exact ⟨g9, cap, h1, h2⟩
          obtain ⟨g9, c9, rfl, hb9⟩ := hsome
          have HP : Hid (IP w7 g9 ((n + 1) * 4) (insF F k bl bf bt bw)) := ⟨(World.ownsRow.lt hO7 g9 rfl).2, fun i hi => by rw [World.ownsRow.cellAt hO7 i (by omega)]; exact vL_get hi, fun j => World.ownsRow.frozenAt hO7 j⟩
          have hB8 := stepA hB3 hB7
          have hs3 := hB3.size
          have hLQ : Hid (LQ w7 w.heap.size w7.heap.size (some ⟨g9, 0, none⟩) ((n + 1) * 4) (insF F k bl bf bt bw)) := lq_of HP.out (by omega) HP.out.lt
          clear hO7 hB7 HP
          go_wp2_with fail
          refine (kG2 _ _ _ hLQ.out.il).mono ?_
          rintro e w8 ⟨rfl, hb8⟩
          have hB9 := stepA hB8 hb8
          have hLQ8 := hLQ.out.on hb8
          cases R with
          | false =>
            go_wp2
            go_ret2
            exact ⟨HE.out _ _ _ (ansBk_nil _ _ _ _), hB9⟩
          | true =>
            go_wp2
            go_ret2
            exact ⟨HE.out _ _ _ ⟨_, _, rfl, hLQ8.wide (Nat.le_refl _) hb8.size⟩, hB9⟩
    · have hkn : k = n := by omega
      subst hkn
      have hkK2 : k = K := by omega
      subst hkK2
      have i1 : ¬ (k : Int) < (k : Int) := by omega
      have i3 : decide ((k : Int) < (k : Int)) = false := decide_eq_false i1
      clear HLT HAT
      go_upto_region 4 with fail
      go_quiet (fail)
      obtain ⟨hIL, hcn, ⟨rfl, rfl, rfl⟩ | ⟨gb, go_, rfl⟩⟩ := id hA
      · skip
        have hB3 : Below w.heap.size w (wr.drewN nq) := below_dr hB _
        have hb3 : Bx (wr.drewN nq) w.heap.size [.int .i64 bl, .int .i64 bf, .int .i64 bt, .int .i64 bw] := hb.on (below_dr (Below.refl _ _) _)
        clear hB hb
        generalize wr.drewN nq = w3 at hB3 hb3 ⊢
        have hA3 := hA.below hB3
        have hw3 := hb3.lt
        have hO4 : w3.ownsRow w3.heap.size 25 4 (.slice none 0 0) 0 [] := World.ownsRow_nil _ _ _ _
        have hB4 := Below.refl w3.heap.size w3
        have hb4 := hb3
        clear hA3 hb3
        go_upto_region 8 with (at_builtin; refine wpList_append_own_none rfl _ _ 23 rfl w3.heap.size 25 ib 4 Try.underlying23 hib _ _ _ rfl hO4 rfl ?_)
        have x0 := hb4.c0
        have x1 := hb4.c1
        have x2 := hb4.c2
        have x3 : w3.cell? ⟨w.heap.size, 3, none⟩ = some (.int .i64 bw) := hb4.c 3 (by simp)
        have hB5 : Below w3.heap.size w3 (w3.alloc (.cells #[.int .i64 bl, .int .i64 bf, .int .i64 bt, .int .i64 bw] 25)) := hB4.alloc hB4.size _
        have hO5 : (w3.alloc (.cells #[.int .i64 bl, .int .i64 bf, .int .i64 bt, .int .i64 bw] 25)).ownsRow w3.heap.size 25 4 (.slice none 0 0) 0 [] := World.ownsRow.alloc hO4 _
        have hN5 := four_new w3 (.int .i64 bl) (.int .i64 bf) (.int .i64 bt) (.int .i64 bw) 25
        have hs5 := hB5.size
        clear hO4
        go_upto_region 9 with (at_builtin; go_loud (refine wpList_append_own _ rfl _ _ 23 rfl w3.heap.size 25 ib (bkv 0 0 0 0) 4 32 Try.underlying23 hib hz0 hz1 hz2 rfl (by decide) _ _ _ rfl hO5 ⟨w3.heap.size, 0, none⟩ 1 _ [.int .i64 bl, .int .i64 bf, .int .i64 bt, .int .i64 bw] rfl rfl hN5 (fun x hx => by simp at hx; rcases hx with rfl | rfl | rfl | rfl <;> rfl) (by unfold maxLen; omega) (by omega) hs5 ?_); intro v6 w6 hO6 hg6 _)
        have hB6 : Below w3.heap.size w3 w6 := hB5.grown hg6 hs5 (fun q hq => (World.ownsRow.lt hO5 q hq).1)
        clear hg6 hO5 hN5 hs5 hB5 x0 x1 x2 x3 hb4 hB4
        rw [List.nil_append, Nat.zero_add] at hO6
        go_upto_region 10 with (at_builtin; refine wpList_append_own_none rfl _ _ 23 rfl w3.heap.size 25 ib 4 Try.underlying23 hib _ _ _ rfl hO6 rfl ?_)
        have hB7 := hB6
        have hO7 := hO6
        clear hO6 hB6
        have hO7 : w6.ownsRow w3.heap.size 25 4 v6 1 (vL (insF F 0 bl bf bt bw) (1 * 4)) := by have e9 := ins_end F 0 bl bf bt bw; rw [← e9]; exact hO7
        have hsome : ∃ g9 c9, v6 = .slice (some ⟨g9, 0, none⟩) (1) c9 ∧ w3.heap.size ≤ g9 := by
          obtain ⟨_, ⟨h1, h2⟩ | ⟨g9, cap, cur, h1, h2, _, h3, _⟩⟩ := hO7
          · omega
          · exact ⟨g9, cap, h1, h2⟩
        obtain ⟨g9, c9, rfl, hb9⟩ := hsome
        have HP : Hid (IP w6 g9 ((1) * 4) (insF F 0 bl bf bt bw)) := ⟨(World.ownsRow.lt hO7 g9 rfl).2, fun i hi => by rw [World.ownsRow.cellAt hO7 i (by omega)]; exact vL_get hi, fun j => World.ownsRow.frozenAt hO7 j⟩
        have hB8 := stepA hB3 hB7
        have hs3 := hB3.size
        have hLQ : Hid (LQ w6 w.heap.size w6.heap.size (some ⟨g9, 0, none⟩) ((1) * 4) (insF F 0 bl bf bt bw)) := lq_of HP.out (by omega) HP.out.lt
        clear hO7 hB7 HP
        go_wp2_with fail
        refine (kG2 _ _ _ hLQ.out.il).mono ?_
        rintro e w8 ⟨rfl, hb8⟩
        have hB9 := stepA hB8 hb8
        have hLQ8 := hLQ.out.on hb8
        cases R with
        | false =>
          go_wp2
          go_ret2
          exact ⟨HE.out _ _ _ (ansBk_nil _ _ _ _), hB9⟩
        | true =>
          go_wp2
          go_ret2
          exact ⟨HE.out _ _ _ ⟨_, _, rfl, hLQ8.wide (Nat.le_refl _) hb8.size⟩, hB9⟩
      · by_cases hck : c = k
        · have hck2 : k = c := hck.symm
          subst hck2
          have hB3 : Below w.heap.size w (wr.drewN nq) := below_dr hB _
          have hb3 : Bx (wr.drewN nq) w.heap.size [.int .i64 bl, .int .i64 bf, .int .i64 bt, .int .i64 bw] := hb.on (below_dr (Below.refl _ _) _)
          clear hB hb
          generalize wr.drewN nq = w3 at hB3 hb3 ⊢
          have hA3 := hA.below hB3
          have hw3 := hb3.lt
          have hsrc : ∀ w', Below w3.heap.size w3 w' → ∀ j u, (vL F (k * 4))[j]? = some u → w'.cell? ((⟨gb, go_, none⟩ : Addr).add j) = some u := fun w' hb j u hj => by
            obtain ⟨hjk, rfl⟩ := vL_at hj
            obtain ⟨b9, o9, e9, hb9, hc9⟩ := (hA3.below hb).1 (by omega)
            injection e9 with e9; injection e9 with e8 e7; subst e8; subst e7
            rw [bk_add]
            exact hc9 j (by omega)
          have hsrc2 : ∀ w', Below w3.heap.size w3 w' → ∀ j u, (dropL F k k)[j]? = some u → w'.cell? ((⟨gb, go_ + k * 4, none⟩ : Addr).add j) = some u := fun w' hb j u hj => by
            obtain ⟨hjk, rfl⟩ := vL_at hj
            obtain ⟨b9, o9, e9, hb9, hc9⟩ := (hA3.below hb).1 (by omega)
            injection e9 with e9; injection e9 with e8 e7; subst e8; subst e7
            rw [bk_add, Nat.add_assoc]
            exact hc9 _ (by omega)
          have hcap := hA3.2.1
          have hS1 := hsrc _ (Below.refl _ _)
          have hS2 : Hid (∀ w', Below w3.heap.size w3 w' → ∀ j u, (dropL F k k)[j]? = some u → w'.cell? ((⟨gb, go_ + k * 4, none⟩ : Addr).add j) = some u) := hsrc2
          clear hA3 hsrc hsrc2
          have hO0 : w3.ownsRow w3.heap.size 25 4 (.slice none 0 0) 0 [] := World.ownsRow_nil _ _ _ _
          go_upto_region 8 with (at_builtin; go_loud (refine wpList_append_own _ rfl _ _ 23 rfl w3.heap.size 25 ib (bkv 0 0 0 0) 4 32 Try.underlying23 hib hz0 hz1 hz2 rfl (by decide) _ _ _ rfl hO0 ⟨gb, go_, none⟩ k _ (vL F (k * 4)) rfl (vL_len _ _) hS1 (vL_one _ _) (by unfold maxLen; omega) (by omega) (Nat.le_refl _) ?_); intro v4 w4 hO4 hg4 _)
          have hB4 : Below w3.heap.size w3 w4 := ⟨hg4.os, hg4.tape, hg4.output, hg4.size, fun x hx => hg4.block x hx (by intro e; cases e)⟩
          rw [List.nil_append, Nat.zero_add] at hO4
          have hb4 := hb3.on hB4
          clear hg4 hO0 hS1 hb3
          have x0 := hb4.c0
          have x1 := hb4.c1
          have x2 := hb4.c2
          have x3 : w4.cell? ⟨w.heap.size, 3, none⟩ = some (.int .i64 bw) := hb4.c 3 (by simp)
          have hB5 : Below w3.heap.size w3 (w4.alloc (.cells #[.int .i64 bl, .int .i64 bf, .int .i64 bt, .int .i64 bw] 25)) := hB4.alloc hB4.size _
          have hO5 : (w4.alloc (.cells #[.int .i64 bl, .int .i64 bf, .int .i64 bt, .int .i64 bw] 25)).ownsRow w3.heap.size 25 4 v4 k (vL F (k * 4)) := World.ownsRow.alloc hO4 _
          have hN5 := four_new w4 (.int .i64 bl) (.int .i64 bf) (.int .i64 bt) (.int .i64 bw) 25
          have hs5 := hB5.size
          clear hO4
          go_upto_region 9 with (at_builtin; go_loud (refine wpList_append_own _ rfl _ _ 23 rfl w3.heap.size 25 ib (bkv 0 0 0 0) 4 32 Try.underlying23 hib hz0 hz1 hz2 rfl (by decide) _ _ _ rfl hO5 ⟨w4.heap.size, 0, none⟩ 1 _ [.int .i64 bl, .int .i64 bf, .int .i64 bt, .int .i64 bw] rfl rfl hN5 (fun x hx => by simp at hx; rcases hx with rfl | rfl | rfl | rfl <;> rfl) (by unfold maxLen; omega) (by omega) hs5 ?_); intro v6 w6 hO6 hg6 _)
          have hB6 : Below w3.heap.size w3 w6 := hB5.grown hg6 hs5 (fun q hq => (World.ownsRow.lt hO5 q hq).1)
          clear hg6 hO5 hN5 hs5 hB5 x0 x1 x2 x3 hb4 hB4
          have hs6 := hB6.size
          have hS6 := hS2.out _ hB6
          clear hS2
          go_upto_region 10 with (at_builtin; go_loud (refine wpList_append_own _ rfl _ _ 23 rfl w3.heap.size 25 ib (bkv 0 0 0 0) 4 32 Try.underlying23 hib hz0 hz1 hz2 rfl (by decide) _ _ _ rfl hO6 ⟨gb, go_, none⟩ 0 _ (dropL F k k) rfl ((vL_len _ _).trans (by simp)) (fun j u hj => absurd (vL_at hj).1 (by omega)) (vL_one _ _) (by unfold maxLen; omega) (by omega) hs6 ?_); intro v7 w7 hO7 hg7 _)
          have hB7 : Below w3.heap.size w3 w7 := hB6.grown hg7 hs6 (fun q hq => (World.ownsRow.lt hO6 q hq).1)
          rw [ins_all (by omega), show k + 1 + 0 = k + 1 by omega] at hO7
          clear hg7 hO6 hS6 hs6 hB6
          have hsome : ∃ g9 c9, v7 = .slice (some ⟨g9, 0, none⟩) (k + 1) c9 ∧ w3.heap.size ≤ g9 := by
            obtain ⟨_, ⟨h1, h2⟩ | ⟨g9, cap, cur, h1, h2, _, h3, _⟩⟩ := hO7
            · omega
            · exact ⟨g9, cap, h1, h2⟩
          obtain ⟨g9, c9, rfl, hb9⟩ := hsome
          have HP : Hid (IP w7 g9 ((k + 1) * 4) (insF F k bl bf bt bw)) := ⟨(World.ownsRow.lt hO7 g9 rfl).2, fun i hi => by rw [World.ownsRow.cellAt hO7 i (by omega)]; exact vL_get hi, fun j => World.ownsRow.frozenAt hO7 j⟩
          have hB8 := stepA hB3 hB7
          have hs3 := hB3.size
          have hLQ : Hid (LQ w7 w.heap.size w7.heap.size (some ⟨g9, 0, none⟩) ((k + 1) * 4) (insF F k bl bf bt bw)) := lq_of HP.out (by omega) HP.out.lt
          clear hO7 hB7 HP
          go_wp2_with fail
          refine (kG2 _ _ _ hLQ.out.il).mono ?_
          rintro e w8 ⟨rfl, hb8⟩
          have hB9 := stepA hB8 hb8
          have hLQ8 := hLQ.out.on hb8
          cases R with
          | false =>
            go_wp2
            go_ret2
            exact ⟨HE.out _ _ _ (ansBk_nil _ _ _ _), hB9⟩
          | true =>
            go_wp2
            go_ret2
            exact ⟨HE.out _ _ _ ⟨_, _, rfl, hLQ8.wide (Nat.le_refl _) hb8.size⟩, hB9⟩
        · skip
          have hB3 : Below w.heap.size w (wr.drewN nq) := below_dr hB _
          have hb3 : Bx (wr.drewN nq) w.heap.size [.int .i64 bl, .int .i64 bf, .int .i64 bt, .int .i64 bw] := hb.on (below_dr (Below.refl _ _) _)
          clear hB hb
          generalize wr.drewN nq = w3 at hB3 hb3 ⊢
          have hA3 := hA.below hB3
          have hw3 := hb3.lt
          have hsrc : ∀ w', Below w3.heap.size w3 w' → ∀ j u, (vL F (k * 4))[j]? = some u → w'.cell? ((⟨gb, go_, none⟩ : Addr).add j) = some u := fun w' hb j u hj => by
            obtain ⟨hjk, rfl⟩ := vL_at hj
            obtain ⟨b9, o9, e9, hb9, hc9⟩ := (hA3.below hb).1 (by omega)
            injection e9 with e9; injection e9 with e8 e7; subst e8; subst e7
            rw [bk_add]
            exact hc9 j (by omega)
          have hsrc2 : ∀ w', Below w3.heap.size w3 w' → ∀ j u, (dropL F k k)[j]? = some u → w'.cell? ((⟨gb, go_ + k * 4, none⟩ : Addr).add j) = some u := fun w' hb j u hj => by
            obtain ⟨hjk, rfl⟩ := vL_at hj
            obtain ⟨b9, o9, e9, hb9, hc9⟩ := (hA3.below hb).1 (by omega)
            injection e9 with e9; injection e9 with e8 e7; subst e8; subst e7
            rw [bk_add, Nat.add_assoc]
            exact hc9 _ (by omega)
          have hcap := hA3.2.1
          have hS1 := hsrc _ (Below.refl _ _)
          have hS2 : Hid (∀ w', Below w3.heap.size w3 w' → ∀ j u, (dropL F k k)[j]? = some u → w'.cell? ((⟨gb, go_ + k * 4, none⟩ : Addr).add j) = some u) := hsrc2
          clear hA3 hsrc hsrc2
          have hO0 : w3.ownsRow w3.heap.size 25 4 (.slice none 0 0) 0 [] := World.ownsRow_nil _ _ _ _
          go_upto_region 8 with (at_builtin; go_loud (refine wpList_append_own _ rfl _ _ 23 rfl w3.heap.size 25 ib (bkv 0 0 0 0) 4 32 Try.underlying23 hib hz0 hz1 hz2 rfl (by decide) _ _ _ rfl hO0 ⟨gb, go_, none⟩ k _ (vL F (k * 4)) rfl (vL_len _ _) hS1 (vL_one _ _) (by unfold maxLen; omega) (by omega) (Nat.le_refl _) ?_); intro v4 w4 hO4 hg4 _)
          have hB4 : Below w3.heap.size w3 w4 := ⟨hg4.os, hg4.tape, hg4.output, hg4.size, fun x hx => hg4.block x hx (by intro e; cases e)⟩
          rw [List.nil_append, Nat.zero_add] at hO4
          have hb4 := hb3.on hB4
          clear hg4 hO0 hS1 hb3
          have x0 := hb4.c0
          have x1 := hb4.c1
          have x2 := hb4.c2
          have x3 : w4.cell? ⟨w.heap.size, 3, none⟩ = some (.int .i64 bw) := hb4.c 3 (by simp)
          have hB5 : Below w3.heap.size w3 (w4.alloc (.cells #[.int .i64 bl, .int .i64 bf, .int .i64 bt, .int .i64 bw] 25)) := hB4.alloc hB4.size _
          have hO5 : (w4.alloc (.cells #[.int .i64 bl, .int .i64 bf, .int .i64 bt, .int .i64 bw] 25)).ownsRow w3.heap.size 25 4 v4 k (vL F (k * 4)) := World.ownsRow.alloc hO4 _
          have hN5 := four_new w4 (.int .i64 bl) (.int .i64 bf) (.int .i64 bt) (.int .i64 bw) 25
          have hs5 := hB5.size
          clear hO4
          go_upto_region 9 with (at_builtin; go_loud (refine wpList_append_own _ rfl _ _ 23 rfl w3.heap.size 25 ib (bkv 0 0 0 0) 4 32 Try.underlying23 hib hz0 hz1 hz2 rfl (by decide) _ _ _ rfl hO5 ⟨w4.heap.size, 0, none⟩ 1 _ [.int .i64 bl, .int .i64 bf, .int .i64 bt, .int .i64 bw] rfl rfl hN5 (fun x hx => by simp at hx; rcases hx with rfl | rfl | rfl | rfl <;> rfl) (by unfold maxLen; omega) (by omega) hs5 ?_); intro v6 w6 hO6 hg6 _)
          have hB6 : Below w3.heap.size w3 w6 := hB5.grown hg6 hs5 (fun q hq => (World.ownsRow.lt hO5 q hq).1)
          clear hg6 hO5 hN5 hs5 hB5 x0 x1 x2 x3 hb4 hB4
          have hs6 := hB6.size
          have hS6 := hS2.out _ hB6
          clear hS2
          go_upto_region 10 with (at_builtin; go_loud (refine wpList_append_own _ rfl _ _ 23 rfl w3.heap.size 25 ib (bkv 0 0 0 0) 4 32 Try.underlying23 hib hz0 hz1 hz2 rfl (by decide) _ _ _ rfl hO6 ⟨gb, go_ + k * 4, none⟩ 0 _ (dropL F k k) rfl ((vL_len _ _).trans (by simp)) (fun j u hj => absurd (vL_at hj).1 (by omega)) (vL_one _ _) (by unfold maxLen; omega) (by omega) hs6 ?_); intro v7 w7 hO7 hg7 _)
          have hB7 : Below w3.heap.size w3 w7 := hB6.grown hg7 hs6 (fun q hq => (World.ownsRow.lt hO6 q hq).1)
          rw [ins_all (by omega), show k + 1 + 0 = k + 1 by omega] at hO7
          clear hg7 hO6 hS6 hs6 hB6
          have hsome : ∃ g9 c9, v7 = .slice (some ⟨g9, 0, none⟩) (k + 1) c9 ∧ w3.heap.size ≤ g9 := by
            obtain ⟨_, ⟨h1, h2⟩ | ⟨g9, cap, cur, h1, h2, _, h3, _⟩⟩ := hO7
            · omega
            · exact ⟨g9, cap, h1, h2⟩
          obtain ⟨g9, c9, rfl, hb9⟩ := hsome
          have HP : Hid (IP w7 g9 ((k + 1) * 4) (insF F k bl bf bt bw)) := ⟨(World.ownsRow.lt hO7 g9 rfl).2, fun i hi => by rw [World.ownsRow.cellAt hO7 i (by omega)]; exact vL_get hi, fun j => World.ownsRow.frozenAt hO7 j⟩
          have hB8 := stepA hB3 hB7
          have hs3 := hB3.size
          have hLQ : Hid (LQ w7 w.heap.size w7.heap.size (some ⟨g9, 0, none⟩) ((k + 1) * 4) (insF F k bl bf bt bw)) := lq_of HP.out (by omega) HP.out.lt
          clear hO7 hB7 HP
          go_wp2_with fail
          refine (kG2 _ _ _ hLQ.out.il).mono ?_
          rintro e w8 ⟨rfl, hb8⟩
          have hB9 := stepA hB8 hb8
          have hLQ8 := hLQ.out.on hb8
          cases R with
          | false =>
            go_wp2
            go_ret2
            exact ⟨HE.out _ _ _ (ansBk_nil _ _ _ _), hB9⟩
          | true =>
            go_wp2
            go_ret2
            exact ⟨HE.out _ _ _ ⟨_, _, rfl, hLQ8.wide (Nat.le_refl _) hb8.size⟩, hB9⟩
theorem sBook (a : Option Addr) (n c : Nat) (F : Nat → Int) (bl bf bt bw : Int) (w : World) (hn : n ≤ 1048576) (hA : InB w a n c F) :
    Calls Try.prog 6 #[.slice a n c, bkv bl bf bt bw] w fun e w' => AnsBx w w' e F n bl bf bt bw ∧ Below w.heap.size w w' := by
  cases e : bsB n F with
  | false => exact sBookNo a n c F bl bf bt bw w hn hA (by rw [e]; rfl)
  | true =>
    cases e2 : bkB bl bf bt bw with
    | false => exact sBookNo a n c F bl bf bt bw w hn hA (by rw [e, e2]; rfl)
    | true => exact sBookIn a n c F bl bf bt bw w hn hA e e2
end Go.Proofs.Ytdpblholoogikaa
