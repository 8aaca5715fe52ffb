/- Whether bookings are good, both sides. -/
import Derived.Test.YtdpblholoogikaaBkGoodS
import Derived.Deep.Cut
import Derived.BigQuiet
namespace Go.Proofs.Ytdpblholoogikaa
open Go.RowKit
theorem bk_boxI (w : World) (a f t u : Int) (ty : TypeId) : Bx (w.alloc (.cells #[.int .i64 a, .int .i64 f, .int .i64 t, .int .i64 u] ty)) w.heap.size [.int .i64 a, .int .i64 f, .int .i64 t, .int .i64 u] := bx_new (w := w) [.int .i64 a, .int .i64 f, .int .i64 t, .int .i64 u] ty rfl
theorem bx_four4I {w : World} {b : Nat} {p q r s : Value} (h : Bx w b [p, q, r, s]) : w.cell? ⟨b, 0, none⟩ = some p ∧ w.cell? ⟨b, 1, none⟩ = some q ∧ w.cell? ⟨b, 2, none⟩ = some r ∧ w.cell? ⟨b, 3, none⟩ = some s :=
  ⟨h.c 0 (show 0 < 4 by omega), h.c 1 (show 1 < 4 by omega), h.c 2 (show 2 < 4 by omega), h.c 3 (show 3 < 4 by omega)⟩
set_option maxRecDepth 20000 in
set_option maxHeartbeats 8000000 in
theorem iBooks (a : Option Addr) (n c : Nat) (F : Nat → Int) (w : World) (hn : n ≤ 1048576) (h : IL w a (n * 4) F) :
    Calls Try.prog 7 #[.slice a n c] w fun e w' => e = .returned (.bool (bsB n F)) ∧ Below w.heap.size w w' := by
  by_cases h1 : 40 < n
  · have j1 : (40 : Int) < (n : Int) := by omega
    have HV : Hid (bsB n F = false) := by show bsB n F = false; unfold bsB; rw [decide_eq_false (by omega)]; rfl
    go_enter Try.func7, Try.ntmps7
    go_wp2
    go_ret
    exact ⟨by rw [HV.out]; try rfl, Below.refl _ _⟩
  have j1 : ¬ (40 : Int) < (n : Int) := by omega
  have HV : Hid (bsB n F = bsK F n) := by show bsB n F = _; unfold bsB; rw [decide_eq_true (by omega)]; rfl
  go_enter Try.func7, Try.ntmps7
  go_wp2
  go_loopw [10] (fun i wr => ∃ k : Nat, k ≤ n ∧ i = .int .i64 (k : Int) ∧ Hid (bsK F k = true) ∧ Below w.heap.size w wr) (fun i _ => n - (intOf i).toNat)
  case atStart => exact ⟨0, Nat.zero_le _, rfl, (rfl : bsK F 0 = true), Below.refl _ _⟩
  case round =>
    obtain ⟨k, hk, rfl, HE, hB⟩ := hrel
    by_cases hlt : k < n
    · obtain ⟨gb, go_, rfl, gl_, x0, x1, x2, x3⟩ := il_four4 (h.below hB) hlt
      have i0 : (0 : Int) ≤ (k : Int) := by omega
      have i1 : (k : Int) < (n : Int) := by omega
      have HY : Hid (bkK F k = true → (k = 0 ∨ bhK F k = true) → bsK F (k + 1) = true) := fun h h2 => by
        show bsK F (k + 1) = true
        rw [bsK, HE.out, h]; rcases h2 with h2 | h2 <;> simp [h2]
      have HN : Hid (bkK F k = false ∨ (¬ k = 0 ∧ bhK F k = false) → bsB n F = false) := fun h => by
        show bsB n F = false
        rw [HV.out]; refine bsK_no hlt ?_
        rcases h with h | ⟨h2, h3⟩
        · rw [h]; rfl
        · rw [h3, decide_eq_false h2]; simp
      have hZ := bk_box wr (F (k * 4)) (F (k * 4 + 1)) (F (k * 4 + 2)) (F (k * 4 + 3)) 25
      have hBz : Below wr.heap.size wr (wr.alloc (.cells #[.int .i64 (F (k * 4)), .int .i64 (F (k * 4 + 1)), .int .i64 (F (k * 4 + 2)), .int .i64 (F (k * 4 + 3))] 25)) := (Below.refl _ _).alloc (Nat.le_refl _) _
      have hL1 : ∀ k', k' < n → ∀ w2, Below wr.heap.size wr w2 → w2.cell? ⟨gb, go_ + k' * 4, none⟩ = some (.int .i64 (F (k' * 4))) ∧ w2.cell? ⟨gb, go_ + k' * 4 + 1, none⟩ = some (.int .i64 (F (k' * 4 + 1))) ∧ w2.cell? ⟨gb, go_ + k' * 4 + 2, none⟩ = some (.int .i64 (F (k' * 4 + 2))) ∧ w2.cell? ⟨gb, go_ + k' * 4 + 3, none⟩ = some (.int .i64 (F (k' * 4 + 3))) := fun k' hk' w2 hb2 => by
        obtain ⟨gb', go', e, _, q0, q1, q2, q3⟩ := il_four4 ((h.below hB).below hb2) hk'
        cases e
        exact ⟨q0, q1, q2, q3⟩
      have HL : Hid (∀ k', k' < n → ∀ w2, Below wr.heap.size wr w2 → w2.cell? ⟨gb, go_ + k' * 4, none⟩ = some (.int .i64 (F (k' * 4))) ∧ w2.cell? ⟨gb, go_ + k' * 4 + 1, none⟩ = some (.int .i64 (F (k' * 4 + 1))) ∧ w2.cell? ⟨gb, go_ + k' * 4 + 2, none⟩ = some (.int .i64 (F (k' * 4 + 2))) ∧ w2.cell? ⟨gb, go_ + k' * 4 + 3, none⟩ = some (.int .i64 (F (k' * 4 + 3)))) := hL1
      have HKB : Hid (bkK F k = bkB (F (k * 4)) (F (k * 4 + 1)) (F (k * 4 + 2)) (F (k * 4 + 3))) := rfl
      have HBH : Hid (bhK F k = bhB (F ((k - 1) * 4)) (F ((k - 1) * 4 + 2)) (F (k * 4)) (F (k * 4 + 1))) := rfl
      have kO := fun w => iBook1 (F (k * 4)) (F (k * 4 + 1)) (F (k * 4 + 2)) (F (k * 4 + 3)) w
      clear hL1 h
      generalize F (k * 4) = A at x0 hZ hBz kO HKB HBH ⊢
      generalize F (k * 4 + 1) = B at x1 hZ hBz kO HKB HBH ⊢
      generalize F (k * 4 + 2) = C at x2 hZ hBz kO HKB HBH ⊢
      generalize F (k * 4 + 3) = D at x3 hZ hBz kO HKB HBH ⊢
      have HC0 : Hid (∀ w2, Below (wr.alloc (.cells #[.int .i64 A, .int .i64 B, .int .i64 C, .int .i64 D] 25)).heap.size (wr.alloc (.cells #[.int .i64 A, .int .i64 B, .int .i64 C, .int .i64 D] 25)) w2 → w2.cell? ⟨wr.heap.size, 0, none⟩ = some (.int .i64 A) ∧ w2.cell? ⟨wr.heap.size, 1, none⟩ = some (.int .i64 B) ∧ w2.cell? ⟨wr.heap.size, 2, none⟩ = some (.int .i64 C) ∧ w2.cell? ⟨wr.heap.size, 3, none⟩ = some (.int .i64 D)) := fun w2 hb => bx_four4 (hZ.on hb)
      clear hZ
      go_upto_region 6 with fail
      generalize hwz : wr.alloc (.cells #[.int .i64 A, .int .i64 B, .int .i64 C, .int .i64 D] 25) = wz at hBz HC0 ⊢
      clear hwz
      have hw0 := Below.refl wz.heap.size wz
      clear x0 x1 x2 x3
      cases eb : bkB A B C D with
      | false =>
        rw [eb] at kO HKB
        have HC := HC0
        clear HC0
        refine wp_region_held (S := (fun w' => w'.cell? ⟨wr.heap.size, 0, none⟩ = some (.int .i64 A) ∧ w'.cell? ⟨wr.heap.size, 1, none⟩ = some (.int .i64 B) ∧ w'.cell? ⟨wr.heap.size, 2, none⟩ = some (.int .i64 C) ∧ w'.cell? ⟨wr.heap.size, 3, none⟩ = some (.int .i64 D))) (by kernel_rfl) ?_
        change wpAnyH _ _ _ _ _ _ _ _ (World.drew _)
        have hSw := (HC.out _ (hw0.drew) : _ ∧ _ ∧ _ ∧ _)
        refine wpAnyH_take (i := 0) (v := bkv A B C D) rfl (by kernel_rfl) (by kernel_rfl) (by kernel_rfl) (fun _ _ _ h => h) (Or.inl ⟨by rfl, ?_⟩) hSw ?_
        · intro wz hsz
          obtain ⟨y0, y1, y2, y3⟩ := hsz
          go_simp
        try simp [Act.put]
        refine wpAnyH_ready (rs := [1]) (by kernel_rfl) (by simp) ?_
        refine AllReadyH.cons rfl (fun K hK => ?_) AllReadyH.nil
        go_simp
        go_wp2_with (first | (go_at_call 23; refine (kO _).mono ?_; rintro e w5 ⟨rfl, hb5⟩; have hw1 := stepA hw0.drew hb5; clear hb5) | (fail))
        refine hK.out _ _ (HC.out _ hw1) (fun hSn => ?_)
        clear hK K hSw
        have hSw := hSn
        clear hSn
        try simp [Act.put]
        refine wpAnyH_take (i := 2) (v := .bool true) rfl (by kernel_rfl) (by kernel_rfl) (by kernel_rfl) (fun _ _ _ h => h) (Or.inl ⟨by rfl, ?_⟩) hSw ?_
        · intro wz hsz
          obtain ⟨y0, y1, y2, y3⟩ := hsz
          go_simp
        try simp [Act.put]
        refine wpAnyH_take (i := 3) (v := .bool true) rfl (by kernel_rfl) (by kernel_rfl) (by kernel_rfl) (fun _ _ _ h => h) (Or.inl ⟨by rfl, ?_⟩) hSw ?_
        · intro wz hsz
          obtain ⟨y0, y1, y2, y3⟩ := hsz
          go_simp
        try simp [Act.put]
        refine wpAnyH_take (i := 4) (v := undef) rfl (by kernel_rfl) (by kernel_rfl) (by kernel_rfl) (fun _ _ _ h => h) (Or.inr ⟨by kernel_rfl, rfl⟩) hSw ?_
        try simp [Act.put]
        refine wpAnyH_take (i := 5) (v := undef) rfl (by kernel_rfl) (by kernel_rfl) (by kernel_rfl) (fun _ _ _ h => h) (Or.inr ⟨by kernel_rfl, rfl⟩) hSw ?_
        try simp [Act.put]
        refine wpAnyH_take (i := 6) (v := undef) rfl (by kernel_rfl) (by kernel_rfl) (by kernel_rfl) (fun _ _ _ h => h) (Or.inr ⟨by kernel_rfl, rfl⟩) hSw ?_
        try simp [Act.put]
        refine wpAnyH_take (i := 7) (v := undef) rfl (by kernel_rfl) (by kernel_rfl) (by kernel_rfl) (fun _ _ _ h => h) (Or.inr ⟨by kernel_rfl, rfl⟩) hSw ?_
        try simp [Act.put]
        refine wpAnyH_take (i := 8) (v := undef) rfl (by kernel_rfl) (by kernel_rfl) (by kernel_rfl) (fun _ _ _ h => h) (Or.inr ⟨by kernel_rfl, rfl⟩) hSw ?_
        try simp [Act.put]
        refine wpAnyH_take (i := 9) (v := undef) rfl (by kernel_rfl) (by kernel_rfl) (by kernel_rfl) (fun _ _ _ h => h) (Or.inr ⟨by kernel_rfl, rfl⟩) hSw ?_
        try simp [Act.put]
        refine wpAnyH_take (i := 10) (v := undef) rfl (by kernel_rfl) (by kernel_rfl) (by kernel_rfl) (fun _ _ _ h => h) (Or.inr ⟨by kernel_rfl, rfl⟩) hSw ?_
        try simp [Act.put]
        refine wpAnyH_take (i := 11) (v := undef) rfl (by kernel_rfl) (by kernel_rfl) (by kernel_rfl) (fun _ _ _ h => h) (Or.inr ⟨by kernel_rfl, rfl⟩) hSw ?_
        try simp [Act.put]
        refine wpAnyH_take (i := 12) (v := undef) rfl (by kernel_rfl) (by kernel_rfl) (by kernel_rfl) (fun _ _ _ h => h) (Or.inr ⟨by kernel_rfl, rfl⟩) hSw ?_
        try simp [Act.put]
        refine wpAnyH_take (i := 13) (v := undef) rfl (by kernel_rfl) (by kernel_rfl) (by kernel_rfl) (fun _ _ _ h => h) (Or.inr ⟨by kernel_rfl, rfl⟩) hSw ?_
        try simp [Act.put]
        refine wpAnyH_take (i := 14) (v := undef) rfl (by kernel_rfl) (by kernel_rfl) (by kernel_rfl) (fun _ _ _ h => h) (Or.inr ⟨by kernel_rfl, rfl⟩) hSw ?_
        try simp [Act.put]
        refine wpAnyH_take (i := 15) (v := undef) rfl (by kernel_rfl) (by kernel_rfl) (by kernel_rfl) (fun _ _ _ h => h) (Or.inr ⟨by kernel_rfl, rfl⟩) hSw ?_
        try simp [Act.put]
        refine wpAnyH_take (i := 16) (v := .bool true) rfl (by kernel_rfl) (by kernel_rfl) (by kernel_rfl) (fun _ _ _ h => h) (Or.inl ⟨by rfl, ?_⟩) hSw ?_
        · intro wz hsz
          obtain ⟨y0, y1, y2, y3⟩ := hsz
          go_simp
        try simp [Act.put]
        refine wpAnyH_done (by kernel_rfl) ?_ _
        go_wp2
        go_ret
        exact ⟨ret_bool (HN.out (.inl HKB.out)).symm, stepA hB (stepA hBz hw1)⟩
      | true =>
        rw [eb] at kO HKB
        by_cases k0 : k = 0
        · have k1 : decide ((0 : Int) < (k : Int)) = false := by simp; omega
          have HC := HC0
          clear HC0 HL
          refine wp_region_held (S := (fun w' => w'.cell? ⟨wr.heap.size, 0, none⟩ = some (.int .i64 A) ∧ w'.cell? ⟨wr.heap.size, 1, none⟩ = some (.int .i64 B) ∧ w'.cell? ⟨wr.heap.size, 2, none⟩ = some (.int .i64 C) ∧ w'.cell? ⟨wr.heap.size, 3, none⟩ = some (.int .i64 D))) (by kernel_rfl) ?_
          change wpAnyH _ _ _ _ _ _ _ _ (World.drew _)
          have hSw := (HC.out _ (hw0.drew) : _ ∧ _ ∧ _ ∧ _)
          refine wpAnyH_take (i := 0) (v := bkv A B C D) rfl (by kernel_rfl) (by kernel_rfl) (by kernel_rfl) (fun _ _ _ h => h) (Or.inl ⟨by rfl, ?_⟩) hSw ?_
          · intro wz hsz
            obtain ⟨y0, y1, y2, y3⟩ := hsz
            go_simp
          try simp [Act.put]
          refine wpAnyH_ready (rs := [1]) (by kernel_rfl) (by simp) ?_
          refine AllReadyH.cons rfl (fun K hK => ?_) AllReadyH.nil
          go_simp
          go_wp2_with (first | (go_at_call 23; refine (kO _).mono ?_; rintro e w5 ⟨rfl, hb5⟩; have hw1 := stepA hw0.drew hb5; clear hb5) | (fail))
          refine hK.out _ _ (HC.out _ hw1) (fun hSn => ?_)
          clear hK K hSw
          have hSw := hSn
          clear hSn
          try simp [Act.put]
          refine wpAnyH_take (i := 2) (v := .bool false) rfl (by kernel_rfl) (by kernel_rfl) (by kernel_rfl) (fun _ _ _ h => h) (Or.inl ⟨by rfl, ?_⟩) hSw ?_
          · intro wz hsz
            obtain ⟨y0, y1, y2, y3⟩ := hsz
            go_simp
          try simp [Act.put]
          refine wpAnyH_take (i := 3) (v := .bool false) rfl (by kernel_rfl) (by kernel_rfl) (by kernel_rfl) (fun _ _ _ h => h) (Or.inl ⟨by rfl, ?_⟩) hSw ?_
          · intro wz hsz
            obtain ⟨y0, y1, y2, y3⟩ := hsz
            go_simp
          try simp [Act.put]
          refine wpAnyH_take (i := 4) (v := .int .i64 (k : Int)) rfl (by kernel_rfl) (by kernel_rfl) (by kernel_rfl) (fun _ _ _ h => h) (Or.inl ⟨by rfl, ?_⟩) hSw ?_
          · intro wz hsz
            obtain ⟨y0, y1, y2, y3⟩ := hsz
            go_simp
          try simp [Act.put]
          refine wpAnyH_take (i := 5) (v := .bool false) rfl (by kernel_rfl) (by kernel_rfl) (by kernel_rfl) (fun _ _ _ h => h) (Or.inl ⟨by rfl, ?_⟩) hSw ?_
          · intro wz hsz
            obtain ⟨y0, y1, y2, y3⟩ := hsz
            go_simp
          try simp [Act.put]
          refine wpAnyH_take (i := 6) (v := .bool false) rfl (by kernel_rfl) (by kernel_rfl) (by kernel_rfl) (fun _ _ _ h => h) (Or.inl ⟨by rfl, ?_⟩) hSw ?_
          · intro wz hsz
            obtain ⟨y0, y1, y2, y3⟩ := hsz
            go_simp
          try simp [Act.put]
          refine wpAnyH_take (i := 7) (v := undef) rfl (by kernel_rfl) (by kernel_rfl) (by kernel_rfl) (fun _ _ _ h => h) (Or.inr ⟨by kernel_rfl, rfl⟩) hSw ?_
          try simp [Act.put]
          refine wpAnyH_take (i := 8) (v := undef) rfl (by kernel_rfl) (by kernel_rfl) (by kernel_rfl) (fun _ _ _ h => h) (Or.inr ⟨by kernel_rfl, rfl⟩) hSw ?_
          try simp [Act.put]
          refine wpAnyH_take (i := 9) (v := undef) rfl (by kernel_rfl) (by kernel_rfl) (by kernel_rfl) (fun _ _ _ h => h) (Or.inr ⟨by kernel_rfl, rfl⟩) hSw ?_
          try simp [Act.put]
          refine wpAnyH_take (i := 10) (v := undef) rfl (by kernel_rfl) (by kernel_rfl) (by kernel_rfl) (fun _ _ _ h => h) (Or.inr ⟨by kernel_rfl, rfl⟩) hSw ?_
          try simp [Act.put]
          refine wpAnyH_take (i := 11) (v := undef) rfl (by kernel_rfl) (by kernel_rfl) (by kernel_rfl) (fun _ _ _ h => h) (Or.inr ⟨by kernel_rfl, rfl⟩) hSw ?_
          try simp [Act.put]
          refine wpAnyH_take (i := 12) (v := undef) rfl (by kernel_rfl) (by kernel_rfl) (by kernel_rfl) (fun _ _ _ h => h) (Or.inr ⟨by kernel_rfl, rfl⟩) hSw ?_
          try simp [Act.put]
          refine wpAnyH_take (i := 13) (v := undef) rfl (by kernel_rfl) (by kernel_rfl) (by kernel_rfl) (fun _ _ _ h => h) (Or.inr ⟨by kernel_rfl, rfl⟩) hSw ?_
          try simp [Act.put]
          refine wpAnyH_take (i := 14) (v := undef) rfl (by kernel_rfl) (by kernel_rfl) (by kernel_rfl) (fun _ _ _ h => h) (Or.inr ⟨by kernel_rfl, rfl⟩) hSw ?_
          try simp [Act.put]
          refine wpAnyH_take (i := 15) (v := .bool false) rfl (by kernel_rfl) (by kernel_rfl) (by kernel_rfl) (fun _ _ _ h => h) (Or.inl ⟨by rfl, ?_⟩) hSw ?_
          · intro wz hsz
            obtain ⟨y0, y1, y2, y3⟩ := hsz
            go_simp
          try simp [Act.put]
          refine wpAnyH_take (i := 16) (v := .bool false) rfl (by kernel_rfl) (by kernel_rfl) (by kernel_rfl) (fun _ _ _ h => h) (Or.inl ⟨by rfl, ?_⟩) hSw ?_
          · intro wz hsz
            obtain ⟨y0, y1, y2, y3⟩ := hsz
            go_simp
          try simp [Act.put]
          refine wpAnyH_done (by kernel_rfl) ?_ _
          go_wp2
          exact ⟨⟨k + 1, by omega, by go_num, HY.out HKB.out (.inl k0), stepA hB (stepA hBz hw1)⟩, by simp [intOf]; omega⟩
        · have k1 : decide ((0 : Int) < (k : Int)) = true := by simp; omega
          obtain ⟨p, hp⟩ : ∃ p : Nat, k = p + 1 := ⟨k - 1, by omega⟩
          have k4 : wrap64 ((k : Int) - 1) = (p : Int) := by unfold wrap64; omega
          have k5 : (k : Int) - 1 = (p : Int) := by omega
          have k6 : (0 : Int) ≤ (p : Int) := by omega
          have k7 : (p : Int) < (n : Int) := by omega
          rw [show k - 1 = p by omega] at HBH
          have hq := HL.out p (by omega)
          clear HL
          have kH := fun w => iBehind (F (p * 4)) (F (p * 4 + 1)) (F (p * 4 + 2)) (F (p * 4 + 3)) A B C D w
          generalize F (p * 4) = A1 at hq HBH kH
          generalize F (p * 4 + 1) = B1 at hq HBH kH
          generalize F (p * 4 + 2) = C1 at hq HBH kH
          generalize F (p * 4 + 3) = D1 at hq HBH kH
          have HC : Hid (∀ w2, Below wz.heap.size wz w2 → w2.cell? ⟨wr.heap.size, 0, none⟩ = some (.int .i64 A) ∧ w2.cell? ⟨wr.heap.size, 1, none⟩ = some (.int .i64 B) ∧ w2.cell? ⟨wr.heap.size, 2, none⟩ = some (.int .i64 C) ∧ w2.cell? ⟨wr.heap.size, 3, none⟩ = some (.int .i64 D) ∧ w2.cell? ⟨gb, go_ + p * 4, none⟩ = some (.int .i64 A1) ∧ w2.cell? ⟨gb, go_ + p * 4 + 1, none⟩ = some (.int .i64 B1) ∧ w2.cell? ⟨gb, go_ + p * 4 + 2, none⟩ = some (.int .i64 C1) ∧ w2.cell? ⟨gb, go_ + p * 4 + 3, none⟩ = some (.int .i64 D1)) := fun w2 hb => by
            obtain ⟨a0, a1, a2, a3⟩ := HC0.out w2 hb
            obtain ⟨b0, b1, b2, b3⟩ := hq w2 (stepA hBz hb)
            exact ⟨a0, a1, a2, a3, b0, b1, b2, b3⟩
          have hB := stepA hB hBz
          clear HC0 hq hBz
          generalize eq : bhB A1 C1 A B = Q at kH HBH
          clear eq hp
          refine wp_region_held (S := (fun w' => w'.cell? ⟨wr.heap.size, 0, none⟩ = some (.int .i64 A) ∧ w'.cell? ⟨wr.heap.size, 1, none⟩ = some (.int .i64 B) ∧ w'.cell? ⟨wr.heap.size, 2, none⟩ = some (.int .i64 C) ∧ w'.cell? ⟨wr.heap.size, 3, none⟩ = some (.int .i64 D) ∧ w'.cell? ⟨gb, go_ + p * 4, none⟩ = some (.int .i64 A1) ∧ w'.cell? ⟨gb, go_ + p * 4 + 1, none⟩ = some (.int .i64 B1) ∧ w'.cell? ⟨gb, go_ + p * 4 + 2, none⟩ = some (.int .i64 C1) ∧ w'.cell? ⟨gb, go_ + p * 4 + 3, none⟩ = some (.int .i64 D1))) (by kernel_rfl) ?_
          change wpAnyH _ _ _ _ _ _ _ _ (World.drew _)
          have hSw := (HC.out _ (hw0.drew) : _ ∧ _ ∧ _ ∧ _ ∧ _ ∧ _ ∧ _ ∧ _)
          refine wpAnyH_take (i := 0) (v := bkv A B C D) rfl (by kernel_rfl) (by kernel_rfl) (by kernel_rfl) (fun _ _ _ h => h) (Or.inl ⟨by rfl, ?_⟩) hSw ?_
          · intro wz hsz
            obtain ⟨y0, y1, y2, y3, z0, z1, z2, z3⟩ := hsz
            go_simp
          try simp [Act.put]
          refine wpAnyH_ready (rs := [1]) (by kernel_rfl) (by simp) ?_
          refine AllReadyH.cons rfl (fun K hK => ?_) AllReadyH.nil
          go_simp
          go_wp2_with (first | (go_at_call 23; refine (kO _).mono ?_; rintro e w5 ⟨rfl, hb5⟩; have hw1 := stepA hw0.drew hb5; clear hb5) | (fail))
          refine hK.out _ _ (HC.out _ hw1) (fun hSn => ?_)
          clear hK K hSw
          have hSw := hSn
          clear hSn
          try simp [Act.put]
          refine wpAnyH_take (i := 2) (v := .bool false) rfl (by kernel_rfl) (by kernel_rfl) (by kernel_rfl) (fun _ _ _ h => h) (Or.inl ⟨by rfl, ?_⟩) hSw ?_
          · intro wz hsz
            obtain ⟨y0, y1, y2, y3, z0, z1, z2, z3⟩ := hsz
            go_simp
          try simp [Act.put]
          refine wpAnyH_take (i := 3) (v := .bool false) rfl (by kernel_rfl) (by kernel_rfl) (by kernel_rfl) (fun _ _ _ h => h) (Or.inl ⟨by rfl, ?_⟩) hSw ?_
          · intro wz hsz
            obtain ⟨y0, y1, y2, y3, z0, z1, z2, z3⟩ := hsz
            go_simp
          try simp [Act.put]
          refine wpAnyH_take (i := 4) (v := .int .i64 (k : Int)) rfl (by kernel_rfl) (by kernel_rfl) (by kernel_rfl) (fun _ _ _ h => h) (Or.inl ⟨by rfl, ?_⟩) hSw ?_
          · intro wz hsz
            obtain ⟨y0, y1, y2, y3, z0, z1, z2, z3⟩ := hsz
            go_simp
          try simp [Act.put]
          refine wpAnyH_take (i := 5) (v := .bool true) rfl (by kernel_rfl) (by kernel_rfl) (by kernel_rfl) (fun _ _ _ h => h) (Or.inl ⟨by rfl, ?_⟩) hSw ?_
          · intro wz hsz
            obtain ⟨y0, y1, y2, y3, z0, z1, z2, z3⟩ := hsz
            go_simp
            try omega
          try simp [Act.put]
          refine wpAnyH_take (i := 6) (v := .bool true) rfl (by kernel_rfl) (by kernel_rfl) (by kernel_rfl) (fun _ _ _ h => h) (Or.inl ⟨by rfl, ?_⟩) hSw ?_
          · intro wz hsz
            obtain ⟨y0, y1, y2, y3, z0, z1, z2, z3⟩ := hsz
            go_simp
          try simp [Act.put]
          refine wpAnyH_take (i := 7) (v := .slice (some ⟨gb, go_, none⟩) n c) rfl (by kernel_rfl) (by kernel_rfl) (by kernel_rfl) (fun _ _ _ h => h) (Or.inl ⟨by rfl, ?_⟩) hSw ?_
          · intro wz hsz
            obtain ⟨y0, y1, y2, y3, z0, z1, z2, z3⟩ := hsz
            go_simp
          try simp [Act.put]
          refine wpAnyH_take (i := 8) (v := .int .i64 (k : Int)) rfl (by kernel_rfl) (by kernel_rfl) (by kernel_rfl) (fun _ _ _ h => h) (Or.inl ⟨by rfl, ?_⟩) hSw ?_
          · intro wz hsz
            obtain ⟨y0, y1, y2, y3, z0, z1, z2, z3⟩ := hsz
            go_simp
          try simp [Act.put]
          refine wpAnyH_take (i := 9) (v := .int .i64 (p : Int)) rfl (by kernel_rfl) (by kernel_rfl) (by kernel_rfl) (fun _ _ _ h => h) (Or.inl ⟨by rfl, ?_⟩) hSw ?_
          · intro wz hsz
            obtain ⟨y0, y1, y2, y3, z0, z1, z2, z3⟩ := hsz
            go_simp
            try exact IntWalk.i64_in _ ⟨by omega, by omega⟩
          try simp [Act.put]
          refine wpAnyH_take (i := 10) (v := .pointer (some ⟨gb, go_ + p * 4, none⟩)) rfl (by kernel_rfl) (by kernel_rfl) (by kernel_rfl) (fun _ _ _ h => h) (Or.inl ⟨by rfl, ?_⟩) hSw ?_
          · intro wz hsz
            obtain ⟨y0, y1, y2, y3, z0, z1, z2, z3⟩ := hsz
            go_simp
            try (intro h9; omega)
          try simp [Act.put]
          refine wpAnyH_take (i := 11) (v := bkv A1 B1 C1 D1) rfl (by kernel_rfl) (by kernel_rfl) (by kernel_rfl) (fun _ _ _ h => h) (Or.inl ⟨by rfl, ?_⟩) hSw ?_
          · intro wz hsz
            obtain ⟨y0, y1, y2, y3, z0, z1, z2, z3⟩ := hsz
            go_simp
          try simp [Act.put]
          refine wpAnyH_take (i := 12) (v := bkv A B C D) rfl (by kernel_rfl) (by kernel_rfl) (by kernel_rfl) (fun _ _ _ h => h) (Or.inl ⟨by rfl, ?_⟩) hSw ?_
          · intro wz hsz
            obtain ⟨y0, y1, y2, y3, z0, z1, z2, z3⟩ := hsz
            go_simp
          try simp [Act.put]
          refine wpAnyH_ready (rs := [13]) (by kernel_rfl) (by simp) ?_
          refine AllReadyH.cons rfl (fun K hK => ?_) AllReadyH.nil
          go_simp
          go_wp2_with (first | (go_at_call 24; refine (kH _).mono ?_; rintro e w6 ⟨rfl, hb6⟩; have hw2 := stepA hw1 hb6; clear hb6) | (fail))
          refine hK.out _ _ (HC.out _ hw2) (fun hSn => ?_)
          clear hK K hSw
          have hSw := hSn
          clear hSn
          try simp [Act.put]
          cases Q with
          | true =>
            refine wpAnyH_take (i := 14) (v := .bool false) rfl (by kernel_rfl) (by kernel_rfl) (by kernel_rfl) (fun _ _ _ h => h) (Or.inl ⟨by rfl, ?_⟩) hSw ?_
            · intro wz hsz
              obtain ⟨y0, y1, y2, y3, z0, z1, z2, z3⟩ := hsz
              go_simp
            try simp [Act.put]
            refine wpAnyH_take (i := 15) (v := .bool false) rfl (by kernel_rfl) (by kernel_rfl) (by kernel_rfl) (fun _ _ _ h => h) (Or.inl ⟨by rfl, ?_⟩) hSw ?_
            · intro wz hsz
              obtain ⟨y0, y1, y2, y3, z0, z1, z2, z3⟩ := hsz
              go_simp
            try simp [Act.put]
            refine wpAnyH_take (i := 16) (v := .bool false) rfl (by kernel_rfl) (by kernel_rfl) (by kernel_rfl) (fun _ _ _ h => h) (Or.inl ⟨by rfl, ?_⟩) hSw ?_
            · intro wz hsz
              obtain ⟨y0, y1, y2, y3, z0, z1, z2, z3⟩ := hsz
              go_simp
            try simp [Act.put]
            refine wpAnyH_done (by kernel_rfl) ?_ _
            go_wp2
            exact ⟨⟨k + 1, by omega, by go_num, HY.out HKB.out (.inr HBH.out), stepA hB hw2⟩, by simp [intOf]; omega⟩
          | false =>
            refine wpAnyH_take (i := 14) (v := .bool true) rfl (by kernel_rfl) (by kernel_rfl) (by kernel_rfl) (fun _ _ _ h => h) (Or.inl ⟨by rfl, ?_⟩) hSw ?_
            · intro wz hsz
              obtain ⟨y0, y1, y2, y3, z0, z1, z2, z3⟩ := hsz
              go_simp
            try simp [Act.put]
            refine wpAnyH_take (i := 15) (v := .bool true) rfl (by kernel_rfl) (by kernel_rfl) (by kernel_rfl) (fun _ _ _ h => h) (Or.inl ⟨by rfl, ?_⟩) hSw ?_
            · intro wz hsz
              obtain ⟨y0, y1, y2, y3, z0, z1, z2, z3⟩ := hsz
              go_simp
            try simp [Act.put]
            refine wpAnyH_take (i := 16) (v := .bool true) rfl (by kernel_rfl) (by kernel_rfl) (by kernel_rfl) (fun _ _ _ h => h) (Or.inl ⟨by rfl, ?_⟩) hSw ?_
            · intro wz hsz
              obtain ⟨y0, y1, y2, y3, z0, z1, z2, z3⟩ := hsz
              go_simp
            try simp [Act.put]
            refine wpAnyH_done (by kernel_rfl) ?_ _
            go_wp2
            go_ret
            exact ⟨ret_bool (HN.out (.inr ⟨k0, HBH.out⟩)).symm, stepA hB hw2⟩
    · have hke : k = n := by omega
      subst hke
      go_wp2
      go_ret
      exact ⟨ret_bool (by rw [HV.out]; exact HE.out.symm), hB⟩
end Go.Proofs.Ytdpblholoogikaa
