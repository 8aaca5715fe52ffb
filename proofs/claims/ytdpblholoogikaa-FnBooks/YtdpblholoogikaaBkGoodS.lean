/- Whether bookings are good, both sides. -/
import Derived.Test.YtdpblholoogikaaBkOne
import Derived.Deep.Cut
import Derived.BigQuiet
namespace Go.Proofs.Ytdpblholoogikaa
open Go.RowKit
theorem bk_box (w : World) (a f t u : Int) (ty : TypeId) : Bx (w.alloc (.cells #[.int .i64 a, .int .i64 f, .int .i64 t, .int .i64 u] ty)) w.heap.size [.int .i64 a, .int .i64 f, .int .i64 t, .int .i64 u] := bx_new (w := w) [.int .i64 a, .int .i64 f, .int .i64 t, .int .i64 u] ty rfl
theorem bx_four4 {w : World} {b : Nat} {p q r s : Value} (h : Bx w b [p, q, r, s]) : w.cell? ⟨b, 0, none⟩ = some p ∧ w.cell? ⟨b, 1, none⟩ = some q ∧ w.cell? ⟨b, 2, none⟩ = some r ∧ w.cell? ⟨b, 3, none⟩ = some s :=
  ⟨h.c 0 (show 0 < 4 by omega), h.c 1 (show 1 < 4 by omega), h.c 2 (show 2 < 4 by omega), h.c 3 (show 3 < 4 by omega)⟩
set_option maxRecDepth 20000 in
set_option maxHeartbeats 8000000 in
theorem sBooks (a : Option Addr) (n c : Nat) (F : Nat → Int) (w : World) (hn : n ≤ 1048576) (h : IL w a (n * 4) F) :
    Calls Try.prog 12 #[.slice a n c] w fun e w' => e = .returned (.bool (bsB n F)) ∧ Below w.heap.size w w' := by
  by_cases h1 : 40 < n
  · have j1 : (40 : Int) < (n : Int) := by omega
    have HV : Hid (bsB n F = false) := by show bsB n F = false; unfold bsB; rw [decide_eq_false (by omega)]; rfl
    go_enter Try.func12, Try.ntmps12
    go_wp2
    go_ret
    exact ⟨by rw [HV.out]; try rfl, Below.refl _ _⟩
  have j1 : ¬ (40 : Int) < (n : Int) := by omega
  have HV : Hid (bsB n F = bsK F n) := by show bsB n F = _; unfold bsB; rw [decide_eq_true (by omega)]; rfl
  go_enter Try.func12, Try.ntmps12
  go_wp2
  go_loopw [11] (fun i wr => ∃ k : Nat, k ≤ n ∧ i = .int .i64 (k : Int) ∧ Hid (bsK F k = true) ∧ Below w.heap.size w wr) (fun i _ => n - (intOf i).toNat)
  case atStart => exact ⟨0, Nat.zero_le _, rfl, (rfl : bsK F 0 = true), Below.refl _ _⟩
  case round =>
    obtain ⟨k, hk, rfl, HE, hB⟩ := hrel
    by_cases hlt : k < n
    · obtain ⟨gb, go_, rfl, gl_, x0, x1, x2, x3⟩ := il_four4 (h.below hB) hlt
      have i0 : (0 : Int) ≤ (k : Int) := by omega
      have i1 : (k : Int) < (n : Int) := by omega
      have HY : Hid (bkK F k = true → (k = 0 ∨ bhK F k = true) → bsK F (k + 1) = true) := fun h h2 => by
        show bsK F (k + 1) = true
        rw [bsK, HE.out, h]; rcases h2 with h2 | h2 <;> simp [h2]
      have HN : Hid (bkK F k = false ∨ (¬ k = 0 ∧ bhK F k = false) → bsB n F = false) := fun h => by
        show bsB n F = false
        rw [HV.out]; refine bsK_no hlt ?_
        rcases h with h | ⟨h2, h3⟩
        · rw [h]; rfl
        · rw [h3, decide_eq_false h2]; simp
      have hZ := bk_box wr (F (k * 4)) (F (k * 4 + 1)) (F (k * 4 + 2)) (F (k * 4 + 3)) 25
      have hBz : Below wr.heap.size wr (wr.alloc (.cells #[.int .i64 (F (k * 4)), .int .i64 (F (k * 4 + 1)), .int .i64 (F (k * 4 + 2)), .int .i64 (F (k * 4 + 3))] 25)) := (Below.refl _ _).alloc (Nat.le_refl _) _
      have hL1 : ∀ k', k' < n → ∀ w2, Below wr.heap.size wr w2 → w2.cell? ⟨gb, go_ + k' * 4, none⟩ = some (.int .i64 (F (k' * 4))) ∧ w2.cell? ⟨gb, go_ + k' * 4 + 1, none⟩ = some (.int .i64 (F (k' * 4 + 1))) ∧ w2.cell? ⟨gb, go_ + k' * 4 + 2, none⟩ = some (.int .i64 (F (k' * 4 + 2))) ∧ w2.cell? ⟨gb, go_ + k' * 4 + 3, none⟩ = some (.int .i64 (F (k' * 4 + 3))) := fun k' hk' w2 hb2 => by
        obtain ⟨gb', go', e, _, q0, q1, q2, q3⟩ := il_four4 ((h.below hB).below hb2) hk'
        cases e
        exact ⟨q0, q1, q2, q3⟩
      have HL : Hid (∀ k', k' < n → ∀ w2, Below wr.heap.size wr w2 → w2.cell? ⟨gb, go_ + k' * 4, none⟩ = some (.int .i64 (F (k' * 4))) ∧ w2.cell? ⟨gb, go_ + k' * 4 + 1, none⟩ = some (.int .i64 (F (k' * 4 + 1))) ∧ w2.cell? ⟨gb, go_ + k' * 4 + 2, none⟩ = some (.int .i64 (F (k' * 4 + 2))) ∧ w2.cell? ⟨gb, go_ + k' * 4 + 3, none⟩ = some (.int .i64 (F (k' * 4 + 3)))) := hL1
      have HKB : Hid (bkK F k = bkB (F (k * 4)) (F (k * 4 + 1)) (F (k * 4 + 2)) (F (k * 4 + 3))) := rfl
      have HBH : Hid (bhK F k = bhB (F ((k - 1) * 4)) (F ((k - 1) * 4 + 2)) (F (k * 4)) (F (k * 4 + 1))) := rfl
      have kO := fun w => sBook1 (F (k * 4)) (F (k * 4 + 1)) (F (k * 4 + 2)) (F (k * 4 + 3)) w
      clear hL1 h
      generalize F (k * 4) = A at x0 hZ hBz kO HKB HBH ⊢
      generalize F (k * 4 + 1) = B at x1 hZ hBz kO HKB HBH ⊢
      generalize F (k * 4 + 2) = C at x2 hZ hBz kO HKB HBH ⊢
      generalize F (k * 4 + 3) = D at x3 hZ hBz kO HKB HBH ⊢
      obtain ⟨y0, y1, y2, y3⟩ := bx_four4 hZ
      cases eb : bkB A B C D with
      | false =>
        rw [eb] at kO HKB
        go_wp2_with fail
        refine (kO _).mono ?_
        rintro e w2 ⟨rfl, hb2⟩
        clear kO y0 y1 y2 y3 x0 x1 x2 x3
        go_wp2
        go_ret
        exact ⟨ret_bool (HN.out (.inl HKB.out)).symm, stepA hB (stepA hBz hb2)⟩
      | true =>
        rw [eb] at kO HKB
        go_wp2_with fail
        refine (kO _).mono ?_
        rintro e w2 ⟨rfl, hb2⟩
        have hZ2 := hZ.on hb2
        have hB2 := stepA hBz hb2
        clear kO y0 y1 y2 y3 x0 x1 x2 x3 hZ hBz hb2
        by_cases k0 : k = 0
        · have k1 : ((k : Int) == 0) = true := by simp [k0]
          go_wp2
          exact ⟨⟨k + 1, by omega, by go_num, HY.out HKB.out (.inl k0), stepA hB hB2⟩, by simp [intOf]; omega⟩
        · have k1 : ((k : Int) == 0) = false := by simp; omega
          have k2 : (0 : Int) ≤ (k : Int) - 1 := by omega
          have k3 : (k : Int) - 1 < (n : Int) := by omega
          obtain ⟨p, hp⟩ : ∃ p : Nat, k = p + 1 := ⟨k - 1, by omega⟩
          have k4 : (k : Int) - 1 = (p : Int) := by omega
          have k5 : ((k : Int) - 1).toNat = p := by omega
          obtain ⟨q0, q1, q2, q3⟩ := HL.out p (by omega) w2 hB2
          rw [show k - 1 = p by omega] at HBH
          generalize F (p * 4) = A1 at q0 HBH
          generalize F (p * 4 + 1) = B1 at q1 HBH
          generalize F (p * 4 + 2) = C1 at q2 HBH
          generalize F (p * 4 + 3) = D1 at q3 HBH
          have hZ3 := hZ2.alloc (.cells #[.int .i64 A1, .int .i64 B1, .int .i64 C1, .int .i64 D1] 25)
          have hX := bk_box w2 A1 B1 C1 D1 25
          have hB3 : Below wr.heap.size wr (w2.alloc (.cells #[.int .i64 A1, .int .i64 B1, .int .i64 C1, .int .i64 D1] 25)) := hB2.alloc hB2.size _
          obtain ⟨y0, y1, y2, y3⟩ := bx_four4 hZ3
          obtain ⟨z0, z1, z2, z3⟩ := bx_four4 hX
          clear hZ2 hZ3 hX HL
          by_cases g0 : A < A1
          · have HF : Hid (bhK F k = false) := by show bhK F k = false; rw [HBH.out]; exact decide_eq_false (by omega)
            clear k4
            go_wp2
            go_ret
            exact ⟨ret_bool (HN.out (.inr ⟨k0, HF.out⟩)).symm, stepA hB hB3⟩
          by_cases g1 : A1 = A
          · subst g1
            by_cases g2 : B < C1
            · have HF : Hid (bhK F k = false) := by show bhK F k = false; rw [HBH.out]; exact decide_eq_false (by omega)
              clear k4
              go_wp2
              go_ret
              exact ⟨ret_bool (HN.out (.inr ⟨k0, HF.out⟩)).symm, stepA hB hB3⟩
            · have HT : Hid (bhK F k = true) := by show bhK F k = true; rw [HBH.out]; exact decide_eq_true (by omega)
              clear k4
              go_wp2
              exact ⟨⟨k + 1, by omega, by go_num, HY.out HKB.out (.inr HT.out), stepA hB hB3⟩, by simp [intOf]; omega⟩
          · have g3 : (A1 == A) = false := by simpa using g1
            have HT : Hid (bhK F k = true) := by show bhK F k = true; rw [HBH.out]; exact decide_eq_true (by omega)
            clear k4
            go_wp2
            exact ⟨⟨k + 1, by omega, by go_num, HY.out HKB.out (.inr HT.out), stepA hB hB3⟩, by simp [intOf]; omega⟩
    · have hke : k = n := by omega
      subst hke
      go_wp2
      go_ret
      exact ⟨ret_bool (by rw [HV.out]; exact HE.out.symm), hB⟩
end Go.Proofs.Ytdpblholoogikaa
