/- No six alike, and frames that are the same: the model's own functions. -/
import Derived.Test.YtplpggcbpcebcaaDoorFdM
import Derived.BigQuiet
namespace Go.Proofs.YtplpggcbpcebcaaDoor
open Go.RowKit
set_option maxHeartbeats 2000000 in
theorem noSix (s : ByteArray) (w : World) (hs : s.size ≤ 1048576) (h : ∀ i, i ≤ s.size → nsK (bt s) i ≤ 5) :
    Calls Tryd.prog 15 #[.string s] w fun e w' => e = .returned (.bool true) ∧ Below w.heap.size w w' := by
  have HN : Hid (∀ i, i ≤ s.size → nsK (bt s) i ≤ 5) := h
  have HP : Hid (∀ i, 0 ≤ nsK (bt s) i) := fun i => by
    induction i with
    | zero => exact Int.le_refl _
    | succ k ih => rw [nsK]; split <;> omega
  have hix := fun i hi w => ix_bt (P := Tryd.prog) Tryd.underlying9 s i hi w
  clear h
  go_enter Tryd.func15, Tryd.ntmps15
  go_wp2
  go_loopw [3, 4] (fun r i wr => ∃ (k : Nat) (R : Int), k ≤ s.size ∧ r = .int .i64 R ∧ i = .int .i64 (k : Int) ∧ Hid (R = nsK (bt s) k) ∧ Below w.heap.size w wr) (fun _ i _ => s.size - (intOf i).toNat)
  case atStart => exact ⟨0, 0, Nat.zero_le _, rfl, rfl, (rfl : 0 = nsK (bt s) 0), Below.refl _ _⟩
  case round =>
    obtain ⟨k, R, hk, rfl, rfl, HR, hB⟩ := hrel
    by_cases hl : k < s.size
    · have r0 : 0 ≤ R := by rw [HR.out]; exact HP.out k
      have r1 : R ≤ 5 := by rw [HR.out]; exact HN.out k hk
      have n1 := HN.out (k + 1) hl
      have j1 : (k : Int) < (s.size : Int) := by omega
      by_cases h0 : 0 < k
      · have j0 : decide ((0 : Int) < (k : Int)) = true := decide_eq_true (by omega)
        have y0 := hix k hl
        have y1 := hix (k - 1) (by omega)
        rw [show ((k - 1 : Nat) : Int) = (k : Int) - 1 by omega] at y1
        by_cases e : bt s k = bt s (k - 1)
        · have HS : Hid (R + 1 = nsK (bt s) (k + 1)) := by show _ = _; rw [nsK, if_pos ⟨h0, e⟩, ← HR.out]
          have q5 : ¬ (5 : Int) < R + 1 := by rw [HS.out]; omega
          rw [← e] at y1
          have eb : (bt s k == bt s k) = true := beq_self_eq_true _
          clear e HR n1 hix
          generalize bt s k = x at *
          go_upto_region 5 with fail
          go_quiet (fail)
          go_wp2
          exact ⟨⟨k + 1, R + 1, by omega, rfl, by go_num, HS, by first | exact hB | exact below_dr hB _ | exact hB.drew⟩, by simp [intOf]; omega⟩
        · have HS : Hid (1 = nsK (bt s) (k + 1)) := by show _ = _; rw [nsK, if_neg (fun q => e q.2)]
          have eb : (bt s k == bt s (k - 1)) = false := beq_eq_false_iff_ne.2 e
          clear e HR n1 hix
          generalize bt s (k - 1) = z at *
          generalize bt s k = x at *
          go_upto_region 5 with fail
          go_quiet (fail)
          go_wp2
          exact ⟨⟨k + 1, 1, by omega, rfl, by go_num, HS, by first | exact hB | exact below_dr hB _ | exact hB.drew⟩, by simp [intOf]; omega⟩
      · have hk0 : k = 0 := by omega
        subst hk0
        have HS : Hid (1 = nsK (bt s) (0 + 1)) := by show _ = _; rw [nsK, if_neg (fun q => h0 q.1)]
        have j0 : decide ((0 : Int) < ((0 : Nat) : Int)) = false := by decide
        clear hix HR n1
        go_upto_region 5 with fail
        go_quiet (fail)
        go_wp2
        exact ⟨⟨0 + 1, 1, by omega, rfl, by go_num, HS, by first | exact hB | exact below_dr hB _ | exact hB.drew⟩, by simp [intOf]; omega⟩
    · have j1 : ¬ (k : Int) < (s.size : Int) := by omega
      clear hix HN HP HR
      go_wp2
      go_ret
      exact ⟨rfl, hB⟩
set_option maxHeartbeats 2000000 in
theorem sameFr (W : Int) (a a2 : Option Addr) (n c c2 : Nat) (f : Nat → Int) (w : World) (hn : n ≤ 1048576) (hf : YL w a n f) (hf2 : YL w a2 n f) :
    Calls Tryd.prog 11 #[frv W a n c, frv W a2 n c2] w fun e w' => e = .returned (.bool true) ∧ Below w.heap.size w w' := by
  have b1 := (bx_new (w := w) (frvL W a n c) 24 rfl).alloc (frvO W a2 n c2 24)
  have b2 := bx_new (w := w.alloc (frvO W a n c 24)) (b := w.heap.size + 1) (frvL W a2 n c2) 24 (by simp)
  have hb0 : Below w.heap.size w ((w.alloc (frvO W a n c 24)).alloc (frvO W a2 n c2 24)) := ((Below.refl _ _).alloc (Nat.le_refl _) _).alloc (by simp) _
  have x0 := b1.c0
  have x1 := b1.c1
  have y0 := b2.c0
  have y1 := b2.c1
  go_enter Tryd.func11, Tryd.ntmps11
  go_wp2
  generalize (w.alloc (frvO W a n c 24)).alloc (frvO W a2 n c2 24) = w1 at *
  clear x0 x1 y0 y1
  go_loopw [23] (fun i wr => ∃ k : Nat, k ≤ n ∧ i = .int .i64 (k : Int) ∧ Below w1.heap.size w1 wr) (fun i _ => n - (intOf i).toNat)
  case atStart => exact ⟨0, Nat.zero_le _, rfl, Below.refl _ _⟩
  case round =>
    obtain ⟨k, hk, rfl, hB⟩ := hrel
    by_cases hlt : k < n
    · have h1 := (hf.below hb0).below hB
      have h2 := (hf2.below hb0).below hB
      obtain ⟨p1, o1, rfl, l1, v1⟩ := yl_at h1 hlt
      obtain ⟨p2, o2, rfl, l2, v2⟩ := yl_at h2 hlt
      have z1 := (b1.on hB).c1
      have z2 := (b2.on hB).c1
      have i0 : (0 : Int) ≤ (k : Int) := by omega
      have i1 : (k : Int) < (n : Int) := by omega
      clear h1 h2
      generalize f k = x at *
      go_wp2_with fail
      go_quiet (fail)
      go_wp2
      exact ⟨⟨k + 1, by omega, by go_num, by first | exact hB | exact below_dr hB _ | exact hB.drew⟩, by simp [intOf]; omega⟩
    · have i1 : ¬ (k : Int) < (n : Int) := by omega
      go_wp2
      go_ret
      exact ⟨rfl, stepA hb0 hB⟩
end Go.Proofs.YtplpggcbpcebcaaDoor
