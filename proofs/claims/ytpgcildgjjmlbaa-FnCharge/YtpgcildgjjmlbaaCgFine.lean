/- Whether a plan keeps to its level, as the law's own function says it: the plan that is told does. -/
import Derived.Test.YtpgcildgjjmlbaaCgGood
import Derived.Test.YtpgcildgjjmlbaaCgMk
import Derived.BigQuiet
import Derived.Deep.Cut
namespace Go.Proofs.Ytpgcildgjjmlbaa
open Go.RowKit
set_option maxHeartbeats 8000000 in
set_option maxRecDepth 20000 in
theorem fine_any (c : Cg) (n : Nat) (a : Option Addr) (cc lo hi : Nat) (w : World) (hg : goodC c = true) (hn : n ≤ 200) (h : VQ w lo hi a n (fun i => .bool (plB c i))) :
    Calls Try.prog 8 #[cgv c, .slice a n cc] w fun e w' => e = .returned (.bool true) ∧ Below w.heap.size w w' := by
  have z := bx_new (w := w) (cgs c) 24 rfl
  have hx : Below w.heap.size w (w.alloc (.cells (cgs c).toArray 24)) := (Below.refl _ _).alloc (Nat.le_refl _) _
  obtain ⟨x0, x1, x2, x3⟩ := charge_at z
  have HZ : Hid (Bx (w.alloc (.cells (cgs c).toArray 24)) w.heap.size (cgs c)) := z
  obtain ⟨⟨hF0, hF1⟩, ⟨hL0, hL1⟩, ⟨hU0, hU1⟩, ⟨hG0, hG1⟩⟩ := goodC_t hg
  have HB0 : Hid (Below w.heap.size w (w.alloc (.cells (cgs c).toArray 24))) := hx
  clear z hx
  go_enter Try.func8, Try.ntmps8
  go_wp2_with fail
  clear x0 x1 x2 x3
  go_loopw [5, 12] (fun v i wr => ∃ k : Nat, k ≤ n ∧ i = .int .i64 (k : Int) ∧ v = .int .i64 (chS c k).1 ∧ Bx wr w.heap.size (cgs c) ∧ Below w.heap.size w wr) (fun _ i _ => n - (intOf i).toNat)
  case atStart => exact ⟨0, Nat.zero_le _, rfl, rfl, HZ.out, HB0.out⟩
  case round =>
    obtain ⟨k, hk, rfl, rfl, hz, hB⟩ := hrel
    clear HZ HB0
    have i0 : (0 : Int) ≤ (k : Int) := by omega
    obtain ⟨hin0, hin1⟩ := chS_in hg k
    by_cases hlt : k < n
    · have i1 : (k : Int) < (n : Int) := by omega
      obtain ⟨b, rfl, e1, e2, hP⟩ := h (by omega)
      have y0 := (hB.cell (p := ⟨b, k, none⟩) hP.lt).trans (hP.c k hlt)
      obtain ⟨x0, x1, x2, x3⟩ := charge_at hz
      obtain ⟨hm0, hm1⟩ := chS_in hg (k + 1)
      have HL : Hid ((chS c (k + 1)).1 = lvN c (chS c k).1 (plB c k)) := rfl
      have hp0 : plB c k = wkB c (chS c k).1 (chS c k).2 := rfl
      rw [chS_l, hp0] at hm0 hm1
      rw [hp0] at HL y0
      clear hp0
      by_cases k0 : k = 0
      · have hq : (chS c k).2 = false := by rw [k0]; rfl
        rw [hq] at HL y0 hm0 hm1
        clear hq hP
        obtain ⟨l, hl⟩ : ∃ l, l = (chS c k).1 := ⟨_, rfl⟩
        rw [← hl] at hin0 hin1 HL y0 hm0 hm1 ⊢
        clear hl
        have k1 : ((k : Int) == 0) = true := by simp; omega
        have k2 : decide ((0 : Int) < (k : Int)) = false := decide_eq_false (by omega)
        have k6 : decide (0 < k) = false := decide_eq_false (by omega)
        have k7 : ¬ 0 < k := by omega
        clear k0
        obtain ⟨q, hq2⟩ : ∃ q, q = false := ⟨_, rfl⟩
        rw [← hq2] at HL y0 hm0 hm1
        by_cases a1 : c.U ≤ l
        · skip
          have HV : Hid (wkB c l q = true) := by show wkB c l q = true; rw [hq2]; unfold wkB; rw [decide_eq_true a1]; rfl
          rw [HV.out] at HL y0 hm0 hm1
          have HL2 : Hid ((chS c (k + 1)).1 = l - c.U) := HL.out
          have m0 : 0 ≤ l - c.U := hm0
          have m1 : l - c.U ≤ c.F := hm1
          clear HL hm0 hm1 HV
          go_wp2
          exact ⟨⟨k + 1, by omega, by go_num, by rw [HL2.out], hz, hB⟩, by simp [intOf]; omega⟩
        · skip
          have HV : Hid (wkB c l q = false) := by show wkB c l q = false; rw [hq2]; unfold wkB; rw [decide_eq_false a1]; rfl
          rw [HV.out] at HL y0 hm0 hm1
          have HL2 : Hid ((chS c (k + 1)).1 = min c.F (l + c.G)) := HL.out
          have m0 : 0 ≤ min c.F (l + c.G) := hm0
          have m1 : min c.F (l + c.G) ≤ c.F := hm1
          clear HL hm0 hm1 HV
          have kc := fun w => l13Cut_pos (l + c.G) c.F w (by omega)
          generalize min c.F (l + c.G) = mv at kc m0 m1 HL2
          go_wp2_with (first | (go_at_call 17; refine (kc _).mono ?_; rintro e w' ⟨rfl, hw'⟩; have hs' := hw'.symm; clear hw'; subst hs') | fail)
          exact ⟨⟨k + 1, by omega, by go_num, by rw [HL2.out], hz, hB⟩, by simp [intOf]; omega⟩
      · have hq : (chS c k).2 = !plB c (k - 1) := by
          obtain ⟨m, rfl⟩ : ∃ m, k = m + 1 := ⟨k - 1, by omega⟩
          rfl
        rw [hq] at HL y0 hm0 hm1
        have y1 := (hB.cell (p := ⟨b, k - 1, none⟩) hP.lt).trans (hP.c (k - 1) (by omega))
        clear hq hP
        obtain ⟨l, hl⟩ : ∃ l, l = (chS c k).1 := ⟨_, rfl⟩
        rw [← hl] at hin0 hin1 HL y0 hm0 hm1 ⊢
        clear hl
        generalize plB c (k - 1) = pq at HL y0 y1 hm0 hm1
        have k1 : ((k : Int) == 0) = false := by simp; omega
        have k2 : (0 : Int) < (k : Int) := by omega
        have k3 : (0 : Int) ≤ (k : Int) - 1 := by omega
        have k4 : (k : Int) - 1 < (n : Int) := by omega
        have k5 : ((k : Int) - 1).toNat = k - 1 := by omega
        obtain ⟨q, hq2⟩ : ∃ q, q = !pq := ⟨_, rfl⟩
        rw [← hq2] at HL y0 hm0 hm1
        cases pq with
        | true =>
          have hq3 : q = false := hq2
          by_cases a1 : c.U ≤ l
          · skip
            have HV : Hid (wkB c l q = true) := by show wkB c l q = true; rw [hq3]; unfold wkB; rw [decide_eq_true a1]; rfl
            rw [HV.out] at HL y0 hm0 hm1
            have HL2 : Hid ((chS c (k + 1)).1 = l - c.U) := HL.out
            have m0 : 0 ≤ l - c.U := hm0
            have m1 : l - c.U ≤ c.F := hm1
            clear HL hm0 hm1 HV
            go_wp2
            exact ⟨⟨k + 1, by omega, by go_num, by rw [HL2.out], hz, hB⟩, by simp [intOf]; omega⟩
          · skip
            have HV : Hid (wkB c l q = false) := by show wkB c l q = false; rw [hq3]; unfold wkB; rw [decide_eq_false a1]; rfl
            rw [HV.out] at HL y0 hm0 hm1
            have HL2 : Hid ((chS c (k + 1)).1 = min c.F (l + c.G)) := HL.out
            have m0 : 0 ≤ min c.F (l + c.G) := hm0
            have m1 : min c.F (l + c.G) ≤ c.F := hm1
            clear HL hm0 hm1 HV
            have kc := fun w => l13Cut_pos (l + c.G) c.F w (by omega)
            generalize min c.F (l + c.G) = mv at kc m0 m1 HL2
            go_wp2_with (first | (go_at_call 17; refine (kc _).mono ?_; rintro e w' ⟨rfl, hw'⟩; have hs' := hw'.symm; clear hw'; subst hs') | fail)
            exact ⟨⟨k + 1, by omega, by go_num, by rw [HL2.out], hz, hB⟩, by simp [intOf]; omega⟩
        | false =>
          have hq3 : q = true := hq2
          by_cases a1 : c.U ≤ l
          · by_cases a2 : c.F < l + c.G
            · skip
              have HV : Hid (wkB c l q = true) := by show wkB c l q = true; rw [hq3]; unfold wkB; rw [decide_eq_true a1, decide_eq_true a2]; rfl
              rw [HV.out] at HL y0 hm0 hm1
              have HL2 : Hid ((chS c (k + 1)).1 = l - c.U) := HL.out
              have m0 : 0 ≤ l - c.U := hm0
              have m1 : l - c.U ≤ c.F := hm1
              clear HL hm0 hm1 HV
              go_wp2
              exact ⟨⟨k + 1, by omega, by go_num, by rw [HL2.out], hz, hB⟩, by simp [intOf]; omega⟩
            · skip
              have HV : Hid (wkB c l q = false) := by show wkB c l q = false; rw [hq3]; unfold wkB; rw [decide_eq_true a1, decide_eq_false a2]; rfl
              rw [HV.out] at HL y0 hm0 hm1
              have HL2 : Hid ((chS c (k + 1)).1 = min c.F (l + c.G)) := HL.out
              have m0 : 0 ≤ min c.F (l + c.G) := hm0
              have m1 : min c.F (l + c.G) ≤ c.F := hm1
              clear HL hm0 hm1 HV
              have kc := fun w => l13Cut_pos (l + c.G) c.F w (by omega)
              generalize min c.F (l + c.G) = mv at kc m0 m1 HL2
              go_wp2_with (first | (go_at_call 17; refine (kc _).mono ?_; rintro e w' ⟨rfl, hw'⟩; have hs' := hw'.symm; clear hw'; subst hs') | fail)
              exact ⟨⟨k + 1, by omega, by go_num, by rw [HL2.out], hz, hB⟩, by simp [intOf]; omega⟩
          · by_cases a2 : c.F < l + c.G
            · skip
              have HV : Hid (wkB c l q = false) := by show wkB c l q = false; rw [hq3]; unfold wkB; rw [decide_eq_false a1]; rfl
              rw [HV.out] at HL y0 hm0 hm1
              have HL2 : Hid ((chS c (k + 1)).1 = min c.F (l + c.G)) := HL.out
              have m0 : 0 ≤ min c.F (l + c.G) := hm0
              have m1 : min c.F (l + c.G) ≤ c.F := hm1
              clear HL hm0 hm1 HV
              have kc := fun w => l13Cut_pos (l + c.G) c.F w (by omega)
              generalize min c.F (l + c.G) = mv at kc m0 m1 HL2
              go_wp2_with (first | (go_at_call 17; refine (kc _).mono ?_; rintro e w' ⟨rfl, hw'⟩; have hs' := hw'.symm; clear hw'; subst hs') | fail)
              exact ⟨⟨k + 1, by omega, by go_num, by rw [HL2.out], hz, hB⟩, by simp [intOf]; omega⟩
            · skip
              have HV : Hid (wkB c l q = false) := by show wkB c l q = false; rw [hq3]; unfold wkB; rw [decide_eq_false a1]; rfl
              rw [HV.out] at HL y0 hm0 hm1
              have HL2 : Hid ((chS c (k + 1)).1 = min c.F (l + c.G)) := HL.out
              have m0 : 0 ≤ min c.F (l + c.G) := hm0
              have m1 : min c.F (l + c.G) ≤ c.F := hm1
              clear HL hm0 hm1 HV
              have kc := fun w => l13Cut_pos (l + c.G) c.F w (by omega)
              generalize min c.F (l + c.G) = mv at kc m0 m1 HL2
              go_wp2_with (first | (go_at_call 17; refine (kc _).mono ?_; rintro e w' ⟨rfl, hw'⟩; have hs' := hw'.symm; clear hw'; subst hs') | fail)
              exact ⟨⟨k + 1, by omega, by go_num, by rw [HL2.out], hz, hB⟩, by simp [intOf]; omega⟩
    · have hkn : k = n := by omega
      subst hkn
      have i1 : ¬ (k : Int) < (k : Int) := by omega
      clear h
      go_wp2
      go_ret
      exact ⟨rfl, hB⟩
end Go.Proofs.Ytpgcildgjjmlbaa
