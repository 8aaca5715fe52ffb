/- Doubles side by side left out: slices.Compact of stamped words. -/
import Derived.Test.YteknkgfgefhloaaMgI
import Derived.BigQuiet
namespace Go.Proofs.Yteknkgfgefhloaa
open Go.RowKit
theorem same_end {w : World} {b n : Nat} {F : Nat → Int} (h : IP w b (n * 3) F) (ha : ∀ j, j < n → j = 0 ∨ swF F j ≠ swF F (j - 1)) : (cpW (swF F) n).length = n ∧ IP w b (n * 3) (flS (cpW (swF F) n)) := by
  have e := cpW_all ha
  have hl : (cpW (swF F) n).length = n := by rw [e]; simp
  exact ⟨hl, h.congr fun i hi => (mixS_all _ e).symm.trans (mixS_lo (by omega))⟩
set_option maxRecDepth 20000 in
set_option maxHeartbeats 4000000 in
theorem iCompact (b n c : Nat) (F : Nat → Int) (w : World) (hn : n ≤ 1048576) (hc : n ≤ c) (h : IP w b (n * 3) F) :
    Calls Try.prog 42 #[.slice (some ⟨b, 0, none⟩) n c] w fun e w' => e = .returned (.slice (some ⟨b, 0, none⟩) (cpW (swF F) n).length c) ∧ IP w' b ((cpW (swF F) n).length * 3) (flS (cpW (swF F) n)) ∧ Below b w w' := by
  have HS : Hid (∀ wr, IP wr b (n * 3) F → (∀ j, j < n → j = 0 ∨ swF F j ≠ swF F (j - 1)) → (cpW (swF F) n).length = n ∧ IP wr b (n * 3) (flS (cpW (swF F) n))) := fun wr h ha => same_end h ha
  have HB : Hid (b < w.heap.size) := h.lt
  generalize hL : cpW (swF F) n = L at *
  have HL : Hid (cpW (swF F) n = L) := hL
  clear hL
  by_cases h2 : n < 2
  · have j : (n : Int) < (2 : Int) := by omega
    obtain ⟨e1, e2⟩ := HS.out w h (fun j hj => by by_cases e : j = 0; exact .inl e; exfalso; omega)
    rw [e1]
    clear HS HL h
    go_enter Try.func42, Try.ntmps42
    go_wp2
    go_ret
    exact ⟨rfl, e2, Below.refl _ _⟩
  have j : ¬ (n : Int) < (2 : Int) := by omega
  have HI : Hid (IP w b (n * 3) F) := h
  clear h
  go_enter Try.func42, Try.ntmps42
  go_wp2_with fail
  go_loopw [3] (fun i wr => ∃ k : Nat, k + 1 ≤ n ∧ i = .int .i64 ((k : Int) + 1) ∧ Hid (∀ j, j < k + 1 → j = 0 ∨ swF F j ≠ swF F (j - 1)) ∧ Hid (Below w.heap.size w wr)) (fun i _ => n + 1 - (intOf i).toNat)
  case atStart => exact ⟨0, by omega, rfl, fun j hj => .inl (by omega), Below.refl _ _⟩
  case round =>
    obtain ⟨k, hk, rfl, HE, HW⟩ := hrel
    by_cases hlt : k + 1 < n
    · have i1 : (k : Int) + 1 < (n : Int) := by omega
      have j0 : (0 : Int) ≤ (k : Int) := by omega
      have j2 : (k : Int) < (n : Int) := by omega
      have j3 : (0 : Int) ≤ (k : Int) + 1 := by omega
      have j4 : ((k : Int) + 1).toNat = k + 1 := by omega
      have j5 : IntKind.i64.wrap ((k : Int) + 1 - 1) = (k : Int) := by rw [IntWalk.i64_in _ ⟨by omega, by omega⟩]; omega
      have j6 : IntKind.i64.wrap (k : Int) = (k : Int) := IntWalk.i64_in _ ⟨by omega, by omega⟩
      have hI := HI.out.below HW.out HB.out
      have x0 := hI.c (k * 3) (by omega)
      have x1 := hI.c (k * 3 + 1) (by omega)
      have x2 := hI.c (k * 3 + 2) (by omega)
      have y0 := hI.c ((k + 1) * 3) (by omega)
      have y1 := hI.c ((k + 1) * 3 + 1) (by omega)
      have y2 := hI.c ((k + 1) * 3 + 2) (by omega)
      by_cases hq : swF F (k + 1) = swF F k
      · have HI0 : Hid (∀ q, InvC F n b w k 0 (k + 1) (wr.drewN q)) := fun q => by
          have e0 : cpW (swF F) (k + 0 + 2) = cpW (swF F) (k + 1) := cpW_same (k := k + 1) (Nat.succ_pos k) hq
          have e1 := cpW_all (W := swF F) HE.out
          have el : (cpW (swF F) (k + 1)).length = k + 1 := by rw [e1]; simp
          exact ⟨by rw [e0, el], by omega, by rw [e0]; exact (ip_drN hI q).congr fun i _ => (mixS_all _ e1).symm, below_dr (HW.out.mono (Nat.le_of_lt HB.out)) q⟩
        clear HI hI
        have HQ : Hid (swF F (k + 1) = swF F k) := hq
        unfold swF at hq
        have eqs := fun w => eq_stamp (F ((k + 1) * 3)) (F ((k + 1) * 3 + 1)) (F ((k + 1) * 3 + 2)) (F (k * 3)) (F (k * 3 + 1)) (F (k * 3 + 2)) w
        rw [decide_eq_true hq] at eqs
        clear hq HS
        go_upto_region 6 with fail
        go_quiet (fail)
        clear x0 x1 x2 y0 y1 y2 eqs
        go_upto_region 8 with fail
        obtain ⟨r, hr⟩ : ∃ r, r = n - (k + 1) := ⟨_, rfl⟩
        rw [← hr]
        have HN : Hid (n = k + 1 + r) := (by omega : n = k + 1 + r)
        have hr1 : 1 ≤ r := by omega
        generalize c - (k + 1) = cr
        have HC0 : Hid (InvC F n b w k 0 (k + 1) (wr.drewN nq)) := HI0.out nq
        clear HI0 hr i1 j0 j2 j3 j4 j5 j6 HQ HE HW
        generalize wr.drewN nq = w1 at *
        go_wp2_with fail
        go_loopw [3, 5] (fun s i wr => ∃ m p : Nat, m + 1 ≤ r ∧ i = .int .i64 ((m : Int) + 1) ∧ s = .int .i64 (p : Int) ∧ Hid (InvC F n b w k m p wr)) (fun _ i _ => r + 1 - (intOf i).toNat)
        case atStart => exact ⟨0, k + 1, hr1, rfl, by go_num, HC0⟩
        case round =>
          clear HC0
          obtain ⟨m, p, hm, rfl, rfl, HC⟩ := hrel
          have hN := HN.out
          by_cases hlm : m + 1 < r
          · have i1 : (m : Int) + 1 < (r : Int) := by omega
            have j0 : (0 : Int) ≤ (m : Int) := by omega
            have j2 : (m : Int) < (r : Int) := by omega
            have j3 : (0 : Int) ≤ (m : Int) + 1 := by omega
            have j4 : ((m : Int) + 1).toNat = m + 1 := by omega
            have j5 : IntKind.i64.wrap ((m : Int) + 1 - 1) = (m : Int) := by rw [IntWalk.i64_in _ ⟨by omega, by omega⟩]; omega
            have j6 : IntKind.i64.wrap (m : Int) = (m : Int) := IntWalk.i64_in _ ⟨by omega, by omega⟩
            have hple := HC.out.le
            have g0 : (0 : Int) ≤ (p : Int) := by omega
            have g1 : (p : Int) < (n : Int) := by omega
            have x0 := HC.out.cell (t := (k + 1) * 3 + m * 3) (by omega) (by omega)
            have x1 := HC.out.cell (t := (k + 1) * 3 + m * 3 + 1) (by omega) (by omega)
            have x2 := HC.out.cell (t := (k + 1) * 3 + m * 3 + 2) (by omega) (by omega)
            have y0 := HC.out.cell (t := (k + 1) * 3 + (m + 1) * 3) (by omega) (by omega)
            have y1 := HC.out.cell (t := (k + 1) * 3 + (m + 1) * 3 + 1) (by omega) (by omega)
            have y2 := HC.out.cell (t := (k + 1) * 3 + (m + 1) * 3 + 2) (by omega) (by omega)
            have z0 := HC.out.ip.c (p * 3) (by omega)
            have z1 := HC.out.ip.c (p * 3 + 1) (by omega)
            have z2 := HC.out.ip.c (p * 3 + 2) (by omega)
            have f0 := HC.out.ip.fz (p * 3)
            have f1 := HC.out.ip.fz (p * 3 + 1)
            have f2 := HC.out.ip.fz (p * 3 + 2)
            have hX : swF F (k + m + 1) = (F ((k + 1) * 3 + m * 3), F ((k + 1) * 3 + m * 3 + 1), F ((k + 1) * 3 + m * 3 + 2)) := by unfold swF; rw [show (k + m + 1) * 3 = (k + 1) * 3 + m * 3 by omega]
            have hY : swF F (k + m + 2) = (F ((k + 1) * 3 + (m + 1) * 3), F ((k + 1) * 3 + (m + 1) * 3 + 1), F ((k + 1) * 3 + (m + 1) * 3 + 2)) := by unfold swF; rw [show (k + m + 2) * 3 = (k + 1) * 3 + (m + 1) * 3 by omega]
            have eqs := fun w => eq_stamp (F ((k + 1) * 3 + (m + 1) * 3)) (F ((k + 1) * 3 + (m + 1) * 3 + 1)) (F ((k + 1) * 3 + (m + 1) * 3 + 2)) (F ((k + 1) * 3 + m * 3)) (F ((k + 1) * 3 + m * 3 + 1)) (F ((k + 1) * 3 + m * 3 + 2)) w
            rw [← hX, ← hY] at eqs
            have HY : Hid (swF F (k + m + 2) = (F ((k + 1) * 3 + (m + 1) * 3), F ((k + 1) * 3 + (m + 1) * 3 + 1), F ((k + 1) * 3 + (m + 1) * 3 + 2))) := hY
            clear hX hY
            generalize F ((k + 1) * 3 + m * 3) = A at *
            generalize F ((k + 1) * 3 + m * 3 + 1) = B at *
            generalize F ((k + 1) * 3 + m * 3 + 2) = C at *
            generalize F ((k + 1) * 3 + (m + 1) * 3) = D at *
            generalize F ((k + 1) * 3 + (m + 1) * 3 + 1) = E at *
            generalize F ((k + 1) * 3 + (m + 1) * 3 + 2) = G at *
            by_cases hq2 : swF F (k + m + 2) = swF F (k + m + 1)
            · have HS1 : Hid (∀ q, InvC F n b w k (m + 1) p (wr.drewN q)) := fun q => HC.out.same hq2 q
              rw [decide_eq_true hq2] at eqs
              clear hq2 HC z0 z1 z2 f0 f1 f2
              go_upto_region 11 with fail
              go_quiet (fail)
              clear x0 x1 x2 y0 y1 y2 eqs
              go_wp2
              exact ⟨⟨m + 1, p, by omega, by go_num, rfl, HS1.out _⟩, by simp [intOf]; omega⟩
            · have HS1 : Hid (∀ q, InvC F n b w k (m + 1) (p + 1) ((((wr.drewN q).setCell ⟨b, p * 3, none⟩ (.int .i64 D)).setCell ⟨b, p * 3 + 1, none⟩ (.int .i64 E)).setCell ⟨b, p * 3 + 2, none⟩ (.int .i64 G))) := fun q => HC.out.new (by omega) hq2 q HY.out.symm
              rw [decide_eq_false hq2] at eqs
              clear hq2 HC HY
              go_upto_region 11 with fail
              go_quiet (fail)
              clear x0 x1 x2 eqs
              go_wp2
              exact ⟨⟨m + 1, p + 1, by omega, by go_num, by go_num, HS1.out _⟩, by simp [intOf]; omega⟩
          · have i1 : ¬ (m : Int) + 1 < (r : Int) := by omega
            have hple := HC.out.le
            have g0 : (0 : Int) ≤ (p : Int) := by omega
            have g1 : (p : Int) ≤ (n : Int) := by omega
            have g2 : (p : Int) ≤ (c : Int) := by omega
            have g3 : ¬ c = p := by omega
            have g4 : ¬ p = c := by omega
            obtain ⟨vs, hcl⟩ := clear3 HC.out.ip p (c - p) (by omega)
            have HD : Hid (p = L.length ∧ IP (wr.setCells b (p * 3) vs) b (p * 3) (flS L) ∧ Below b w (wr.setCells b (p * 3) vs)) := by
              have := HC.out.done (by omega) vs
              rw [HL.out] at this
              exact this
            clear HC HL hN
            go_wp2
            go_ret
            obtain ⟨d1, d2, d3⟩ := HD.out
            exact ⟨by rw [← d1]; rfl, by rw [← d1]; exact d2, d3⟩
      · have HE2 : Hid (∀ j, j < k + 1 + 1 → j = 0 ∨ swF F j ≠ swF F (j - 1)) := fun j hj => by
          by_cases e : j < k + 1
          · exact HE.out j e
          · obtain rfl : j = k + 1 := by omega
            exact .inr hq
        clear HE HI hI
        unfold swF at hq
        have HQ := hq
        clear hq
        generalize F (k * 3) = A at *
        generalize F (k * 3 + 1) = B at *
        generalize F (k * 3 + 2) = C at *
        generalize F ((k + 1) * 3) = D at *
        generalize F ((k + 1) * 3 + 1) = E at *
        generalize F ((k + 1) * 3 + 2) = G at *
        have eqs := fun w => eq_stamp D E G A B C w
        rw [decide_eq_false HQ] at eqs
        clear HQ HS HL
        go_upto_region 6 with fail
        go_quiet (fail)
        clear x0 x1 x2 y0 y1 y2 eqs
        go_wp2
        exact ⟨⟨k + 1, by omega, by go_num, HE2, below_dr HW.out _⟩, by simp [intOf]; omega⟩
    · have i1 : ¬ (k : Int) + 1 < (n : Int) := by omega
      obtain rfl : n = k + 1 := by omega
      have HX : Hid (L.length = k + 1 ∧ IP wr b ((k + 1) * 3) (flS L)) := HS.out wr (HI.out.below HW.out HB.out) HE.out
      clear HE HI HS HL
      go_wp2
      go_ret
      exact ⟨by rw [HX.out.1]; rfl, by rw [HX.out.1]; exact HX.out.2, HW.out.mono (Nat.le_of_lt HB.out)⟩
end Go.Proofs.Yteknkgfgefhloaa
