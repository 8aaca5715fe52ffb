/- Talkers that were marked, looked at again. -/
import Derived.Test.YtldagjgpapnfpaaQBuMt
namespace Go.Proofs.Ytldagjgpapnfpaa
open Go.RowKit
set_option maxRecDepth 20000 in
set_option maxHeartbeats 8000000 in
theorem heldTk (a : Option Addr) (n cap K lo hi : Nat) (t : Tks) (S : Nat → Nat → Nat → Int) (w : World) (hn : n ≤ 1048576) (hq : ∀ i, i < n → t.qm i ≤ 1048576) (hN : ∀ i, i < n → ∀ j, j < t.qm i → t.N i j ≤ 1048576) (hK : ∀ i, i < n → (∀ j, j ≤ t.qm i → frK (t.N i) (tkK t K i) j ≤ 16777210)) (h : TkQ w lo hi a n (mrT t K n) (mrS t S K n)) :
    Calls Try.prog 19 #[.slice a n cap, .int .i64 (K : Int)] w fun e w' => e = .returned (.int .i64 ((tkK t K n : Nat) : Int)) ∧ w' = w := by
  by_cases h0 : 0 < n
  case neg =>
    obtain rfl : n = 0 := by omega
    go_enter Try.func19, Try.ntmps19
    go_wp2
    go_loopw [1, 5] (fun q i wr => i = .int .i64 0 ∧ q = .int .i64 (K : Int) ∧ wr = w) (fun _ _ _ => 0)
    case atStart => exact ⟨rfl, rfl, rfl⟩
    case round =>
      obtain ⟨rfl, rfl, hw⟩ := hrel
      subst hw
      go_wp2
      go_ret
      exact ⟨rfl, rfl⟩
  case pos =>
    obtain ⟨g, QA, QC, D, rfl, hP⟩ := h h0
    have HP : Hid (TkP w lo hi g n (mrT t K n) (mrS t S K n) QA QC D) := hP
    have HN : Hid (∀ i, i < n → ∀ j, j < t.qm i → t.N i j ≤ 1048576) := hN
    have HQm : Hid (∀ i, i < n → t.qm i ≤ 1048576) := hq
    have HK : Hid (∀ i, i < n → (∀ j, j ≤ t.qm i → frK (t.N i) (tkK t K i) j ≤ 16777210)) := hK
    clear h hP hN hK hq
    go_enter Try.func19, Try.ntmps19
    go_wp2
    go_loopw [1, 5] (fun q i wr => ∃ (k Q : Nat), k ≤ n ∧ i = .int .i64 (k : Int) ∧ q = .int .i64 (Q : Int) ∧ Hid (Q = tkK t K k) ∧ wr = w) (fun _ i _ => n - (intOf i).toNat)
    case atStart => exact ⟨0, K, Nat.zero_le _, rfl, rfl, (rfl : K = tkK t K 0), rfl⟩
    case round =>
      obtain ⟨k, Q, hk, rfl, rfl, HQ, hw⟩ := hrel
      have hw' := hw.symm
      clear hw
      subst hw'
      by_cases hlt : k < n
      · obtain ⟨c0, c1, c2, c3⟩ := HP.out.c k hlt
        have hF := HP.out.f k hlt
        have l0 := HP.out.lt
        have i0 : (0 : Int) ≤ (k : Int) := by omega
        have i1 : (k : Int) < (n : Int) := by omega
        have e5 : (mrT t K n).I k = fun q => ((frK (t.N k) Q q : Nat) : Int) := by unfold mrT; simp only [if_pos hlt]; rw [HQ.out]
        have e7 : mrS t S K n k = fun q j => bK (frK (t.N k) Q q + 1 + j) := by unfold mrS; rw [if_pos hlt, HQ.out]
        rw [e5, e7] at hF
        obtain ⟨E, hE⟩ : ∃ E, E = frK (t.N k) Q (t.qm k) := ⟨_, rfl⟩
        have hET : E = tkE t K k := by show E = frK _ _ _; rw [hE, HQ.out]
        obtain ⟨Z, hZ⟩ : ∃ Z, Z = ((((E + 2 : Nat) : Int) % 3) == 0) := ⟨_, rfl⟩
        have b1 : w.cell? ⟨g, k * 4 + 1, none⟩ = some (.int .i64 (E : Int)) := by rw [c1]; unfold mrT; simp only [if_pos hlt]; rw [hET]
        have b2 : w.cell? ⟨g, k * 4 + 2, none⟩ = some (.int .i64 ((E : Int) + 1)) := by rw [c2]; unfold mrT; simp only [if_pos hlt]; rw [hET]; rfl
        have b3 : w.cell? ⟨g, k * 4 + 3, none⟩ = some (.bool Z) := by rw [c3, hZ]; unfold mrT; simp only [if_pos hlt]; rw [hET]
        have kM := heldFr (QA k) (t.qm k) (QC k) Q (D k) (D (k + 1)) (t.N k) w (HQm.out k hlt) (HN.out k hlt) (fun j hj => by rw [HQ.out]; have := HK.out k hlt j (by omega); omega) (fun j hj => by rw [HQ.out]; have := HK.out k hlt (j + 1) (by omega); omega) hF
        rw [← hE] at kM
        have hEb : E ≤ 16777210 := by rw [hE, HQ.out]; exact HK.out k hlt _ (Nat.le_refl _)
        have HE3 : Hid (E + 3 = tkK t K (k + 1)) := by show E + 3 = frK _ _ _ + 3; rw [hE, HQ.out]
        have c0' : w.cell? ⟨g, k * 4, none⟩ = some (.slice (QA k) (t.qm k) (QC k)) := c0
        generalize QA k = X1 at c0' kM
        generalize t.qm k = X2 at c0' kM
        generalize QC k = X3 at c0' kM
        have hz1 : (((E : Int) + 1 + 1) % 3 == 0) = Z := by rw [hZ]; congr 2
        have hz2 : (((E : Int) + 2) % 3 == 0) = Z := by rw [hZ]; congr 2
        have jz : (Z != Z) = false := by cases Z <;> rfl
        have je : ¬ (E : Int) < 0 := by omega
        clear c0 c1 c2 c3 hF e5 e7 hE hET hZ HQ
        go_wp2_with fail
        refine kM.mono ?_
        rintro e w5 ⟨rfl, hw5⟩
        have hs5 := hw5.symm
        clear hw5 kM
        subst hs5
        go_wp2
        exact ⟨⟨k + 1, E + 3, by omega, by go_num, by go_num, HE3, trivial⟩, by simp [intOf]; omega⟩
      · have hke : k = n := by omega
        subst hke
        go_wp2
        go_ret
        exact ⟨ret_int (by rw [HQ.out]), rfl⟩
end Go.Proofs.Ytldagjgpapnfpaa
