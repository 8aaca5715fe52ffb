/- Frames marked by the law, and looked at again. -/
import Derived.Test.YtldagjgpapnfpaaQBuMk
namespace Go.Proofs.Ytldagjgpapnfpaa
open Go.RowKit
/-- the mark that frame j's id gets -/
def frK (N : Nat → Nat) (K : Nat) : Nat → Nat
  | 0 => K
  | j + 1 => frK N K j + 1 + N j
section
variable {w w' : World} {lo hi g m : Nat} {I I' : Nat → Int} {N : Nat → Nat} {S S' : Nat → Nat → Int} {A : Nat → Option Addr} {C D : Nat → Nat}
theorem FrP.cong (h : FrP w lo hi g m I N S A C D) (e1 : ∀ j, j < m → I j = I' j) (e2 : ∀ j, j < m → ∀ i, i < N j → S j i = S' j i) : FrP w lo hi g m I' N S' A C D :=
  ⟨h.glo, h.gd, h.hi, h.mon, h.lt, fun j hj => by rw [← e1 j hj]; exact h.c j hj, h.fz, fun j hj h0 => by
    obtain ⟨b, e, h1, h2, hP⟩ := h.y j hj h0
    exact ⟨b, e, h1, h2, hP.cong fun i hi => by rw [e2 j hj i hi]⟩, h.s⟩
theorem FrP.setI (h : FrP w lo hi g m I N S A C D) {k : Nat} (hk : k < m) (x : Int) : FrP (w.setCell ⟨g, k * 2, none⟩ (.int .i64 x)) lo hi g m (fun j => if j = k then x else I j) N S A C D := by
  refine ⟨h.glo, h.gd, h.hi, h.mon, by simpa using h.lt, fun j hj => ?_, fun i => by simpa using h.fz i, fun j hj => vq_set (h.y j hj) _ (.inl (h.dlo (Nat.le_of_lt hj)).2), h.s⟩
  obtain ⟨c0, c1⟩ := h.c j hj
  refine ⟨?_, (World.cell?_setCell_other _ _ _ _ (by first | (simp; done) | (simp; omega))).trans c1⟩
  by_cases e : j = k
  · subst e; rw [if_pos rfl]; exact World.cell?_setCell_same _ _ _ c0
  · rw [if_neg e]; exact (World.cell?_setCell_other _ _ _ _ (by first | (simp; done) | (simp; omega))).trans c0
theorem FrP.setS (h : FrP w lo hi g m I N S A C D) {k : Nat} (hk : k < m) (hT : Turns (D k) (D (k + 1)) w w') {f : Nat → Int} (hq : VQ w' (D k) (D (k + 1)) (A k) (N k) (fun i => .int .u8 (f i))) : FrP w' lo hi g m I N (fun j => if j = k then f else S j) A C D := by
  have hg := (h.dlo (Nat.le_of_lt hk)).2
  have e := hT.block g h.lt (by omega)
  refine ⟨h.glo, h.gd, h.hi, h.mon, Nat.lt_of_lt_of_le h.lt hT.size, fun j hj => ⟨(cell_same e _).trans (h.c j hj).1, (cell_same e _).trans (h.c j hj).2⟩, fun i => (frozen_same e i).trans (h.fz i), fun j hj => ?_, h.s⟩
  by_cases c : j = k
  · subst c; simp only [if_true]; exact hq
  · simp only [if_neg c]
    refine (h.y j hj).turns hT ?_
    by_cases c2 : j < k
    · exact .inl (mono_le h.mon k (by omega) (Nat.le_of_lt hk))
    · exact .inr (mono_le h.mon j (by omega) (Nat.le_of_lt hj))
end
set_option maxRecDepth 20000 in
set_option maxHeartbeats 4000000 in
theorem markFr (a : Option Addr) (m cap K lo hi : Nat) (I : Nat → Int) (N : Nat → Nat) (S : Nat → Nat → Int) (w : World) (hm : m ≤ 1048576) (hN : ∀ j, j < m → N j ≤ 1048576) (hK : frK N K m ≤ 16777216) (hKm : ∀ j, j < m → frK N K j ≤ 16777215) (h : FrQ w lo hi a m I N S) :
    Calls Try.prog 41 #[.slice a m cap, .int .i64 (K : Int)] w fun e w' => e = .returned (.int .i64 ((frK N K m : Nat) : Int)) ∧ FrQ w' lo hi a m (fun j => ((frK N K j : Nat) : Int)) N (fun j i => bK (frK N K j + 1 + i)) ∧ Turns lo hi w w' := by
  by_cases h0 : 0 < m
  case neg =>
    obtain rfl : m = 0 := by omega
    go_enter Try.func41, Try.ntmps41
    go_wp2
    go_loopw [1, 5] (fun q i wr => i = .int .i64 0 ∧ q = .int .i64 (K : Int) ∧ wr = w) (fun _ _ _ => 0)
    case atStart => exact ⟨rfl, rfl, rfl⟩
    case round =>
      obtain ⟨rfl, rfl, hw⟩ := hrel
      subst hw
      go_wp2
      go_ret
      exact ⟨rfl, frq_none _ _ _ _ _ _ _, turns_of (Below.refl _ _)⟩
  case pos =>
    obtain ⟨g, A, C, D, rfl, hP⟩ := h h0
    have HP0 : Hid (FrP w lo hi g m I N S A C D) := hP
    have HN : Hid (∀ j, j < m → N j ≤ 1048576) := hN
    have HK : Hid (∀ j, j < m → frK N K j ≤ 16777215) := hKm
    clear h hP hN hKm
    go_enter Try.func41, Try.ntmps41
    go_wp2
    go_loopw [1, 5] (fun q i wr => ∃ (k Q : Nat) (I' : Nat → Int) (S' : Nat → Nat → Int), k ≤ m ∧ i = .int .i64 (k : Int) ∧ q = .int .i64 (Q : Int) ∧ Hid (Q = frK N K k) ∧ Hid (FrP wr lo hi g m I' N S' A C D) ∧ Hid (∀ j, j < k → I' j = ((frK N K j : Nat) : Int) ∧ ∀ i, S' j i = bK (frK N K j + 1 + i)) ∧ Turns lo hi w wr) (fun _ i _ => m - (intOf i).toNat)
    case atStart => exact ⟨0, K, I, S, Nat.zero_le _, rfl, rfl, (rfl : K = frK N K 0), HP0, fun j hj => absurd hj (Nat.not_lt_zero _), turns_of (Below.refl _ _)⟩
    case round =>
      obtain ⟨k, Q, I', S', hk, rfl, rfl, HQ, HP, HF, hT⟩ := hrel
      clear HP0
      by_cases hlt : k < m
      · have c0 := (HP.out.c k hlt).1
        have f0 := HP.out.fz (k * 2)
        have l0 := HP.out.lt
        have hQb : Q ≤ 16777215 := by rw [HQ.out]; exact HK.out k hlt
        have i0 : (0 : Int) ≤ (k : Int) := by omega
        have i1 : (k : Int) < (m : Int) := by omega
        have hP2 := HP.out.setI hlt (Q : Int)
        have hO := (Only.refl g wr).set (k * 2) (.int .i64 (Q : Int))
        have hT2 := hT.trans (OnlyIn.of hO HP.out.glo HP.out.ghi).turns
        have c1 := (hP2.c k hlt).2
        have l1 := hP2.lt
        have kM := markBy (A k) (N k) (C k) (Q + 1) (D k) (D (k + 1)) _ (wr.setCell ⟨g, k * 2, none⟩ (.int .i64 (Q : Int))) (HN.out k hlt) (by omega) (hP2.y k hlt)
        have hcast : ((Q + 1 : Nat) : Int) = (Q : Int) + 1 := by omega
        rw [hcast] at kM
        have HP2 : Hid (FrP _ lo hi g m _ N S' A C D) := hP2
        have hlo := HP.out.dlo (Nat.le_of_lt hlt)
        have hhi := HP.out.dhi (show k + 1 ≤ m by omega)
        obtain ⟨X1, e1⟩ : ∃ X, X = A k := ⟨_, rfl⟩
        obtain ⟨X2, e2⟩ : ∃ X, X = N k := ⟨_, rfl⟩
        obtain ⟨X3, e3⟩ : ∃ X, X = C k := ⟨_, rfl⟩
        rw [← e1, ← e2, ← e3] at c1 kM
        have HX : Hid (X1 = A k ∧ X2 = N k) := ⟨e1, e2⟩
        clear hP2 e1 e2 e3 hT hcast
        go_wp2_with fail
        refine kM.mono ?_
        rintro e w5 ⟨rfl, hq5, hT5⟩
        obtain ⟨e1, e2⟩ := HX.out
        rw [e1, e2] at hq5
        have HP3 : Hid (FrP w5 lo hi g m _ N _ A C D) := HP2.out.setS hlt hT5 hq5
        have hT6 := hT2.trans (hT5.wide hlo.1 hhi)
        have HQ2 : Hid (Q + 1 + X2 = frK N K (k + 1)) := by show _ = frK N K k + 1 + N k; rw [← HQ.out, e2]
        have HF2 : Hid (∀ j, j < k + 1 → (if j = k then (Q : Int) else I' j) = ((frK N K j : Nat) : Int) ∧ ∀ i, (if j = k then (fun i => bK (Q + 1 + i)) else S' j) i = bK (frK N K j + 1 + i)) := fun j hj => by
          by_cases c : j = k
          · subst c; simp only [if_true]; exact ⟨by rw [HQ.out], fun i => by rw [HQ.out]⟩
          · simp only [if_neg c]; exact HF.out j (by omega)
        clear kM HP2 hq5 hT5 hT2 e1 e2 c0 c1 f0 HP HF HQ
        go_wp2
        exact ⟨⟨k + 1, Q + 1 + X2, _, _, by omega, by go_num, by go_num, HQ2, HP3, HF2, hT6⟩, by simp [intOf]; omega⟩
      · have hke : k = m := by omega
        subst hke
        go_wp2
        go_ret
        exact ⟨ret_int (by rw [HQ.out]), fun _ => ⟨_, _, _, _, rfl, HP.out.cong (fun j hj => (HF.out j hj).1) (fun j hj i _ => (HF.out j hj).2 i)⟩, hT⟩
set_option maxRecDepth 20000 in
set_option maxHeartbeats 4000000 in
theorem heldFr (a : Option Addr) (m cap K lo hi : Nat) (N : Nat → Nat) (w : World) (hm : m ≤ 1048576) (hN : ∀ j, j < m → N j ≤ 1048576) (hKm : ∀ j, j < m → frK N K j ≤ 16777215) (hKe : ∀ j, j < m → frK N K (j + 1) ≤ 33554432) (h : FrQ w lo hi a m (fun j => ((frK N K j : Nat) : Int)) N (fun j i => bK (frK N K j + 1 + i))) :
    Calls Try.prog 42 #[.slice a m cap, .int .i64 (K : Int)] w fun e w' => e = .returned (.int .i64 ((frK N K m : Nat) : Int)) ∧ w' = w := by
  by_cases h0 : 0 < m
  case neg =>
    obtain rfl : m = 0 := by omega
    go_enter Try.func42, Try.ntmps42
    go_wp2
    go_loopw [1, 5] (fun q i wr => i = .int .i64 0 ∧ q = .int .i64 (K : Int) ∧ wr = w) (fun _ _ _ => 0)
    case atStart => exact ⟨rfl, rfl, rfl⟩
    case round =>
      obtain ⟨rfl, rfl, hw⟩ := hrel
      subst hw
      go_wp2
      go_ret
      exact ⟨rfl, rfl⟩
  case pos =>
    obtain ⟨g, A, C, D, rfl, hP⟩ := h h0
    have HP : Hid (FrP w lo hi g m (fun j => ((frK N K j : Nat) : Int)) N (fun j i => bK (frK N K j + 1 + i)) A C D) := hP
    have HN : Hid (∀ j, j < m → N j ≤ 1048576) := hN
    have HK : Hid (∀ j, j < m → frK N K j ≤ 16777215) := hKm
    have HKe : Hid (∀ j, j < m → frK N K (j + 1) ≤ 33554432) := hKe
    clear h hP hN hKm hKe
    go_enter Try.func42, Try.ntmps42
    go_wp2
    go_loopw [1, 5] (fun q i wr => ∃ (k Q : Nat), k ≤ m ∧ i = .int .i64 (k : Int) ∧ q = .int .i64 (Q : Int) ∧ Hid (Q = frK N K k) ∧ wr = w) (fun _ i _ => m - (intOf i).toNat)
    case atStart => exact ⟨0, K, Nat.zero_le _, rfl, rfl, (rfl : K = frK N K 0), rfl⟩
    case round =>
      obtain ⟨k, Q, hk, rfl, rfl, HQ, hw⟩ := hrel
      have hw' := hw.symm
      clear hw
      subst hw'
      by_cases hlt : k < m
      · have c0 : w.cell? ⟨g, k * 2, none⟩ = some (.int .i64 (Q : Int)) := by rw [HQ.out]; exact (HP.out.c k hlt).1
        have c1 := (HP.out.c k hlt).2
        have l0 := HP.out.lt
        have hQb : Q ≤ 16777215 := by rw [HQ.out]; exact HK.out k hlt
        have i0 : (0 : Int) ≤ (k : Int) := by omega
        have i1 : (k : Int) < (m : Int) := by omega
        have kM := heldBy (A k) (N k) (C k) (Q + 1) (D k) (D (k + 1)) w (HN.out k hlt) (by omega) (by rw [HQ.out]; exact HP.out.y k hlt)
        have hcast : ((Q + 1 : Nat) : Int) = (Q : Int) + 1 := by omega
        rw [hcast] at kM
        obtain ⟨X1, e1⟩ : ∃ X, X = A k := ⟨_, rfl⟩
        obtain ⟨X2, e2⟩ : ∃ X, X = N k := ⟨_, rfl⟩
        obtain ⟨X3, e3⟩ : ∃ X, X = C k := ⟨_, rfl⟩
        rw [← e1, ← e2, ← e3] at c1 kM
        have HQ2 : Hid (Q + 1 + X2 = frK N K (k + 1)) := by show _ = frK N K k + 1 + N k; rw [← HQ.out, e2]
        have jn : ¬ (((Q + 1 + X2 : Nat) : Int) < 0) := by omega
        clear e1 e2 e3 hcast HQ
        go_wp2_with fail
        refine kM.mono ?_
        rintro e w5 ⟨rfl, hw5⟩
        have hs5 := hw5.symm
        clear hw5 kM
        subst hs5
        go_wp2
        exact ⟨⟨k + 1, Q + 1 + X2, by omega, by go_num, by go_num, HQ2, trivial⟩, by simp [intOf]; omega⟩
      · have hke : k = m := by omega
        subst hke
        go_wp2
        go_ret
        exact ⟨ret_int (by rw [HQ.out]), rfl⟩
end Go.Proofs.Ytldagjgpapnfpaa
