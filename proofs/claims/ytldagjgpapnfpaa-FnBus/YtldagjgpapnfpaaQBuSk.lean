/- What was sent, marked by the law and looked at again. -/
import Derived.Test.YtldagjgpapnfpaaQBuSt
namespace Go.Proofs.Ytldagjgpapnfpaa
open Go.RowKit
/-- the first p are marked -/
def s1K (X : Nat → Int) (K p j : Nat) : Int := if j < p then ((K + j * 4 : Nat) : Int) else X j
def s2K (X : Nat → Int) (K p j : Nat) : Int := if j < p then ((K + j * 4 : Nat) : Int) + 1 else X j
def s3K (X : Nat → Int) (K p j : Nat) : Int := if j < p then ((K + j * 4 : Nat) : Int) + 2 else X j
def s4K (G : Nat → Bool) (K p j : Nat) : Bool := if j < p then ((((K + j * 4 + 3 : Nat) : Int) % 3) == 0) else G j
theorem ot {w : World} {g j k : Nat} {v : Value} (h : k ≠ j) : (w.setCell ⟨g, j, none⟩ v).cell? ⟨g, k, none⟩ = w.cell? ⟨g, k, none⟩ := World.cell?_setCell_other _ _ _ _ (by first | (simp; done) | (simp; omega))
theorem SnP.step {w : World} {g n K k Q : Nat} {X Y Z : Nat → Int} {G : Nat → Bool} {B : Bool} (h : SnP w g n (s1K X K k) (s2K Y K k) (s3K Z K k) (s4K G K k)) (hk : k < n) (hQ : Q = K + k * 4) (hB : B = ((((K + k * 4 + 3 : Nat) : Int) % 3) == 0)) :
    SnP ((((w.setCell ⟨g, k * 4, none⟩ (.int .i64 (Q : Int))).setCell ⟨g, k * 4 + 1, none⟩ (.int .i64 ((Q : Int) + 1))).setCell ⟨g, k * 4 + 2, none⟩ (.int .i64 ((Q : Int) + 2))).setCell ⟨g, k * 4 + 3, none⟩ (.bool B)) g n (s1K X K (k + 1)) (s2K Y K (k + 1)) (s3K Z K (k + 1)) (s4K G K (k + 1)) := by
  refine ⟨by simpa using h.lt, fun j hj => ?_, fun j => by simpa using h.fz j⟩
  obtain ⟨c0, c1, c2, c3⟩ := h.c j hj
  by_cases e : j = k
  · subst e
    unfold s1K s2K s3K s4K
    simp only [if_pos (Nat.lt_succ_self j)]
    refine ⟨?_, ?_, ?_, ?_⟩
    · rw [ot (by omega), ot (by omega), ot (by omega), World.cell?_setCell_same _ _ _ c0, hQ]
    · rw [ot (by omega), ot (by omega), World.cell?_setCell_same _ _ _ ((ot (by omega)).trans c1), hQ]
    · rw [ot (by omega), World.cell?_setCell_same _ _ _ ((ot (by omega)).trans ((ot (by omega)).trans c2)), hQ]
    · rw [World.cell?_setCell_same _ _ _ ((ot (by omega)).trans ((ot (by omega)).trans ((ot (by omega)).trans c3))), hB]
  · have e1 : s1K X K (k + 1) j = s1K X K k j := by unfold s1K; by_cases c : j < k; rw [if_pos c, if_pos (by omega)]; rw [if_neg c, if_neg (by omega)]
    have e2 : s2K Y K (k + 1) j = s2K Y K k j := by unfold s2K; by_cases c : j < k; rw [if_pos c, if_pos (by omega)]; rw [if_neg c, if_neg (by omega)]
    have e3 : s3K Z K (k + 1) j = s3K Z K k j := by unfold s3K; by_cases c : j < k; rw [if_pos c, if_pos (by omega)]; rw [if_neg c, if_neg (by omega)]
    have e4 : s4K G K (k + 1) j = s4K G K k j := by unfold s4K; by_cases c : j < k; rw [if_pos c, if_pos (by omega)]; rw [if_neg c, if_neg (by omega)]
    rw [e1, e2, e3, e4]
    refine ⟨?_, ?_, ?_, ?_⟩
    · rw [ot (by omega), ot (by omega), ot (by omega), ot (by omega)]; exact c0
    · rw [ot (by omega), ot (by omega), ot (by omega), ot (by omega)]; exact c1
    · rw [ot (by omega), ot (by omega), ot (by omega), ot (by omega)]; exact c2
    · rw [ot (by omega), ot (by omega), ot (by omega), ot (by omega)]; exact c3
set_option maxRecDepth 20000 in
set_option maxHeartbeats 4000000 in
theorem markSn (a : Option Addr) (n cap K lo hi : Nat) (X Y Z : Nat → Int) (G : Nat → Bool) (w : World) (hn : n ≤ 1000) (hK : K ≤ 1000000) (h : SnQ w lo hi a n X Y Z G) :
    Calls Try.prog 17 #[.slice a n cap, .int .i64 (K : Int)] w fun e w' => e = .returned (.int .i64 ((K + n * 4 : Nat) : Int)) ∧ SnQ w' lo hi a n (s1K X K n) (s2K Y K n) (s3K Z K n) (s4K G K n) ∧ Turns lo hi w w' := by
  by_cases h0 : 0 < n
  case neg =>
    obtain rfl : n = 0 := by omega
    go_enter Try.func17, Try.ntmps17
    go_wp2
    go_loopw [1, 5] (fun q i wr => i = .int .i64 0 ∧ q = .int .i64 (K : Int) ∧ wr = w) (fun _ _ _ => 0)
    case atStart => exact ⟨rfl, rfl, rfl⟩
    case round =>
      obtain ⟨rfl, rfl, hw⟩ := hrel
      subst hw
      go_wp2
      go_ret
      exact ⟨ret_int (by omega), fun h => absurd h (Nat.lt_irrefl _), turns_of (Below.refl _ _)⟩
  case pos =>
    obtain ⟨g, rfl, hlo, hhi, hP⟩ := h h0
    have HP0 : Hid (SnP w g n (s1K X K 0) (s2K Y K 0) (s3K Z K 0) (s4K G K 0)) := hP
    clear h hP
    go_enter Try.func17, Try.ntmps17
    go_wp2
    go_loopw [1, 5] (fun q i wr => ∃ k Q : Nat, k ≤ n ∧ i = .int .i64 (k : Int) ∧ q = .int .i64 (Q : Int) ∧ Q = K + k * 4 ∧ Hid (SnP wr g n (s1K X K k) (s2K Y K k) (s3K Z K k) (s4K G K k)) ∧ Only g w wr) (fun _ i _ => n - (intOf i).toNat)
    case atStart => exact ⟨0, K, Nat.zero_le _, rfl, rfl, by omega, HP0, Only.refl _ _⟩
    case round =>
      obtain ⟨k, Q, hk, rfl, rfl, hQ, HP, hO⟩ := hrel
      clear HP0
      by_cases hlt : k < n
      · obtain ⟨c0, c1, c2, c3⟩ := HP.out.c k hlt
        have l0 := HP.out.lt
        have f0 := HP.out.fz (k * 4)
        have f1 := HP.out.fz (k * 4 + 1)
        have f2 := HP.out.fz (k * 4 + 2)
        have f3 := HP.out.fz (k * 4 + 3)
        generalize s1K X K k k = A at c0
        generalize s2K Y K k k = B at c1
        generalize s3K Z K k k = C at c2
        generalize s4K G K k k = D at c3
        have i0 : (0 : Int) ≤ (k : Int) := by omega
        have i1 : (k : Int) < (n : Int) := by omega
        have hQb : Q ≤ 1100000 := by omega
        obtain ⟨U, hU⟩ : ∃ U, U = ((((K + k * 4 + 3 : Nat) : Int) % 3) == 0) := ⟨_, rfl⟩
        have HP2 : Hid (SnP _ g n (s1K X K (k + 1)) (s2K Y K (k + 1)) (s3K Z K (k + 1)) (s4K G K (k + 1))) := HP.out.step hlt hQ hU
        have hO2 := (((hO.set (k * 4) (.int .i64 (Q : Int))).set (k * 4 + 1) (.int .i64 ((Q : Int) + 1))).set (k * 4 + 2) (.int .i64 ((Q : Int) + 2))).set (k * 4 + 3) (.bool U)
        have hz1 : (((Q : Int) + 1 + 1 + 1) % 3 == 0) = U := by rw [hU, ← hQ]; congr 2
        have hz2 : (((Q : Int) + 3) % 3 == 0) = U := by rw [hU, ← hQ]; congr 2
        have hz3 : (((Q : Int) + 2 + 1) % 3 == 0) = U := by rw [hU, ← hQ]; congr 2
        have HQ : Hid (Q + 4 = K + (k + 1) * 4) := by show Q + 4 = _; omega
        have hq2 : (Q : Int) + 1 + 1 = (Q : Int) + 2 := by omega
        clear hU hO HP hQ
        go_wp2
        exact ⟨⟨k + 1, Q + 4, by omega, by go_num, by go_num, HQ.out, HP2, hO2⟩, by simp [intOf]; omega⟩
      · have hke : k = n := by omega
        subst hke
        go_wp2
        go_ret
        exact ⟨ret_int (by rw [hQ]), fun _ => ⟨g, rfl, hlo, hhi, HP.out⟩, (OnlyIn.of hO hlo hhi).turns⟩
set_option maxRecDepth 20000 in
set_option maxHeartbeats 4000000 in
theorem heldSn (a : Option Addr) (n cap K lo hi : Nat) (X Y Z : Nat → Int) (G : Nat → Bool) (w : World) (hn : n ≤ 1000) (hK : K ≤ 1000000) (h : SnQ w lo hi a n (s1K X K n) (s2K Y K n) (s3K Z K n) (s4K G K n)) :
    Calls Try.prog 18 #[.slice a n cap, .int .i64 (K : Int)] w fun e w' => e = .returned (.int .i64 ((K + n * 4 : Nat) : Int)) ∧ w' = w := by
  by_cases h0 : 0 < n
  case neg =>
    obtain rfl : n = 0 := by omega
    go_enter Try.func18, Try.ntmps18
    go_wp2
    go_loopw [1, 5] (fun q i wr => i = .int .i64 0 ∧ q = .int .i64 (K : Int) ∧ wr = w) (fun _ _ _ => 0)
    case atStart => exact ⟨rfl, rfl, rfl⟩
    case round =>
      obtain ⟨rfl, rfl, hw⟩ := hrel
      subst hw
      go_wp2
      go_ret
      exact ⟨ret_int (by omega), rfl⟩
  case pos =>
    obtain ⟨g, rfl, hlo, hhi, hP⟩ := h h0
    have HP : Hid (SnP w g n (s1K X K n) (s2K Y K n) (s3K Z K n) (s4K G K n)) := hP
    clear h hP
    go_enter Try.func18, Try.ntmps18
    go_wp2
    go_loopw [1, 5] (fun q i wr => ∃ k Q : Nat, k ≤ n ∧ i = .int .i64 (k : Int) ∧ q = .int .i64 (Q : Int) ∧ Q = K + k * 4 ∧ wr = w) (fun _ i _ => n - (intOf i).toNat)
    case atStart => exact ⟨0, K, Nat.zero_le _, rfl, rfl, by omega, rfl⟩
    case round =>
      obtain ⟨k, Q, hk, rfl, rfl, hQ, hw⟩ := hrel
      have hw' := hw.symm
      clear hw
      subst hw'
      by_cases hlt : k < n
      · obtain ⟨c0, c1, c2, c3⟩ := HP.out.c k hlt
        have l0 := HP.out.lt
        obtain ⟨U, hU⟩ : ∃ U, U = ((((K + k * 4 + 3 : Nat) : Int) % 3) == 0) := ⟨_, rfl⟩
        have b0 : w.cell? ⟨g, k * 4, none⟩ = some (.int .i64 (Q : Int)) := by rw [c0]; unfold s1K; rw [if_pos hlt, hQ]
        have b1 : w.cell? ⟨g, k * 4 + 1, none⟩ = some (.int .i64 ((Q : Int) + 1)) := by rw [c1]; unfold s2K; rw [if_pos hlt, hQ]
        have b2 : w.cell? ⟨g, k * 4 + 2, none⟩ = some (.int .i64 ((Q : Int) + 2)) := by rw [c2]; unfold s3K; rw [if_pos hlt, hQ]
        have b3 : w.cell? ⟨g, k * 4 + 3, none⟩ = some (.bool U) := by rw [c3, hU]; unfold s4K; rw [if_pos hlt]
        have i0 : (0 : Int) ≤ (k : Int) := by omega
        have i1 : (k : Int) < (n : Int) := by omega
        have hQb : Q ≤ 1100000 := by omega
        have hz1 : (((Q : Int) + 1 + 1 + 1) % 3 == 0) = U := by rw [hU, ← hQ]; congr 2
        have hz2 : (((Q : Int) + 3) % 3 == 0) = U := by rw [hU, ← hQ]; congr 2
        have hz3 : (((Q : Int) + 2 + 1) % 3 == 0) = U := by rw [hU, ← hQ]; congr 2
        have jz : (U != U) = false := by cases U <;> rfl
        have HQ : Hid (Q + 4 = K + (k + 1) * 4) := by show Q + 4 = _; omega
        have hq2 : (Q : Int) + 1 + 1 = (Q : Int) + 2 := by omega
        clear hU hQ c0 c1 c2 c3
        go_wp2
        exact ⟨⟨k + 1, Q + 4, by omega, by go_num, by go_num, HQ.out, trivial⟩, by simp [intOf]; omega⟩
      · have hke : k = n := by omega
        subst hke
        go_wp2
        go_ret
        exact ⟨ret_int (by rw [hQ]), rfl⟩
end Go.Proofs.Ytldagjgpapnfpaa
