/- The law's own functions on lists of pairs: compared, marked, held. -/
import Derived.Test.YtipopglbpfdcmaaLnBase
import Derived.Test.YtipopglbpfdcmaaLqList
namespace Go.Proofs.Ytipopglbpfdcmaa
open Go.RowKit

theorem keep22 {w w' : World} {b1 b2 o1 o2 : Nat} {u v : Value} (x1 : w.cell? ⟨b1, o1, none⟩ = some u) (x2 : w.cell? ⟨b2, o2, none⟩ = some v) (l1 : b1 < w.heap.size) (l2 : b2 < w.heap.size) (k : Below w.heap.size w w') :
    w'.cell? ⟨b1, o1, none⟩ = some u ∧ w'.cell? ⟨b2, o2, none⟩ = some v := ⟨(k.cell (p := ⟨b1, o1, none⟩) l1).trans x1, (k.cell (p := ⟨b2, o2, none⟩) l2).trans x2⟩
set_option maxHeartbeats 2000000 in
theorem eqSS_any (a1 a2 : Option Addr) (n c1 c2 lo1 hi1 lo2 hi2 : Nat) (X Y : Nat → Int) (w : World) (hn : n ≤ 1048576) (h1 : LP w lo1 hi1 a1 n X Y) (h2 : LP w lo2 hi2 a2 n X Y) :
    Calls Try.prog 17 #[.slice a1 n c1, .slice a2 n c2] w fun e w' => e = .returned (.bool true) ∧ Below w.heap.size w w' := by
  go_enter Try.func17, Try.ntmps17
  go_wp2
  go_loopw [5] (fun i wr => ∃ k : Nat, k ≤ n ∧ i = .int .i64 k ∧ Below w.heap.size w wr) (fun i _ => n - (intOf i).toNat)
  case atStart => exact ⟨0, Nat.zero_le _, rfl, Below.refl _ _⟩
  case round =>
    obtain ⟨k, hk, rfl, hB⟩ := hrel
    by_cases hlt : k < n
    · obtain ⟨g1, B1, rfl, -, -, l1, hc1, hi1, -⟩ := (h1.on hB) (by omega)
      obtain ⟨g2, B2, rfl, -, -, l2, hc2, hi2, -⟩ := (h2.on hB) (by omega)
      have x1 := hc1 k hlt
      have x2 := hc2 k hlt
      have P1 := (hi1 k hlt).2.2
      have P2 := (hi2 k hlt).2.2
      have j1 : (k : Int) < (n : Int) := by omega
      have j0 : (0 : Int) ≤ (k : Int) := by omega
      have hw0 := Below.refl wr.heap.size wr
      clear hc1 hc2 hi1 hi2 h1 h2
      go_wp2_with fail
      go_region_held3 (fun w' => w'.cell? ⟨g1, k, none⟩ = some (hd2 (B1 k)) ∧ w'.cell? ⟨g2, k, none⟩ = some (hd2 (B2 k)))
        (first | (exact keep22 x1 x2 l1 l2 hw0.drew) | (exact keep22 x1 x2 l1 l2 hw1) | (fail))
        (first | (go_at_call 42; refine (eqI_any _ _ 2 2 2 (pr (X k) (Y k)) _ (by omega) (P1.below hw0.drew P1.lt).il (P2.below hw0.drew P2.lt).il).mono ?_; rintro e w1 ⟨rfl, hbn⟩; have hw1 := stepA hw0.drew hbn; clear hbn) | (fail))
      have hB2 := hB.trans (hw1.mono hB.size)
      clear hw1 hw0 P1 P2 x1 x2
      go_wp2
      exact ⟨⟨k + 1, by omega, by go_num, hB2⟩, by simp [intOf]; omega⟩
    · clear h1 h2
      go_wp2
      go_ret
      exact ⟨rfl, hB⟩

def mkX (m k : Nat) (X : Nat → Int) (i : Nat) : Int := if i < k then ((m + 2 * i : Nat) : Int) else X i
def mkY (m k : Nat) (Y : Nat → Int) (i : Nat) : Int := if i < k then ((m + 2 * i + 1 : Nat) : Int) else Y i
theorem pr_mark (m : Nat) : ∀ i, i < 2 → (fun i : Nat => (m : Int) + (i : Int)) i = pr (m : Int) ((m + 1 : Nat) : Int) i := fun i hi => by
  match i, hi with
  | 0, _ => simp [pr]
  | 1, _ => simp [pr]
set_option maxHeartbeats 2000000 in
theorem markSS_some (g : Nat) (B : Nat → Nat) (n c m lo hi : Nat) (X Y : Nat → Int) (w : World) (hn : n ≤ 4096) (hm : m ≤ 1048576) (hg : lo ≤ g) (hg2 : g < hi) (hgs : g < w.heap.size) (hc : ∀ i, i < n → w.cell? ⟨g, i, none⟩ = some (hd2 (B i))) (hP : ∀ i, i < n → lo ≤ B i ∧ B i < hi ∧ IP w (B i) 2 (pr (X i) (Y i))) (inj : ∀ i j, i < n → j < n → B i = B j → i = j) :
    Calls Try.prog 18 #[.slice (some ⟨g, 0, none⟩) n c, .int .i64 (m : Int)] w fun e w' => e = .returned (.int .i64 ((m + 2 * n : Nat) : Int)) ∧ LP w' lo hi (some ⟨g, 0, none⟩) n (mkX m n X) (mkY m n Y) ∧ Turns lo hi w w' := by
  go_enter Try.func18, Try.ntmps18
  go_wp2
  go_loopw [1, 5] (fun q i wr => ∃ k : Nat, k ≤ n ∧ i = .int .i64 k ∧ q = .int .i64 ((m + 2 * k : Nat) : Int) ∧ (∀ i, i < n → wr.cell? ⟨g, i, none⟩ = some (hd2 (B i))) ∧ (∀ i, i < n → IP wr (B i) 2 (pr (mkX m k X i) (mkY m k Y i))) ∧ OnlyIn lo hi w wr) (fun _ i _ => n - (intOf i).toNat)
  case atStart => exact ⟨0, Nat.zero_le _, rfl, rfl, hc, fun i hi => by simpa [mkX, mkY] using (hP i hi).2.2, OnlyIn.refl _ _ _⟩
  case round =>
    obtain ⟨k, hk, rfl, rfl, hcr, hPr, hO⟩ := hrel
    by_cases hlt : k < n
    · have x1 := hcr k hlt
      have P1 := hPr k hlt
      have j1 : (k : Int) < (n : Int) := by omega
      have j0 : (0 : Int) ≤ (k : Int) := by omega
      have hb := hP k hlt
      have hne : g ≠ B k := by
        intro e
        have c1 := hcr 0 (by omega)
        have c2 := P1.c 0 (by omega)
        rw [← e, c1] at c2
        cases c2
      go_wp2_with fail
      refine (markP_any (B k) 2 2 (m + 2 * k) _ _ (by omega) (by omega) P1).mono ?_
      rintro e w2 ⟨rfl, hQ, hOn⟩
      have hQ2 := hQ.congr (pr_mark (m + 2 * k))
      have hcr2 : ∀ i, i < n → w2.cell? ⟨g, i, none⟩ = some (hd2 (B i)) := fun i hi => (cell_same (hOn.block g hne) _).trans (hcr i hi)
      have hPr2 : ∀ i, i < n → IP w2 (B i) 2 (pr (mkX m (k + 1) X i) (mkY m (k + 1) Y i)) := fun i hi => by
        by_cases e : i = k
        · subst e
          have e1 : mkX m (i + 1) X i = ((m + 2 * i : Nat) : Int) := by simp [mkX]
          have e2 : mkY m (i + 1) Y i = ((m + 2 * i + 1 : Nat) : Int) := by simp [mkY]
          rw [e1, e2]; exact hQ2
        · have e1 : mkX m (k + 1) X i = mkX m k X i := by unfold mkX; by_cases h : i < k; { rw [if_pos h, if_pos (by omega)] }; { rw [if_neg h, if_neg (by omega)] }
          have e2 : mkY m (k + 1) Y i = mkY m k Y i := by unfold mkY; by_cases h : i < k; { rw [if_pos h, if_pos (by omega)] }; { rw [if_neg h, if_neg (by omega)] }
          rw [e1, e2]
          exact (hPr i hi).only hOn (fun h => e (inj i k hi hlt h))
      have hO2 := hO.trans (OnlyIn.of hOn hb.1 hb.2.1)
      clear hQ hQ2 hcr hPr hO hOn P1 x1 hb hc hP inj hne
      go_wp2
      exact ⟨⟨k + 1, by omega, by go_num, by congr 1 <;> omega, hcr2, hPr2, hO2⟩, by simp [intOf]; omega⟩
    · have hke : k = n := by omega
      subst hke
      have hb := fun i hi => hP i hi
      clear hc hP
      go_wp2
      go_ret
      exact ⟨rfl, fun _ => ⟨g, B, rfl, hg, hg2, by rw [hO.size]; exact hgs, hcr, fun i hi => ⟨(hb i hi).1, (hb i hi).2.1, hPr i hi⟩, inj⟩, hO.turns⟩
set_option maxHeartbeats 400000 in
theorem markSS_zero (a : Option Addr) (cap m : Nat) (w : World) :
    Calls Try.prog 18 #[.slice a 0 cap, .int .i64 (m : Int)] w fun e w' => e = .returned (.int .i64 (m : Int)) ∧ w' = w := by
  go_enter Try.func18, Try.ntmps18
  go_wp2
  go_loopw [1, 5] (fun q i wr => i = .int .i64 0 ∧ q = .int .i64 (m : Int) ∧ wr = w) (fun _ _ _ => 0)
  case atStart => exact ⟨rfl, rfl, rfl⟩
  case round =>
    obtain ⟨rfl, rfl, rfl⟩ := hrel
    go_wp2
    go_ret
    exact ⟨rfl, rfl⟩
theorem markSS_any (a : Option Addr) (n c m lo hi : Nat) (X Y : Nat → Int) (w : World) (hn : n ≤ 4096) (hm : m ≤ 1048576) (h : LP w lo hi a n X Y) :
    Calls Try.prog 18 #[.slice a n c, .int .i64 (m : Int)] w fun e w' => e = .returned (.int .i64 ((m + 2 * n : Nat) : Int)) ∧ LP w' lo hi a n (mkX m n X) (mkY m n Y) ∧ Turns lo hi w w' := by
  by_cases h0 : 0 < n
  · obtain ⟨g, B, rfl, h1, h2, h3, h4, h5, h6⟩ := h h0
    exact markSS_some g B n c m lo hi X Y w hn hm h1 h2 h3 h4 h5 h6
  · have : n = 0 := by omega
    subst this
    refine (markSS_zero a c m w).mono fun e w' ⟨h3, h4⟩ => ?_
    subst h4
    exact ⟨by rw [h3]; simp, lp_none _ _ _ _ _ _, (OnlyIn.refl _ _ _).turns⟩
set_option maxHeartbeats 2000000 in
theorem heldSS_any (a : Option Addr) (n c m lo hi : Nat) (X Y : Nat → Int) (w : World) (hn : n ≤ 4096) (hm : m ≤ 1048576) (h : LP w lo hi a n (mkX m n X) (mkY m n Y)) :
    Calls Try.prog 19 #[.slice a n c, .int .i64 (m : Int)] w fun e w' => e = .returned (.int .i64 ((m + 2 * n : Nat) : Int)) ∧ w' = w := by
  go_enter Try.func19, Try.ntmps19
  go_wp2
  go_loopw [1, 5] (fun q i wr => ∃ k : Nat, k ≤ n ∧ i = .int .i64 k ∧ q = .int .i64 ((m + 2 * k : Nat) : Int) ∧ wr = w) (fun _ i _ => n - (intOf i).toNat)
  case atStart => exact ⟨0, Nat.zero_le _, rfl, rfl, rfl⟩
  case round =>
    obtain ⟨k, hk, rfl, rfl, hw⟩ := hrel
    subst hw
    by_cases hlt : k < n
    · obtain ⟨g, B, rfl, -, -, -, h4, h5, -⟩ := h (by omega)
      have x1 := h4 k hlt
      have P1 := (h5 k hlt).2.2
      have e1 : mkX m n X k = ((m + 2 * k : Nat) : Int) := by simp [mkX, hlt]
      have e2 : mkY m n Y k = ((m + 2 * k + 1 : Nat) : Int) := by simp [mkY, hlt]
      rw [e1, e2] at P1
      have P2 := P1.congr (fun i hi => (pr_mark (m + 2 * k) i hi).symm)
      have j1 : (k : Int) < (n : Int) := by omega
      have j0 : (0 : Int) ≤ (k : Int) := by omega
      have j2 : ¬ ((m + 2 * k : Nat) : Int) + 2 < 0 := by omega
      clear h h4 h5 P1
      go_wp2_with fail
      refine (heldP_any (B k) 2 2 (m + 2 * k) _ (by omega) (by omega) P2).mono ?_
      rintro e w2 ⟨rfl, hw2⟩
      have hs2 := hw2.symm
      clear hw2 P2
      subst hs2
      go_wp2
      exact ⟨⟨k + 1, by omega, by go_num, by congr 1 <;> omega, trivial⟩, by simp [intOf]; omega⟩
    · have hke : k = n := by omega
      subst hke
      clear h
      go_wp2
      go_ret
      exact ⟨rfl, rfl⟩
end Go.Proofs.Ytipopglbpfdcmaa
