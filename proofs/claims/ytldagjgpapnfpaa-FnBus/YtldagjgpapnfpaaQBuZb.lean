/- What sizes bound; and the model's RunBus where it refuses at once. -/
import Derived.Test.YtldagjgpapnfpaaQBuZ
import Derived.Test.YtldagjgpapnfpaaQBuS
namespace Go.Proofs.Ytldagjgpapnfpaa
open Go.RowKit
theorem szT_pos {t : Tks} {l : Int} {n : Nat} (hl : -1 ≤ l) (h : 0 ≤ szT t l n) {i : Nat} (hi : i ≤ n) : 0 ≤ szT t l i := by
  by_cases c : szT t l i < 0
  · have := szT_neg c hl (n - i)
    rw [show i + (n - i) = n by omega] at this
    omega
  · omega
theorem szFr_in {N : Nat → Nat} {m : Nat} {l : Int} (h : 0 ≤ szFr N m l) : (m : Int) ≤ l ∧ 0 ≤ szF N (l - m) m ∧ szFr N m l = szF N (l - m) m := by
  unfold szFr at h ⊢
  split at h
  · omega
  · rename_i c
    rw [if_neg c]
    exact ⟨by omega, h, rfl⟩
theorem szT_sum {t : Tks} {L : Int} {n : Nat} (hl : 0 ≤ L) (h : 0 ≤ szT t L n) (K : Nat) : ∀ i, i ≤ n → ((tkK t K i : Nat) : Int) + szT t L i = (K : Int) + L + 3 * i
  | 0, _ => by simp [tkK, szT]
  | i + 1, hi => by
    have ih := szT_sum hl h K i (by omega)
    have p0 := szT_pos (by omega) h (show i ≤ n by omega)
    have p1 := szT_pos (by omega) h hi
    rw [szT, if_neg (by omega)] at p1 ⊢
    obtain ⟨q1, q2, q3⟩ := szFr_in p1
    have := (szF_fr (N := t.N i) (l := szT t L i - t.qm i) (by omega) q2 (tkK t K i) (t.qm i) (Nat.le_refl _)).1
    rw [q3, tkK]
    push_cast
    omega
/-- all that a told size bounds -/
theorem szTk_all {t : Tks} {n : Nat} {l : Int} (hl : 0 ≤ l ∧ l ≤ 1048576) (h : 0 ≤ szTk t n l) : n ≤ 1048576 ∧ ∀ i, i < n → t.qm i ≤ 1048576 ∧ (∀ j, j < t.qm i → t.N i j ≤ 1048576) ∧ ∀ K, K ≤ 1000 → ∀ j, j ≤ t.qm i → frK (t.N i) (tkK t K i) j ≤ 16777210 := by
  unfold szTk at h
  split at h
  · omega
  · rename_i c
    have hn : n ≤ 1048576 := by omega
    refine ⟨hn, fun i hi => ?_⟩
    have p0 := szT_pos (by omega) h (show i ≤ n by omega)
    have p1 := szT_pos (by omega) h (show i + 1 ≤ n by omega)
    have g0 := szT_ge t (l - n) (by omega) i
    rw [szT, if_neg (by omega)] at p1
    obtain ⟨q1, q2, q3⟩ := szFr_in p1
    refine ⟨by omega, fun j hj => ?_, fun K hK j hj => ?_⟩
    · have h1 := (szF_fr (N := t.N i) (l := szT t (l - n) i - t.qm i) (by omega) q2 0 (j + 1) (by omega)).2
      have h2 := szF_ge (t.N i) (szT t (l - n) i - t.qm i) (by omega) j
      rw [szF] at h1
      split at h1
      · omega
      · omega
    · have h1 := szF_fr (N := t.N i) (l := szT t (l - n) i - t.qm i) (by omega) q2 (tkK t K i) j hj
      have h2 := szT_sum (by omega) h K i (by omega)
      omega
theorem frK_le (N : Nat → Nat) (K : Nat) : ∀ j, (∀ i, i < j → N i ≤ 8) → frK N K j ≤ K + j * 9
  | 0, _ => by simp [frK]
  | j + 1, h => by
    have ih := frK_le N K j (fun i hi => h i (by omega))
    have := h j (by omega)
    rw [frK]
    omega
theorem tkK_le {t : Tks} {n : Nat} (h : ∀ i, i < n → t.qm i ≤ 8 ∧ ∀ j, j < t.qm i → t.N i j ≤ 8) (K : Nat) : ∀ i, i ≤ n → tkK t K i ≤ K + i * 75
  | 0, _ => by simp [tkK]
  | i + 1, hi => by
    have ih := tkK_le h K i (by omega)
    have h1 := frK_le (t.N i) (tkK t K i) (t.qm i) (h i (by omega)).2
    have h2 := (h i (by omega)).1
    rw [tkK]
    omega
theorem small_all {t : Tks} {n : Nat} (hn : n ≤ 6) (h : ∀ i, i < n → t.qm i ≤ 8 ∧ ∀ j, j < t.qm i → t.N i j ≤ 8) {K : Nat} (hK : K ≤ 1000) : ∀ i, i < n → ∀ j, j ≤ t.qm i → frK (t.N i) (tkK t K i) j ≤ 16777210 := fun i hi j hj => by
  have h1 := tkK_le h K i (by omega)
  have h2 := frK_le (t.N i) (tkK t K i) j (fun q hq => (h i hi).2 q (by omega))
  have h3 := (h i hi).1
  omega
/-- good talkers' frames have few bytes -/
theorem tks_small {t : Tks} {n : Nat} (h : tksB t n = true) (i : Nat) (hi : i < n) : ∀ j, j < t.qm i → t.N i j ≤ 8 := fun j hj => by
  have hg : tgB t i = true := by
    cases e : tgB t i with
    | true => rfl
    | false => rw [tksB_no hi e] at h; cases h
  unfold tgB at hg
  by_cases hc : t.qm i ≤ 8 ∧ 1 ≤ t.sh i ∧ t.sh i ≤ 10 ∧ 0 ≤ t.er i ∧ t.er i ≤ 255
  · rw [tkB_in hc] at hg
    cases e : frB (t.I i j) (t.N i j) with
    | false => rw [frsB_no hj e] at hg; cases hg
    | true =>
      unfold frB at e
      simp only [Bool.and_eq_true, decide_eq_true_eq] at e
      exact e.2
  · rw [tkB_no hc] at hg; cases hg
set_option maxRecDepth 20000 in
set_option maxHeartbeats 4000000 in
theorem sRun_no (a : Option Addr) (n c : Nat) (R W : Int) (sa : Option Addr) (sn sc : Nat) (w : World) (h : ¬ (n ≤ 6 ∧ (0 ≤ R ∧ R ≤ 40) ∧ (1 ≤ W ∧ W ≤ 20) ∧ sn ≤ 40)) :
    Calls Try.prog 7 #[.slice a n c, .int .i64 R, .int .i64 W, .slice sa sn sc] w fun e w' => e = .returned (.tuple #[.slice none 0 0, .slice none 0 0, .bool false]) ∧ Below w.heap.size w w' := by
  by_cases q0 : (6 : Int) < (n : Int)
  · clear h
    go_enter Try.func7, Try.ntmps7
    go_wp2
    go_ret3
    exact ⟨rfl, Below.refl _ _⟩
  by_cases q1 : R < 0
  · clear h
    go_enter Try.func7, Try.ntmps7
    go_wp2
    go_ret3
    exact ⟨rfl, Below.refl _ _⟩
  by_cases q2 : 40 < R
  · clear h
    go_enter Try.func7, Try.ntmps7
    go_wp2
    go_ret3
    exact ⟨rfl, Below.refl _ _⟩
  by_cases q3 : W < 1
  · clear h
    go_enter Try.func7, Try.ntmps7
    go_wp2
    go_ret3
    exact ⟨rfl, Below.refl _ _⟩
  by_cases q4 : 20 < W
  · clear h
    go_enter Try.func7, Try.ntmps7
    go_wp2
    go_ret3
    exact ⟨rfl, Below.refl _ _⟩
  have q5 : (40 : Int) < (sn : Int) := by omega
  clear h
  go_enter Try.func7, Try.ntmps7
  go_wp2
  go_ret3
  exact ⟨rfl, Below.refl _ _⟩
/-- RunBus, as the model goes, whatever it is asked -/
theorem sRun (a : Option Addr) (n c : Nat) (t : Tks) (S : Nat → Nat → Nat → Int) (R W : Int) (sa : Option Addr) (sn sc : Nat) (sf : Nat → Int) (w : World) (hT : TkF w a n t S) (hq : ∀ i, i < n → t.qm i ≤ 1048576) (hN : ∀ i, i < n → ∀ j, j < t.qm i → t.N i j ≤ 1048576) (hS : IL w sa sn sf) :
    Calls Try.prog 7 #[.slice a n c, .int .i64 R, .int .i64 W, .slice sa sn sc] w fun e w' => ((rbB t n R W sn = false ∧ e = .returned (.tuple #[.slice none 0 0, .slice none 0 0, .bool false])) ∨ (rbB t n R W sn = true ∧ AnsSun w' e n t S (runS t n W (fun r => hsB sf sn (r : Int)) R.toNat))) ∧ Below w.heap.size w w' := by
  by_cases h : n ≤ 6 ∧ (0 ≤ R ∧ R ≤ 40) ∧ (1 ≤ W ∧ W ≤ 20) ∧ sn ≤ 40
  · obtain ⟨K, rfl⟩ := Int.eq_ofNat_of_zero_le h.2.1.1
    have hr : rbB t n (K : Int) W sn = tksB t n := by unfold rbB; rw [decide_eq_true h.1, decide_eq_true h.2, Bool.true_and, Bool.and_true]
    rw [Int.toNat_natCast, hr]
    exact (sRunG a n c t S K W sa sn sc sf w h.1 (by omega) h.2.2.1 h.2.2.2 hT hq hN hS)
  · have hr : rbB t n R W sn = false := by
      cases e : rbB t n R W sn with
      | false => rfl
      | true => have := rbB_t e; exact absurd ⟨this.1, this.2.2⟩ h
    rw [hr]
    exact (sRun_no a n c R W sa sn sc w h).mono fun e w' ⟨h1, h2⟩ => ⟨.inl ⟨rfl, h1⟩, h2⟩
end Go.Proofs.Ytldagjgpapnfpaa
