/- Lists of texts in memory; one of them, as the model looks for it. -/
import Derived.Test.YtmlfijapndkfhaaDoorQInCore
import Derived.Test.YtmlfijapndkfhaaDoorQWhOdd
namespace Go.Proofs.YtmlfijapndkfhaaDoor
open Go.RowKit
/-- the texts of a list, by their index -/
def SL (w : World) (a : Option Addr) (n : Nat) (S : Nat → ByteArray) : Prop :=
  0 < n → ∃ b off, a = some ⟨b, off, none⟩ ∧ b < w.heap.size ∧ ∀ i, i < n → w.cell? ⟨b, off + i, none⟩ = some (.string (S i))
theorem SL.below {w w' : World} {a : Option Addr} {n : Nat} {S : Nat → ByteArray} (h : SL w a n S) (hb : Below w.heap.size w w') : SL w' a n S := fun h0 => by
  obtain ⟨b, off, rfl, hbw, hc⟩ := h h0
  exact ⟨b, off, rfl, Nat.lt_of_lt_of_le hbw hb.size, fun i hi => (hb.cell (p := ⟨b, off + i, none⟩) hbw).trans (hc i hi)⟩
theorem SL.none (w : World) (S : Nat → ByteArray) : SL w none 0 S := fun h => absurd h (Nat.lt_irrefl _)
theorem SL.pre {w : World} {a : Option Addr} {n : Nat} {S : Nat → ByteArray} (h : SL w a n S) {k : Nat} (hk : k ≤ n) : SL w a k S := fun h0 => by
  obtain ⟨b, off, rfl, hbw, hc⟩ := h (Nat.lt_of_lt_of_le h0 hk)
  exact ⟨b, off, rfl, hbw, fun i hi => hc i (Nat.lt_of_lt_of_le hi hk)⟩
theorem SL.congr {w : World} {a : Option Addr} {n : Nat} {S T : Nat → ByteArray} (h : SL w a n S) (e : ∀ i, i < n → S i = T i) : SL w a n T := fun h0 => by
  obtain ⟨b, off, rfl, hbw, hc⟩ := h h0
  exact ⟨b, off, rfl, hbw, fun i hi => by rw [hc i hi, e i hi]⟩
/-- s is one of the first k -/
def inS (S : Nat → ByteArray) (s : ByteArray) : Nat → Bool
  | 0 => false
  | k + 1 => inS S s k || decide (S k = s)
theorem inS_mono {S : Nat → ByteArray} {s : ByteArray} {k m : Nat} (hk : k ≤ m) (h : inS S s k = true) : inS S s m = true := by
  induction m with
  | zero => have : k = 0 := by omega
            subst this; exact h
  | succ m ih =>
    by_cases e : k = m + 1
    · rw [← e]; exact h
    · unfold inS
      rw [ih (by omega)]; rfl
theorem inS_iff {S : Nat → ByteArray} {s : ByteArray} {m : Nat} : inS S s m = true ↔ ∃ i, i < m ∧ S i = s := by
  induction m with
  | zero => simp [inS]
  | succ m ih =>
    unfold inS
    simp only [Bool.or_eq_true, decide_eq_true_eq, ih]
    constructor
    · rintro (⟨i, h, e⟩ | e)
      · exact ⟨i, by omega, e⟩
      · exact ⟨m, by omega, e⟩
    · rintro ⟨i, h, e⟩
      by_cases hm : i = m
      · subst hm; exact Or.inr e
      · exact Or.inl ⟨i, by omega, e⟩
theorem bl_eq (a b : ByteArray) : (a.toList == b.toList) = decide (a = b) := by
  by_cases e : a = b
  · subst e; simp
  · rw [decide_eq_false e]
    refine beq_eq_false_iff_ne.mpr fun h => e ?_
    rw [ByteArray.toList_eq, ByteArray.toList_eq] at h
    cases a; cases b
    simp only [ByteArray.mk.injEq]
    exact Array.toList_inj.mp h
set_option maxHeartbeats 2000000 in
theorem sIn (a : Option Addr) (n c : Nat) (S : Nat → ByteArray) (s : ByteArray) (w : World) (hn : n ≤ 1048576) (ha : SL w a n S) :
    Calls Tryd.prog 31 #[.slice a n c, .string s] w fun e w' => e = .returned (.bool (inS S s n)) ∧ w' = w := by
  go_enter Tryd.func31, Tryd.ntmps31
  go_wp2
  go_loopw [9] (fun i wr => ∃ k : Nat, k ≤ n ∧ i = .int .i64 (k : Int) ∧ Hid (inS S s k = false) ∧ wr = w) (fun i _ => n - (intOf i).toNat)
  case atStart => exact ⟨0, Nat.zero_le _, rfl, (rfl : inS S s 0 = false), rfl⟩
  case round =>
    obtain ⟨k, hk, rfl, HE, hw⟩ := hrel
    have hw' := hw.symm
    clear hw
    subst hw'
    by_cases hlt : k < n
    · obtain ⟨b1, o1, rfl, l1, hc1⟩ := ha (by omega)
      have y1 := hc1 k hlt
      have j0 : (0 : Int) ≤ (k : Int) := by omega
      have j1 : (k : Int) < (n : Int) := by omega
      clear hc1 ha
      have HT : Hid (((S k).toList == s.toList) = true → inS S s n = true) := fun h => inS_iff.mpr ⟨k, hlt, by rw [bl_eq] at h; exact of_decide_eq_true h⟩
      have HF : Hid (((S k).toList == s.toList) = false → inS S s (k + 1) = false) := fun h => by
        unfold inS; rw [HE.out, ← bl_eq, h]; rfl
      go_wp2
      · rename_i h9
        go_ret
        exact ⟨by rw [HT.out h9]; rfl, rfl⟩
      · rename_i h9
        exact ⟨⟨k + 1, by omega, by go_num, HF.out h9, trivial⟩, by simp [intOf]; omega⟩
    · have : k = n := by omega
      subst this
      go_wp2
      go_ret
      exact ⟨by rw [HE.out]; rfl, rfl⟩
end Go.Proofs.YtmlfijapndkfhaaDoor

/- Lists of names in memory; one of them, as the model looks for it. -/
namespace Go.Proofs.YtmlfijapndkfhaaDoor
open Go.RowKit
/-- the first k of a list are names, no two of them the same -/
def namesB (S : Nat → ByteArray) : Nat → Bool
  | 0 => true
  | k + 1 => namesB S k && (nameB (bt (S k)) (S k).size && !(inS S (S k) k))
theorem namesB_no {S : Nat → ByteArray} {k m : Nat} (hk : k ≤ m) (h : namesB S k = false) : namesB S m = false := by
  induction m with
  | zero => have : k = 0 := by omega
            subst this; exact h
  | succ m ih =>
    by_cases e : k = m + 1
    · rw [← e]; exact h
    · unfold namesB
      rw [ih (by omega)]; rfl
/-- a list of names -/
def namB (S : Nat → ByteArray) (n : Nat) : Bool := decide (n ≤ 6) && namesB S n
set_option maxHeartbeats 2000000 in
theorem sNames (a : Option Addr) (n c : Nat) (S : Nat → ByteArray) (w : World) (hn : n ≤ 1048576) (hc : n ≤ c) (hS : ∀ i, i < n → (S i).size ≤ 1048576) (ha : SL w a n S) :
    Calls Tryd.prog 43 #[.slice a n c] w fun e w' => e = .returned (.bool (namB S n)) ∧ w' = w := by
  have kI := fun (k : Nat) (s : ByteArray) w2 (hk : k ≤ n) (h : SL w2 a k S) => sIn a k c S s w2 (by omega) h
  have kN := fun k w2 (hk : k < n) => sName (S k) w2 (hS k hk)
  go_enter Tryd.func43, Tryd.ntmps43
  unfold namB
  by_cases h6 : n ≤ 6
  · rw [decide_eq_true h6]
    have h6' : ¬ ((6 : Int) < (n : Int)) := by omega
    go_wp2
    go_loopw [10] (fun i wr => ∃ k : Nat, k ≤ n ∧ i = .int .i64 (k : Int) ∧ Hid (namesB S k = true) ∧ wr = w) (fun i _ => n - (intOf i).toNat)
    case atStart => exact ⟨0, Nat.zero_le _, rfl, (rfl : namesB S 0 = true), rfl⟩
    case round =>
      obtain ⟨k, hk, rfl, HE, hw⟩ := hrel
      have hw' := hw.symm
      clear hw
      subst hw'
      by_cases hlt : k < n
      · have kN2 := fun w2 => kN k w2 hlt
        have kI2 := fun w2 (h : SL w2 a k S) => kI k (S k) w2 hk h
        have hp := ha.pre hk
        obtain ⟨b1, o1, rfl, l1, hc1⟩ := ha (by omega)
        have y1 := hc1 k hlt
        have j0 : (0 : Int) ≤ (k : Int) := by omega
        have j1 : (k : Int) < (n : Int) := by omega
        clear hc1 kN kI ha
        have HT : Hid (nameB (bt (S k)) (S k).size = true → inS S (S k) k = false → namesB S (k + 1) = true) := fun h1 h2 => by
          unfold namesB; rw [HE.out, h1, h2]; rfl
        have HF : Hid ((nameB (bt (S k)) (S k).size && !(inS S (S k) k)) = false → namesB S n = false) := fun h1 => namesB_no (k := k + 1) (by omega) (by unfold namesB; rw [h1]; exact Bool.and_false _)
        generalize nameB (bt (S k)) (S k).size = N at *
        generalize inS S (S k) k = I at *
        cases N with
        | false =>
          go_wp2_with fail
          refine (kN2 _).mono ?_
          rintro e w2 ⟨rfl, hw2⟩
          have hs2 := hw2.symm
          clear hw2 kN2
          subst hs2
          go_wp2
          go_ret
          exact ⟨by rw [HF.out rfl]; rfl, rfl⟩
        | true =>
          go_wp2_with fail
          refine (kN2 _).mono ?_
          rintro e w2 ⟨rfl, hw2⟩
          have hs2 := hw2.symm
          clear hw2 kN2
          subst hs2
          go_wp2_with fail
          refine (kI2 _ hp).mono ?_
          rintro e w2 ⟨rfl, hw2⟩
          have hs2 := hw2.symm
          clear hw2 kI2
          subst hs2
          cases I with
          | true =>
            go_wp2
            go_ret
            exact ⟨by rw [HF.out rfl]; rfl, rfl⟩
          | false =>
            go_wp2
            exact ⟨⟨k + 1, by omega, by go_num, HT.out trivial trivial, trivial⟩, by simp [intOf]; omega⟩
      · have : k = n := by omega
        subst this
        go_wp2
        go_ret
        exact ⟨by rw [HE.out]; rfl, rfl⟩
  · rw [decide_eq_false h6]
    have h6' : ((6 : Int) < (n : Int)) := by omega
    go_wp2
    go_ret
    exact ⟨rfl, rfl⟩
end Go.Proofs.YtmlfijapndkfhaaDoor
