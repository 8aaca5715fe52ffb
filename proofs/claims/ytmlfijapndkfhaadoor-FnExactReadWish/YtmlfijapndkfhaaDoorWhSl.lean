/- Lists of texts in memory; one of them, as the model looks for it. -/
import Derived.Test.YtmlfijapndkfhaaDoorInCore
namespace Go.Proofs.YtmlfijapndkfhaaDoor
open Go.RowKit
/-- the texts of a list, by their index -/
def SL (w : World) (a : Option Addr) (n : Nat) (S : Nat → ByteArray) : Prop :=
  0 < n → ∃ b off, a = some ⟨b, off, none⟩ ∧ b < w.heap.size ∧ ∀ i, i < n → w.cell? ⟨b, off + i, none⟩ = some (.string (S i))
theorem SL.below {w w' : World} {a : Option Addr} {n : Nat} {S : Nat → ByteArray} (h : SL w a n S) (hb : Below w.heap.size w w') : SL w' a n S := fun h0 => by
  obtain ⟨b, off, rfl, hbw, hc⟩ := h h0
  exact ⟨b, off, rfl, Nat.lt_of_lt_of_le hbw hb.size, fun i hi => (hb.cell (p := ⟨b, off + i, none⟩) hbw).trans (hc i hi)⟩
theorem SL.none (w : World) (S : Nat → ByteArray) : SL w none 0 S := fun h => absurd h (Nat.lt_irrefl _)
theorem SL.pre {w : World} {a : Option Addr} {n : Nat} {S : Nat → ByteArray} (h : SL w a n S) {k : Nat} (hk : k ≤ n) : SL w a k S := fun h0 => by
  obtain ⟨b, off, rfl, hbw, hc⟩ := h (Nat.lt_of_lt_of_le h0 hk)
  exact ⟨b, off, rfl, hbw, fun i hi => hc i (Nat.lt_of_lt_of_le hi hk)⟩
theorem SL.congr {w : World} {a : Option Addr} {n : Nat} {S T : Nat → ByteArray} (h : SL w a n S) (e : ∀ i, i < n → S i = T i) : SL w a n T := fun h0 => by
  obtain ⟨b, off, rfl, hbw, hc⟩ := h h0
  exact ⟨b, off, rfl, hbw, fun i hi => by rw [hc i hi, e i hi]⟩
/-- s is one of the first k -/
def inS (S : Nat → ByteArray) (s : ByteArray) : Nat → Bool
  | 0 => false
  | k + 1 => inS S s k || decide (S k = s)
theorem inS_mono {S : Nat → ByteArray} {s : ByteArray} {k m : Nat} (hk : k ≤ m) (h : inS S s k = true) : inS S s m = true := by
  induction m with
  | zero => have : k = 0 := by omega
            subst this; exact h
  | succ m ih =>
    by_cases e : k = m + 1
    · rw [← e]; exact h
    · unfold inS
      rw [ih (by omega)]; rfl
theorem inS_iff {S : Nat → ByteArray} {s : ByteArray} {m : Nat} : inS S s m = true ↔ ∃ i, i < m ∧ S i = s := by
  induction m with
  | zero => simp [inS]
  | succ m ih =>
    unfold inS
    simp only [Bool.or_eq_true, decide_eq_true_eq, ih]
    constructor
    · rintro (⟨i, h, e⟩ | e)
      · exact ⟨i, by omega, e⟩
      · exact ⟨m, by omega, e⟩
    · rintro ⟨i, h, e⟩
      by_cases hm : i = m
      · subst hm; exact Or.inr e
      · exact Or.inl ⟨i, by omega, e⟩
theorem bl_eq (a b : ByteArray) : (a.toList == b.toList) = decide (a = b) := by
  by_cases e : a = b
  · subst e; simp
  · rw [decide_eq_false e]
    refine beq_eq_false_iff_ne.mpr fun h => e ?_
    rw [ByteArray.toList_eq, ByteArray.toList_eq] at h
    cases a; cases b
    simp only [ByteArray.mk.injEq]
    exact Array.toList_inj.mp h
set_option maxHeartbeats 2000000 in
theorem sIn (a : Option Addr) (n c : Nat) (S : Nat → ByteArray) (s : ByteArray) (w : World) (hn : n ≤ 1048576) (ha : SL w a n S) :
    Calls Tryd.prog 31 #[.slice a n c, .string s] w fun e w' => e = .returned (.bool (inS S s n)) ∧ w' = w := by
  go_enter Tryd.func31, Tryd.ntmps31
  go_wp2
  go_loopw [9] (fun i wr => ∃ k : Nat, k ≤ n ∧ i = .int .i64 (k : Int) ∧ Hid (inS S s k = false) ∧ wr = w) (fun i _ => n - (intOf i).toNat)
  case atStart => exact ⟨0, Nat.zero_le _, rfl, (rfl : inS S s 0 = false), rfl⟩
  case round =>
    obtain ⟨k, hk, rfl, HE, hw⟩ := hrel
    have hw' := hw.symm
    clear hw
    subst hw'
    by_cases hlt : k < n
    · obtain ⟨b1, o1, rfl, l1, hc1⟩ := ha (by omega)
      have y1 := hc1 k hlt
      have j0 : (0 : Int) ≤ (k : Int) := by omega
      have j1 : (k : Int) < (n : Int) := by omega
      clear hc1 ha
      have HT : Hid (((S k).toList == s.toList) = true → inS S s n = true) := fun h => inS_iff.mpr ⟨k, hlt, by rw [bl_eq] at h; exact of_decide_eq_true h⟩
      have HF : Hid (((S k).toList == s.toList) = false → inS S s (k + 1) = false) := fun h => by
        unfold inS; rw [HE.out, ← bl_eq, h]; rfl
      go_wp2
      · rename_i h9
        go_ret
        exact ⟨by rw [HT.out h9]; rfl, rfl⟩
      · rename_i h9
        exact ⟨⟨k + 1, by omega, by go_num, HF.out h9, trivial⟩, by simp [intOf]; omega⟩
    · have : k = n := by omega
      subst this
      go_wp2
      go_ret
      exact ⟨by rw [HE.out]; rfl, rfl⟩
end Go.Proofs.YtmlfijapndkfhaaDoor
