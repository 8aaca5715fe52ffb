/- A name resolved, as bytes. -/
import Derived.Test.YthhaemdpnphhoaaDoorTpQ
import Derived.Lib.LastIndexByte
import Derived.Test.YthhaemdpnphhoaaDoorTpG
namespace Go.Proofs.YthhaemdpnphhoaaDoor
/-- where the last stroke among the first k bytes stands (0 where there is none) -/
def lsK (s : ByteArray) : Nat → Nat
  | 0 => 0
  | k + 1 => if bt s k = 47 then k else lsK s k
theorem lsK_le (s : ByteArray) (k : Nat) : lsK s k ≤ k := by
  induction k with
  | zero => exact Nat.le_refl _
  | succ k ih => unfold lsK; split <;> omega
theorem data_bt (s : ByteArray) (i : Nat) (hi : i < s.size) : ((s.data[i]!).toNat : Int) = bt s i := by
  rw [bt_of s i hi]
  have hi' : i < s.data.size := hi
  rw [getElem!_pos s.data i hi']
  rfl
theorem ls_last (s : ByteArray) : ∀ k, k ≤ s.size → max 0 (Lib.lastIdx s 47 k) = (lsK s k : Int)
  | 0, _ => rfl
  | k + 1, h => by
    rw [Lib.lastIdx, lsK]
    have hb := data_bt s k (by omega)
    rw [hb]
    by_cases e : bt s k = 47
    · rw [if_pos e, if_pos e]
      omega
    · rw [if_neg e, if_neg e]
      exact ls_last s k (by omega)
/-- a name that begins with a stroke; one that begins with ~ and a stroke -/
def p1B (b : ByteArray) : Bool := decide (0 < b.size ∧ bt b 0 = 47)
def p2B (b : ByteArray) : Bool := decide (2 ≤ b.size ∧ bt b 0 = 126 ∧ bt b 1 = 47)
/-- the two laid together -/
def jnT (a b : ByteArray) : ByteArray := if p1B b then b else if p2B b then a ++ b.extract 1 b.size else a.extract 0 (lsK a a.size) ++ ⟨#[47]⟩ ++ b
/-- are both as they should be -/
def rsB (a b : ByteArray) : Bool := (a.toList.isEmpty || gtB a) && decide (b.size ≤ 60)
/-- what ResolveTopic tells -/
def rsT (a b : ByteArray) : ByteArray := if rsB a b && gtB (jnT a b) then jnT a b else ⟨#[]⟩
theorem gt_size {a : ByteArray} (h : gtB a = true) : a.size ≤ 60 := by
  unfold gtB at h
  simp only [Bool.and_eq_true, decide_eq_true_eq] at h
  exact h.1.1
theorem rs_size {a b : ByteArray} (h : rsB a b = true) : a.size ≤ 60 ∧ b.size ≤ 60 := by
  unfold rsB at h
  simp only [Bool.and_eq_true, Bool.or_eq_true, decide_eq_true_eq] at h
  refine ⟨?_, h.2⟩
  rcases h.1 with e | e
  · have : a.toList = [] := List.isEmpty_iff.1 e
    have h2 : a.toList.length = 0 := by rw [this]; rfl
    have h3 : a.toList.length = a.size := by rw [Lib.toList_data]; simp
    omega
  · exact gt_size e
theorem jn_size {a b : ByteArray} (ha : a.size ≤ 60) (hb : b.size ≤ 60) : (jnT a b).size ≤ 200 := by
  unfold jnT
  have h1 : (⟨#[47]⟩ : ByteArray).size = 1 := rfl
  split
  · omega
  · split
    · rw [ByteArray.size_append, ByteArray.size_extract]; omega
    · rw [ByteArray.size_append, ByteArray.size_append, ByteArray.size_extract, h1]; omega
end Go.Proofs.YthhaemdpnphhoaaDoor
