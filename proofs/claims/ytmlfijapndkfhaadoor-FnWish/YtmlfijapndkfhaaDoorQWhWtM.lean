/- The text of a wish. -/
import Derived.Test.YtmlfijapndkfhaaDoorQWhIn
import Derived.Lib.Join
namespace Go.Proofs.YtmlfijapndkfhaaDoor
def wdR : ByteArray := ⟨#[114, 101, 97, 99, 104]⟩
def wdA : ByteArray := ⟨#[97, 118, 111, 105, 100]⟩
def wsp : ByteArray := ⟨#[32]⟩
/-- it is one of the two words -/
def isW (s : ByteArray) : Bool := (s.toList == [114, 101, 97, 99, 104]) || (s.toList == [97, 118, 111, 105, 100])
/-- one of the first n is -/
def hwB (f : Nat → ByteArray) (n : Nat) : Bool := decide (∃ i, i < n ∧ isW (f i) = true)
/-- the names behind what stands already -/
def wtB (f : Nat → ByteArray) (o : ByteArray) : Nat → ByteArray
  | 0 => o
  | k + 1 => wtB f o k ++ (wsp ++ f k)
/-- what stands with a blank behind it, if something stands -/
def gapB (o : ByteArray) : ByteArray := if (o.toList == (⟨#[]⟩ : ByteArray).toList) = true then o else o ++ wsp
/-- a part behind what stands already -/
def prtO (wd : ByteArray) (f : Nat → ByteArray) (n : Nat) (o : ByteArray) : ByteArray := if n = 0 then o else wtB f (gapB o ++ wd) n
/-- the whole text -/
def txtB (rn : Nat) (re : Nat → ByteArray) (an : Nat) (av : Nat → ByteArray) : ByteArray := prtO wdA av an (prtO wdR re rn ⟨#[]⟩)
/-- it can be written -/
def wrB (rn : Nat) (re : Nat → ByteArray) (an : Nat) (av : Nat → ByteArray) : Bool := (namB re rn && namB av an) && (!(hwB re rn) && !(hwB av an)) && decide ((txtB rn re an av).size ≤ 200)
/-- what is written -/
def wrS (rn : Nat) (re : Nat → ByteArray) (an : Nat) (av : Nat → ByteArray) : ByteArray := if wrB rn re an av = true then txtB rn re an av else ⟨#[]⟩
theorem ba_ext {a b : ByteArray} (h : a.data.toList = b.data.toList) : a = b := by
  cases a; cases b
  simp only [ByteArray.mk.injEq]
  exact Array.toList_inj.mp h
theorem ba_app (a b : ByteArray) : (a ++ b).data.toList = a.data.toList ++ b.data.toList := by simp
theorem wtB_size {f : Nat → ByteArray} {o : ByteArray} (k : Nat) (h : ∀ i, i < k → (f i).size ≤ 1048576) : (wtB f o k).size ≤ o.size + k * 1048577 := by
  induction k with
  | zero => simp [wtB]
  | succ k ih =>
    have h1 := ih fun i hi => h i (by omega)
    have h2 := h k (by omega)
    have h3 : (wtB f o k ++ (wsp ++ f k)).size = (wtB f o k).size + (1 + (f k).size) := by
      rw [ByteArray.size_append, ByteArray.size_append]; rfl
    unfold wtB
    rw [h3]
    omega
theorem wtB_list (f : Nat → ByteArray) (o : ByteArray) (k : Nat) : (wtB f o k).data.toList = o.data.toList ++ Lib.joinTail [32] ((List.range k).map fun i => (f i).data.toList) := by
  induction k with
  | zero => simp [wtB, Lib.joinTail]
  | succ k ih =>
    unfold wtB
    rw [ba_app, ba_app, ih, List.range_succ]
    simp [Lib.joinTail, wsp]
/-- the texts that are laid together -/
def prtL (wd : ByteArray) (f : Nat → ByteArray) (n : Nat) : List ByteArray := if n = 0 then [] else wd :: (List.range n).map f
theorem prtL_zero (wd : ByteArray) (f : Nat → ByteArray) : prtL wd f 0 = [] := rfl
theorem jt_app (s : List UInt8) (a b : List (List UInt8)) : Lib.joinTail s (a ++ b) = Lib.joinTail s a ++ Lib.joinTail s b := by simp [Lib.joinTail]
theorem txt_join (rn : Nat) (re : Nat → ByteArray) (an : Nat) (av : Nat → ByteArray) : (⟨(Lib.join ((prtL wdR re rn ++ prtL wdA av an).map (·.data.toList)) wsp.data.toList).toArray⟩ : ByteArray) = txtB rn re an av := by
  have hsp : wsp.data.toList = [32] := rfl
  refine ba_ext ?_
  rw [hsp]
  show (Lib.join ((prtL wdR re rn ++ prtL wdA av an).map (·.data.toList)) [32]).toArray.toList = _
  rw [List.toList_toArray]
  unfold txtB prtO prtL
  by_cases h1 : rn = 0
  · rw [if_pos h1, if_pos h1]
    by_cases h2 : an = 0
    · rw [if_pos h2, if_pos h2]; rfl
    · rw [if_neg h2, if_neg h2, wtB_list]
      have : gapB ⟨#[]⟩ = ⟨#[]⟩ := by unfold gapB; rw [if_pos (by simp)]
      rw [this, ba_app]
      simp [Lib.join_cons, Function.comp_def]
  · rw [if_neg h1, if_neg h1]
    have e0 : gapB ⟨#[]⟩ = ⟨#[]⟩ := by unfold gapB; rw [if_pos (by simp)]
    by_cases h2 : an = 0
    · rw [if_pos h2, if_pos h2, wtB_list, e0, ba_app]
      simp [Lib.join_cons, Function.comp_def]
    · rw [if_neg h2, if_neg h2, wtB_list, e0]
      have hne : ¬ ((wtB re (⟨#[]⟩ ++ wdR) rn).toList == (⟨#[]⟩ : ByteArray).toList) = true := by
        rw [ByteArray.toList_eq, ByteArray.toList_eq, wtB_list, ba_app]
        simp [wdR]
      have : gapB (wtB re (⟨#[]⟩ ++ wdR) rn) = wtB re (⟨#[]⟩ ++ wdR) rn ++ wsp := by unfold gapB; rw [if_neg hne]
      rw [this, ba_app, ba_app, wtB_list, ba_app]
      simp [Lib.join_cons, jt_app, Function.comp_def, hsp]
      simp [Lib.joinTail]
end Go.Proofs.YtmlfijapndkfhaaDoor
