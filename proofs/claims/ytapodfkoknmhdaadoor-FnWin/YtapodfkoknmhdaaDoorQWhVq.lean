/- The text of a wish. -/
import Derived.Test.YtapodfkoknmhdaaDoorQWhIn
import Derived.Lib.Join
import Derived.Test.YtapodfkoknmhdaaDoorQLqBase
namespace Go.Proofs.YtapodfkoknmhdaaDoor
def wdR : ByteArray := ⟨#[114, 101, 97, 99, 104]⟩
def wdA : ByteArray := ⟨#[97, 118, 111, 105, 100]⟩
def wsp : ByteArray := ⟨#[32]⟩
/-- it is one of the two words -/
def isW (s : ByteArray) : Bool := (s.toList == [114, 101, 97, 99, 104]) || (s.toList == [97, 118, 111, 105, 100])
/-- one of the first n is -/
def hwB (f : Nat → ByteArray) (n : Nat) : Bool := decide (∃ i, i < n ∧ isW (f i) = true)
/-- the names behind what stands already -/
def wtB (f : Nat → ByteArray) (o : ByteArray) : Nat → ByteArray
  | 0 => o
  | k + 1 => wtB f o k ++ (wsp ++ f k)
/-- what stands with a blank behind it, if something stands -/
def gapB (o : ByteArray) : ByteArray := if (o.toList == (⟨#[]⟩ : ByteArray).toList) = true then o else o ++ wsp
/-- a part behind what stands already -/
def prtO (wd : ByteArray) (f : Nat → ByteArray) (n : Nat) (o : ByteArray) : ByteArray := if n = 0 then o else wtB f (gapB o ++ wd) n
/-- the whole text -/
def txtB (rn : Nat) (re : Nat → ByteArray) (an : Nat) (av : Nat → ByteArray) : ByteArray := prtO wdA av an (prtO wdR re rn ⟨#[]⟩)
/-- it can be written -/
def wrB (rn : Nat) (re : Nat → ByteArray) (an : Nat) (av : Nat → ByteArray) : Bool := (namB re rn && namB av an) && (!(hwB re rn) && !(hwB av an)) && decide ((txtB rn re an av).size ≤ 200)
/-- what is written -/
def wrS (rn : Nat) (re : Nat → ByteArray) (an : Nat) (av : Nat → ByteArray) : ByteArray := if wrB rn re an av = true then txtB rn re an av else ⟨#[]⟩
theorem ba_ext {a b : ByteArray} (h : a.data.toList = b.data.toList) : a = b := by
  cases a; cases b
  simp only [ByteArray.mk.injEq]
  exact Array.toList_inj.mp h
theorem ba_app (a b : ByteArray) : (a ++ b).data.toList = a.data.toList ++ b.data.toList := by simp
theorem wtB_size {f : Nat → ByteArray} {o : ByteArray} (k : Nat) (h : ∀ i, i < k → (f i).size ≤ 1048576) : (wtB f o k).size ≤ o.size + k * 1048577 := by
  induction k with
  | zero => simp [wtB]
  | succ k ih =>
    have h1 := ih fun i hi => h i (by omega)
    have h2 := h k (by omega)
    have h3 : (wtB f o k ++ (wsp ++ f k)).size = (wtB f o k).size + (1 + (f k).size) := by
      rw [ByteArray.size_append, ByteArray.size_append]; rfl
    unfold wtB
    rw [h3]
    omega
theorem wtB_list (f : Nat → ByteArray) (o : ByteArray) (k : Nat) : (wtB f o k).data.toList = o.data.toList ++ Lib.joinTail [32] ((List.range k).map fun i => (f i).data.toList) := by
  induction k with
  | zero => simp [wtB, Lib.joinTail]
  | succ k ih =>
    unfold wtB
    rw [ba_app, ba_app, ih, List.range_succ]
    simp [Lib.joinTail, wsp]
/-- the texts that are laid together -/
def prtL (wd : ByteArray) (f : Nat → ByteArray) (n : Nat) : List ByteArray := if n = 0 then [] else wd :: (List.range n).map f
theorem prtL_zero (wd : ByteArray) (f : Nat → ByteArray) : prtL wd f 0 = [] := rfl
theorem jt_app (s : List UInt8) (a b : List (List UInt8)) : Lib.joinTail s (a ++ b) = Lib.joinTail s a ++ Lib.joinTail s b := by simp [Lib.joinTail]
theorem txt_join (rn : Nat) (re : Nat → ByteArray) (an : Nat) (av : Nat → ByteArray) : (⟨(Lib.join ((prtL wdR re rn ++ prtL wdA av an).map (·.data.toList)) wsp.data.toList).toArray⟩ : ByteArray) = txtB rn re an av := by
  have hsp : wsp.data.toList = [32] := rfl
  refine ba_ext ?_
  rw [hsp]
  show (Lib.join ((prtL wdR re rn ++ prtL wdA av an).map (·.data.toList)) [32]).toArray.toList = _
  rw [List.toList_toArray]
  unfold txtB prtO prtL
  by_cases h1 : rn = 0
  · rw [if_pos h1, if_pos h1]
    by_cases h2 : an = 0
    · rw [if_pos h2, if_pos h2]; rfl
    · rw [if_neg h2, if_neg h2, wtB_list]
      have : gapB ⟨#[]⟩ = ⟨#[]⟩ := by unfold gapB; rw [if_pos (by simp)]
      rw [this, ba_app]
      simp [Lib.join_cons, Function.comp_def]
  · rw [if_neg h1, if_neg h1]
    have e0 : gapB ⟨#[]⟩ = ⟨#[]⟩ := by unfold gapB; rw [if_pos (by simp)]
    by_cases h2 : an = 0
    · rw [if_pos h2, if_pos h2, wtB_list, e0, ba_app]
      simp [Lib.join_cons, Function.comp_def]
    · rw [if_neg h2, if_neg h2, wtB_list, e0]
      have hne : ¬ ((wtB re (⟨#[]⟩ ++ wdR) rn).toList == (⟨#[]⟩ : ByteArray).toList) = true := by
        rw [ByteArray.toList_eq, ByteArray.toList_eq, wtB_list, ba_app]
        simp [wdR]
      have : gapB (wtB re (⟨#[]⟩ ++ wdR) rn) = wtB re (⟨#[]⟩ ++ wdR) rn ++ wsp := by unfold gapB; rw [if_neg hne]
      rw [this, ba_app, ba_app, wtB_list, ba_app]
      simp [Lib.join_cons, jt_app, Function.comp_def, hsp]
      simp [Lib.joinTail]
end Go.Proofs.YtapodfkoknmhdaaDoor

/- Lists of any values (one cell each) of a call's own. -/
namespace Go.Proofs.YtapodfkoknmhdaaDoor
open Go.RowKit
/-- a row of values in one block that may be written -/
structure VP (w : World) (b n : Nat) (f : Nat → Value) : Prop where
  lt : b < w.heap.size
  c : ∀ i, i < n → w.cell? ⟨b, i, none⟩ = some (f i)
  fz : ∀ i, w.frozen? ⟨b, i, none⟩ = false
/-- .. that lies from lo on, below hi -/
def VQ (w : World) (lo hi : Nat) (a : Option Addr) (n : Nat) (f : Nat → Value) : Prop :=
  0 < n → ∃ b, a = some ⟨b, 0, none⟩ ∧ lo ≤ b ∧ b < hi ∧ VP w b n f
section
variable {w w' : World} {lo hi lo' hi' b n : Nat} {a : Option Addr} {f g : Nat → Value}
theorem VP.of (h : VP w b n f) (hs : w.heap.size ≤ w'.heap.size) (e : w'.heap[b]? = w.heap[b]?) : VP w' b n f :=
  ⟨Nat.lt_of_lt_of_le h.lt hs, fun i hi => (cell_same e i).trans (h.c i hi), fun i => (frozen_same e i).trans (h.fz i)⟩
theorem vp_row {t : TypeId} (h : w.rowIs b t n f) : VP w b n f := ⟨h.lt, fun _ hi => h.cell hi, fun i => h.frozen i⟩
theorem VP.far {b' k : Nat} (h : VP w b n f) (v : Value) (hn : b ≠ b') : VP (w.setCell ⟨b', k, none⟩ v) b n f := by
  have hO : Only b' w (w.setCell ⟨b', k, none⟩ v) := (Only.refl b' w).set k v
  exact h.of (by simp) (hO.block b hn)
theorem VP.set (h : VP w b n f) {k : Nat} (hk : k < n) (v : Value) : VP (w.setCell ⟨b, k, none⟩ v) b n (fun i => if i = k then v else f i) := by
  refine ⟨by simpa using h.lt, fun i hi => ?_, fun j => by simpa using h.fz j⟩
  by_cases e : i = k
  · subst e; rw [if_pos rfl]; exact World.cell?_setCell_same _ _ _ (h.c i hi)
  · rw [if_neg e]; exact (World.cell?_setCell_other _ _ _ _ (by simp <;> omega)).trans (h.c i hi)
theorem VQ.on (h : VQ w lo hi a n f) (k : Below w.heap.size w w') : VQ w' lo hi a n f := fun h0 => by
  obtain ⟨b, rfl, h1, h2, hP⟩ := h h0
  exact ⟨b, rfl, h1, h2, hP.of k.size (k.block b hP.lt)⟩
theorem VQ.turns (h : VQ w lo hi a n f) (k : Turns lo' hi' w w') (hd : hi ≤ lo' ∨ hi' ≤ lo) : VQ w' lo hi a n f := fun h0 => by
  obtain ⟨b, rfl, h1, h2, hP⟩ := h h0
  exact ⟨b, rfl, h1, h2, hP.of k.size (k.block b hP.lt (by omega))⟩
theorem VQ.wide (h : VQ w lo hi a n f) (h0 : lo' ≤ lo) (h1 : hi ≤ hi') : VQ w lo' hi' a n f := fun hn => by
  obtain ⟨b, rfl, h2, h3, hP⟩ := h hn
  exact ⟨b, rfl, by omega, by omega, hP⟩
theorem vq_none (w : World) (lo hi : Nat) (a : Option Addr) (f : Nat → Value) : VQ w lo hi a 0 f := fun h => absurd h (Nat.lt_irrefl _)
theorem vq_set (h : VQ w lo hi a n f) {b k : Nat} (v : Value) (hn : b < lo ∨ hi ≤ b) : VQ (w.setCell ⟨b, k, none⟩ v) lo hi a n f := fun h0 => by
  obtain ⟨c, rfl, h2, h3, hP⟩ := h h0
  exact ⟨c, rfl, h2, h3, hP.far v (by omega)⟩
end
end Go.Proofs.YtapodfkoknmhdaaDoor
