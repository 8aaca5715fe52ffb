/- Parts that failed, as a rising list of texts; what an event makes of a mode and of them. No program. -/
import Derived.Test.YtoleblhidieheaaSgM
import Derived.Test.YtoleblhidieheaaWhSl
import Derived.Sort.Walk0
import Derived.Shelf.Spec.SearchS
namespace Go.Proofs.Ytoleblhidieheaa
open Go.RowKit
/-- x is less than y, by bytes -/
def lsB (x y : ByteArray) : Bool := Op.bytesLess x.toList y.toList
theorem lsB_iff {x y : ByteArray} : lsB x y = true ↔ x.toList < y.toList := by
  unfold lsB; rw [bytesLess_eq]; exact decide_eq_true_iff
theorem ba_ext {x y : ByteArray} (h : x.toList = y.toList) : x = y := by
  have := bl_eq x y
  rw [h] at this
  simpa using this.symm
theorem lsB_irr (x : ByteArray) : lsB x x = false := by
  rw [← Bool.not_eq_true, lsB_iff]; exact List.lt_irrefl _
theorem lsB_trans {x y z : ByteArray} (h : lsB x y = true) (k : lsB y z = true) : lsB x z = true :=
  lsB_iff.2 (List.lt_trans (lsB_iff.1 h) (lsB_iff.1 k))
theorem lsB_tri {x y : ByteArray} (h : lsB x y = false) (hn : x ≠ y) : lsB y x = true := by
  refine lsB_iff.2 ?_
  have h1 : ¬ x.toList < y.toList := fun c => by rw [lsB_iff.2 c] at h; cases h
  have h2 : y.toList ≤ x.toList := List.not_lt.1 h1
  by_cases h3 : y.toList < x.toList
  · exact h3
  · exact absurd (ba_ext (List.le_antisymm (List.not_lt.1 h3) h2)) hn
/-- no text that is not less than one ahead of it -/
def Srt (l : List ByteArray) : Prop := l.Pairwise fun x y => lsB x y = true
def addL (p : ByteArray) : List ByteArray → List ByteArray
  | [] => [p]
  | x :: t => if lsB x p = true then x :: addL p t else if x = p then x :: t else p :: x :: t
def delL (p : ByteArray) (l : List ByteArray) : List ByteArray := l.filter fun x => !decide (x = p)
def hadB (p : ByteArray) (l : List ByteArray) : Bool := l.any fun x => !lsB x p
theorem hadB_snoc (p : ByteArray) (l : List ByteArray) (x : ByteArray) : hadB p (l ++ [x]) = (hadB p l || !lsB x p) := by simp [hadB]
theorem hadB_cons (p : ByteArray) (l : List ByteArray) (x : ByteArray) : hadB p (x :: l) = (!lsB x p || hadB p l) := by simp [hadB]
theorem addL_had {p : ByteArray} {x : ByteArray} : ∀ {l : List ByteArray}, hadB p l = true → addL p (l ++ [x]) = addL p l ++ [x]
  | [], h => by simp [hadB] at h
  | y :: t, h => by
    rw [List.cons_append]
    unfold addL
    by_cases e : lsB y p = true
    · rw [if_pos e, if_pos e, List.cons_append]
      rw [hadB_cons, e] at h
      rw [addL_had (by simpa using h)]
    · rw [if_neg e, if_neg e]
      by_cases e2 : y = p
      · rw [if_pos e2, if_pos e2]; rfl
      · rw [if_neg e2, if_neg e2]; rfl
theorem addL_no {p : ByteArray} : ∀ {l : List ByteArray}, hadB p l = false → addL p l = l ++ [p]
  | [], _ => rfl
  | y :: t, h => by
    rw [hadB_cons] at h
    simp only [Bool.or_eq_false_iff, Bool.not_eq_false'] at h
    unfold addL
    rw [if_pos h.1, addL_no h.2]; rfl
theorem addL_new {p x : ByteArray} : ∀ {l : List ByteArray}, hadB p l = false → lsB x p = false → addL p (l ++ [x]) = l ++ (if x = p then [] else [p]) ++ [x]
  | [], _, h => by
    show addL p [x] = _
    unfold addL
    rw [if_neg (by rw [h]; decide)]
    by_cases e : x = p
    · rw [if_pos e, if_pos e]; rfl
    · rw [if_neg e, if_neg e]; rfl
  | y :: t, h, k => by
    rw [hadB_cons] at h
    simp only [Bool.or_eq_false_iff, Bool.not_eq_false'] at h
    rw [List.cons_append]
    unfold addL
    rw [if_pos h.1, addL_new h.2 k]; rfl
theorem mem_addL {p x : ByteArray} : ∀ {l : List ByteArray}, x ∈ addL p l ↔ x = p ∨ x ∈ l
  | [] => by simp [addL]
  | y :: t => by
    unfold addL
    by_cases e : lsB y p = true
    · rw [if_pos e, List.mem_cons, List.mem_cons, mem_addL]
      constructor
      · rintro (h | h | h)
        · exact .inr (.inl h)
        · exact .inl h
        · exact .inr (.inr h)
      · rintro (h | h | h)
        · exact .inr (.inl h)
        · exact .inl h
        · exact .inr (.inr h)
    · rw [if_neg e]
      by_cases e2 : y = p
      · rw [if_pos e2, List.mem_cons]
        constructor
        · rintro h; exact .inr h
        · rintro (h | h)
          · exact .inl (h.trans e2.symm)
          · exact h
      · rw [if_neg e2, List.mem_cons]
theorem addL_srt {p : ByteArray} : ∀ {l : List ByteArray}, Srt l → Srt (addL p l)
  | [], _ => List.pairwise_singleton _ _
  | y :: t, h => by
    obtain ⟨h1, h2⟩ := List.pairwise_cons.1 h
    unfold addL
    by_cases e : lsB y p = true
    · rw [if_pos e]
      refine List.pairwise_cons.2 ⟨fun x hx => ?_, addL_srt h2⟩
      rcases mem_addL.1 hx with rfl | hx
      · exact e
      · exact h1 x hx
    · rw [if_neg e]
      by_cases e2 : y = p
      · rw [if_pos e2]; exact h
      · rw [if_neg e2]
        have hp : lsB p y = true := lsB_tri (by simpa using e) e2
        refine List.pairwise_cons.2 ⟨fun x hx => ?_, h⟩
        rcases List.mem_cons.1 hx with rfl | hx
        · exact hp
        · exact lsB_trans hp (h1 x hx)
theorem delL_srt {p : ByteArray} {l : List ByteArray} (h : Srt l) : Srt (delL p l) := List.Pairwise.filter _ h
/-- how many are less than p -/
def plc (p : ByteArray) : List ByteArray → Nat
  | [] => 0
  | x :: t => if lsB x p = true then plc p t + 1 else 0
theorem plc_le (p : ByteArray) : ∀ l : List ByteArray, plc p l ≤ l.length
  | [] => Nat.le_refl _
  | x :: t => by
    unfold plc
    split
    · have := plc_le p t; simp; omega
    · simp
theorem plc_lt {p : ByteArray} : ∀ {l : List ByteArray} {t : Nat}, t < plc p l → lsB (l.getD t p) p = true
  | [], t, h => by simp [plc] at h
  | x :: r, t, h => by
    unfold plc at h
    by_cases e : lsB x p = true
    · rw [if_pos e] at h
      cases t with
      | zero => simpa using e
      | succ t => simpa using plc_lt (l := r) (t := t) (by omega)
    · rw [if_neg e] at h; omega
theorem plc_ge {p : ByteArray} : ∀ {l : List ByteArray}, Srt l → ∀ {t : Nat}, plc p l ≤ t → lsB (l.getD t p) p = false
  | [], _, t, _ => by simpa using lsB_irr p
  | x :: r, h, t, ht => by
    obtain ⟨h1, h2⟩ := List.pairwise_cons.1 h
    unfold plc at ht
    by_cases e : lsB x p = true
    · rw [if_pos e] at ht
      cases t with
      | zero => omega
      | succ t => simpa using plc_ge h2 (t := t) (by omega)
    · cases t with
      | zero => simpa using e
      | succ t =>
        by_cases hl : t < r.length
        · have hm : r.getD t p ∈ r := by simp [hl]
          rw [show (x :: r).getD (t + 1) p = r.getD t p by simp]
          rw [← Bool.not_eq_true]
          intro c
          exact e (lsB_trans (h1 _ hm) c)
        · rw [show (x :: r).getD (t + 1) p = p by simp [hl]]
          exact lsB_irr p
theorem bs_plc {p : ByteArray} {l : List ByteArray} (h : Srt l) : Lib.bsGo (fun t => Op.bytesLess (l.getD t p).toList p.toList) l.length 0 l.length = plc p l :=
  Lib.bsGo_spec _ (plc p l) (fun t ht => plc_lt ht) (fun t ht => plc_ge h ht) l.length 0 l.length (by omega) (Nat.zero_le _) (plc_le p l)
theorem plc_mem {p : ByteArray} : ∀ {l : List ByteArray}, Srt l → (plc p l < l.length ∧ l.getD (plc p l) p = p ↔ p ∈ l)
  | [], _ => by simp
  | x :: r, h => by
    obtain ⟨h1, h2⟩ := List.pairwise_cons.1 h
    unfold plc
    by_cases e : lsB x p = true
    · rw [if_pos e]
      have hne : x ≠ p := fun c => by rw [c, lsB_irr] at e; cases e
      have ih := plc_mem (p := p) h2
      simp only [List.length_cons, List.mem_cons]
      rw [show (x :: r).getD (plc p r + 1) p = r.getD (plc p r) p by simp]
      constructor
      · rintro ⟨q1, q2⟩; exact .inr (ih.1 ⟨by omega, q2⟩)
      · rintro (q | q)
        · exact absurd q.symm hne
        · have := ih.2 q; exact ⟨by omega, this.2⟩
    · rw [if_neg e]
      simp only [List.length_cons, List.mem_cons]
      rw [show (x :: r).getD 0 p = x by simp]
      constructor
      · rintro ⟨_, q⟩; exact .inl q.symm
      · rintro (q | q)
        · exact ⟨by omega, q.symm⟩
        · exact absurd (h1 p q) e
theorem plc_add {p : ByteArray} : ∀ {l : List ByteArray}, p ∉ l → l.take (plc p l) ++ p :: l.drop (plc p l) = addL p l
  | [], _ => rfl
  | x :: r, h => by
    simp only [List.mem_cons, not_or] at h
    unfold plc addL
    by_cases e : lsB x p = true
    · rw [if_pos e, if_pos e, List.take_succ_cons, List.drop_succ_cons, List.cons_append, plc_add h.2]
    · rw [if_neg e, if_neg e, if_neg (fun c => h.1 c.symm)]; rfl
theorem addL_in {p : ByteArray} : ∀ {l : List ByteArray}, Srt l → p ∈ l → addL p l = l
  | [], _, h => by simp at h
  | x :: r, hs, h => by
    obtain ⟨h1, h2⟩ := List.pairwise_cons.1 hs
    unfold addL
    by_cases e : lsB x p = true
    · rw [if_pos e]
      have hne : x ≠ p := fun c => by rw [c, lsB_irr] at e; cases e
      rcases List.mem_cons.1 h with q | q
      · exact absurd q.symm hne
      · rw [addL_in h2 q]
    · rw [if_neg e]
      rcases List.mem_cons.1 h with q | q
      · rw [if_pos q.symm]
      · exact absurd (h1 p q) e
theorem delL_no {p : ByteArray} {l : List ByteArray} (h : p ∉ l) : delL p l = l := by
  unfold delL
  refine List.filter_eq_self.2 fun x hx => ?_
  have : x ≠ p := fun c => h (c ▸ hx)
  simp [this]
theorem plc_del {p : ByteArray} : ∀ {l : List ByteArray}, Srt l → p ∈ l → l.take (plc p l) ++ l.drop (plc p l + 1) = delL p l
  | [], _, h => by simp at h
  | x :: r, hs, h => by
    obtain ⟨h1, h2⟩ := List.pairwise_cons.1 hs
    unfold plc
    by_cases e : lsB x p = true
    · rw [if_pos e]
      have hne : x ≠ p := fun c => by rw [c, lsB_irr] at e; cases e
      have hm : p ∈ r := by
        rcases List.mem_cons.1 h with q | q
        · exact absurd q.symm hne
        · exact q
      rw [List.take_succ_cons, List.drop_succ_cons, List.cons_append, plc_del h2 hm]
      unfold delL
      rw [List.filter_cons_of_pos (by simp [hne])]
    · rw [if_neg e]
      have hx : x = p := by
        rcases List.mem_cons.1 h with q | q
        · exact q.symm
        · exact absurd (h1 p q) e
      have hn : p ∉ r := fun c => by have := h1 p c; rw [hx, lsB_irr] at this; cases this
      have := delL_no hn
      unfold delL at this ⊢
      rw [List.filter_cons_of_neg (by simp [hx]), this]; rfl
theorem addL_len (p : ByteArray) : ∀ l : List ByteArray, (addL p l).length ≤ l.length + 1
  | [] => by simp [addL]
  | x :: t => by
    unfold addL
    have := addL_len p t
    split
    · simp; omega
    · split <;> simp
theorem delL_len (p : ByteArray) (l : List ByteArray) : (delL p l).length ≤ l.length := List.length_filter_le _ _
/-- p is in l -/
def inL (l : List ByteArray) (p : ByteArray) : Bool := l.any fun x => decide (x = p)
theorem inL_iff {l : List ByteArray} {p : ByteArray} : inL l p = true ↔ p ∈ l := by
  unfold inL
  rw [List.any_eq_true]
  constructor
  · rintro ⟨x, h, e⟩; exact (of_decide_eq_true e) ▸ h
  · intro h; exact ⟨p, h, decide_eq_true rfl⟩
theorem inL_no {l : List ByteArray} {p : ByteArray} : inL l p = false ↔ p ∉ l := by
  rw [← inL_iff]; simp
/-- a needed part is among the failed ones -/
def illB (N : Nat → ByteArray) (nn : Nat) (l : List ByteArray) : Bool := l.any fun p => inS N p nn
/-- what an event makes of the failed parts, and of the mode -/
def nxF (l : List ByteArray) (k p : ByteArray) : List ByteArray :=
  if k.toList = [102, 97, 105, 108] then addL p l else if k.toList = [109, 101, 110, 100] then delL p l else l
def nxM (N : Nat → ByteArray) (nn : Nat) (m : Int) (l : List ByteArray) (k p : ByteArray) : Int :=
  if k.toList = [102, 97, 105, 108] then (if inS N p nn = true ∧ m = 2 then 3 else if inS N p nn = true ∧ m = 3 ∧ inL l p = false then 4 else m)
  else if k.toList = [109, 101, 110, 100] then (if inS N p nn = true ∧ m = 3 ∧ illB N nn (delL p l) = false then 2 else m)
  else if k.toList = [104, 101, 97, 108] ∨ k.toList = [103, 111] then (if illB N nn l = true then m else msV m k)
  else msV m k
/-- behind k events: E tells kinds and parts by one index -/
def runF (E : Nat → ByteArray) : Nat → List ByteArray
  | 0 => []
  | k + 1 => nxF (runF E k) (E (k * 2)) (E (k * 2 + 1))
def runM (N : Nat → ByteArray) (nn : Nat) (E : Nat → ByteArray) : Nat → Int
  | 0 => 0
  | k + 1 => nxM N nn (runM N nn E k) (runF E k) (E (k * 2)) (E (k * 2 + 1))
theorem nxF_srt {l : List ByteArray} {k p : ByteArray} (h : Srt l) : Srt (nxF l k p) := by
  unfold nxF
  split
  · exact addL_srt h
  · split
    · exact delL_srt h
    · exact h
theorem runF_srt (E : Nat → ByteArray) : ∀ k, Srt (runF E k)
  | 0 => List.Pairwise.nil
  | k + 1 => nxF_srt (runF_srt E k)
theorem nxF_len (l : List ByteArray) (k p : ByteArray) : (nxF l k p).length ≤ l.length + 1 := by
  unfold nxF
  have := addL_len p l
  have := delL_len p l
  split
  · omega
  · split <;> omega
theorem runF_len (E : Nat → ByteArray) : ∀ k, (runF E k).length ≤ k
  | 0 => Nat.le_refl _
  | k + 1 => Nat.le_trans (nxF_len _ _ _) (by have := runF_len E k; omega)
end Go.Proofs.Ytoleblhidieheaa
