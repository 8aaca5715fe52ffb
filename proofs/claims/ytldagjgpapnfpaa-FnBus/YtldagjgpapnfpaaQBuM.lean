/- The bus, round by round, as numbers. -/
import Derived.Test.YtldagjgpapnfpaaQBuX
namespace Go.Proofs.Ytldagjgpapnfpaa
open Go.RowKit
/-- the first place below n at which L is -1, n where there is none -/
def fstK (L : Nat → Int) : Nat → Nat
  | 0 => 0
  | n + 1 => if fstK L n < n then fstK L n else (if L n = -1 then n else n + 1)
theorem fstK_le (L : Nat → Int) (n : Nat) : fstK L n ≤ n := by
  induction n with
  | zero => exact Nat.le_refl _
  | succ n ih => unfold fstK; split <;> (try split) <;> omega
theorem fstK_spec (L : Nat → Int) (n : Nat) : (fstK L n < n → L (fstK L n) = -1) ∧ ∀ j, j < fstK L n → L j ≠ -1 := by
  induction n with
  | zero => exact ⟨fun h => absurd h (Nat.not_lt_zero _), fun j hj => absurd hj (Nat.not_lt_zero _)⟩
  | succ n ih =>
    have hle := fstK_le L n
    unfold fstK
    by_cases h1 : fstK L n < n
    · rw [if_pos h1]
      exact ⟨fun _ => ih.1 h1, ih.2⟩
    · have he : fstK L n = n := by omega
      rw [if_neg h1]
      by_cases h2 : L n = -1
      · rw [if_pos h2]
        refine ⟨fun _ => h2, fun j hj => ih.2 j (by omega)⟩
      · rw [if_neg h2]
        refine ⟨fun h => absurd h (Nat.lt_irrefl _), fun j hj => ?_⟩
        by_cases c : j = n
        · rw [c]; exact h2
        · exact ih.2 j (by omega)
theorem Fst.is {L : Nat → Int} {n k : Nat} (h : Fst L n k) : fstK L n = k := by
  have hs := fstK_spec L n
  have hle := fstK_le L n
  have hlt : fstK L n < n := by
    by_cases c : fstK L n < n
    · exact c
    · exact absurd h.2.1 (hs.2 k (by have := h.1; omega))
  exact (show Fst L n (fstK L n) from ⟨hlt, hs.1 hlt, hs.2⟩).uniq h
/-- who is next, where somebody contends -/
def nxK (t : Tks) (LF : Nat → Nat) (l : List Nat) : Nat := l.getD (fstK (lv l.length (ctF t LF l) 11) l.length) 0
theorem NxIs.is {t : Tks} {LF : Nat → Nat} {l : List Nat} {d : Int} (h : NxIs t LF l d) : d = if l = [] then -1 else (nxK t LF l : Int) := by
  rcases h with ⟨h1, rfl⟩ | ⟨h1, K, h2, rfl⟩
  · rw [if_pos h1]
  · rw [if_neg h1]
    unfold nxK gN
    rw [h2.is]
theorem nxK_mem (t : Tks) (LF : Nat → Nat) (l : List Nat) (h : l ≠ []) : nxK t LF l ∈ l := by
  have hn : 0 < l.length := List.length_pos_iff.2 h
  obtain ⟨k, hk⟩ := Fst.some (lv_alive l.length (ctF t LF l) hn 11)
  unfold nxK
  rw [hk.is]
  have := hk.1
  simp [List.getD, List.getElem?_eq_getElem this]
/-- how the bus stands behind some rounds: frames that left, frames sent in the window, errors; all that was sent -/
structure BS where
  LF : Nat → Nat
  SE : Nat → Int
  EC : Nat → Int
  out : List (Int × Int × Int × Bool)
def wndS (W : Int) (r : Nat) (s : BS) : Nat → Int := if (r : Int) % W = 0 then (fun _ => 0) else s.SE
def conS (t : Tks) (n : Nat) (W : Int) (r : Nat) (s : BS) : List Nat := ctL t s.LF (wndS W r s) s.EC n
/-- one round: sp r says that it is spoilt -/
def stpS (t : Tks) (n : Nat) (W : Int) (sp : Nat → Bool) (r : Nat) (s : BS) : BS :=
  if conS t n W r s = [] then { s with SE := wndS W r s }
  else
    { LF := fun j => if j = nxK t s.LF (conS t n W r s) then snL (!(sp r)) (s.LF j) else s.LF j
      SE := fun j => if j = nxK t s.LF (conS t n W r s) then wndS W r s j + 1 else wndS W r s j
      EC := fun j => if j = nxK t s.LF (conS t n W r s) then snE (!(sp r)) (s.EC j) else s.EC j
      out := s.out ++ [((r : Int), (nxK t s.LF (conS t n W r s) : Int), t.I (nxK t s.LF (conS t n W r s)) (s.LF (nxK t s.LF (conS t n W r s))), !(sp r))] }
def runS (t : Tks) (n : Nat) (W : Int) (sp : Nat → Bool) : Nat → BS
  | 0 => { LF := fun _ => 0, SE := fun _ => 0, EC := t.er, out := [] }
  | r + 1 => stpS t n W sp r (runS t n W sp r)
theorem btI_bd (x : Int) : 0 ≤ btI x ∧ btI x ≤ 255 := by unfold btI; split <;> (try split) <;> omega
/-- within its limits at any time -/
structure BsOk (t : Tks) (n r : Nat) (s : BS) : Prop where
  lf : ∀ i, i < n → s.LF i ≤ t.qm i
  se : ∀ i, i < n → 0 ≤ s.SE i ∧ s.SE i ≤ (r : Int)
  ec : ∀ i, i < n → 0 ≤ s.EC i ∧ s.EC i ≤ 255
  ln : s.out.length ≤ r
theorem wnd_bd {t : Tks} {n r : Nat} {s : BS} (h : BsOk t n r s) (W : Int) (i : Nat) (hi : i < n) : 0 ≤ wndS W r s i ∧ wndS W r s i ≤ (r : Int) := by
  unfold wndS
  split
  · simp
  · exact h.se i hi
theorem con_mem {t : Tks} {n r : Nat} {W : Int} {s : BS} {i : Nat} (h : i ∈ conS t n W r s) : i < n ∧ s.LF i < t.qm i := by
  have := ctL_mem t s.LF (wndS W r s) s.EC n i h
  refine ⟨this.1, ?_⟩
  have h2 := this.2
  unfold myB at h2
  simp only [Bool.and_eq_true, decide_eq_true_eq] at h2
  exact h2.2.1
theorem step_ok {t : Tks} {n : Nat} {W : Int} {sp : Nat → Bool} {r : Nat} {s : BS} (h : BsOk t n r s) : BsOk t n (r + 1) (stpS t n W sp r s) := by
  unfold stpS
  by_cases hc : conS t n W r s = []
  · rw [if_pos hc]
    exact ⟨h.lf, fun i hi => by have := wnd_bd h W i hi; constructor; exact this.1; have := this.2; simp only; omega, h.ec, Nat.le_succ_of_le h.ln⟩
  · rw [if_neg hc]
    have hm := con_mem (nxK_mem t s.LF (conS t n W r s) hc)
    refine ⟨fun i hi => ?_, fun i hi => ?_, fun i hi => ?_, ?_⟩
    · simp only
      split
      · rename_i e
        rw [e]
        unfold snL
        split
        · exact hm.2
        · exact Nat.le_of_lt hm.2
      · exact h.lf i hi
    · have := wnd_bd h W i hi
      simp only
      split <;> constructor <;> omega
    · simp only
      split
      · unfold snE
        split <;> exact btI_bd _
      · exact h.ec i hi
    · have := h.ln
      simp
      omega
theorem run_ok (t : Tks) (n : Nat) (W : Int) (sp : Nat → Bool) (he : ∀ i, i < n → 0 ≤ t.er i ∧ t.er i ≤ 255) (r : Nat) : BsOk t n r (runS t n W sp r) := by
  induction r with
  | zero => exact ⟨fun i _ => Nat.zero_le _, fun i _ => ⟨Int.le_refl _, Int.le_refl _⟩, he, Nat.le_refl _⟩
  | succ r ih => exact step_ok ih
end Go.Proofs.Ytldagjgpapnfpaa
