/- Trees as numbers: g is the nodes' flat list (Kind, Kids, Act). -/
import Derived.Test.YtjefakfongehdabRRInCore
namespace Go.Proofs.YtjefakfongehdabRR
/-- how many nodes are still to come behind the first k -/
def opn (g : Nat → Int) : Nat → Int
  | 0 => 1
  | k + 1 => opn g k + (g (k * 3 + 1) - 1)
/-- a node by itself -/
def okN (X Y Z : Int) : Bool :=
  if X = 1 ∨ X = 2 ∨ X = 4 then decide (1 ≤ Y) && decide (Z = 0) else if X = 3 then decide (Y = 1) && decide (Z = 0) else if X = 5 then decide (Y = 0) && (decide (0 ≤ Z) && decide (Z ≤ 9)) else false
def sNd (m : Nat) (g : Nat → Int) (k : Nat) : Bool := decide (opn g k ≠ 0) && (decide (0 ≤ g (k * 3 + 1)) && decide (g (k * 3 + 1) ≤ (m : Int))) && okN (g (k * 3)) (g (k * 3 + 1)) (g (k * 3 + 2))
/-- what GoodTree tells -/
def gtrB (m : Nat) (g : Nat → Int) : Bool := decide (1 ≤ m) && decide (m ≤ 24) && ((List.range m).all (sNd m g) && decide (opn g m = 0))
theorem gtrB_parts {m : Nat} {g : Nat → Int} (h : gtrB m g = true) : 1 ≤ m ∧ m ≤ 24 ∧ (∀ k, k < m → sNd m g k = true) ∧ opn g m = 0 := by
  unfold gtrB at h
  simp only [Bool.and_eq_true, decide_eq_true_eq, List.all_eq_true, List.mem_range] at h
  exact ⟨h.1.1, h.1.2, h.2.1, h.2.2⟩
theorem gtrB_node {m : Nat} {g : Nat → Int} {k : Nat} (hk : k < m) (h : sNd m g k = false) : gtrB m g = false := by
  cases e : gtrB m g with
  | false => rfl
  | true => rw [(gtrB_parts e).2.2.1 k hk] at h; cases h
theorem gtrB_end {m : Nat} {g : Nat → Int} (h : ¬ opn g m = 0) : gtrB m g = false := by
  cases e : gtrB m g with
  | false => rfl
  | true => exact absurd (gtrB_parts e).2.2.2 h
theorem gtrB_sizes {m : Nat} {g : Nat → Int} (h : m < 1 ∨ 24 < m) : gtrB m g = false := by
  cases e : gtrB m g with
  | false => rfl
  | true => have := gtrB_parts e; omega
theorem gtrB_mk {m : Nat} {g : Nat → Int} (h1 : 1 ≤ m) (h2 : m ≤ 24) (h3 : ∀ k, k < m → sNd m g k = true) (h4 : opn g m = 0) : gtrB m g = true := by
  unfold gtrB
  simp only [Bool.and_eq_true, decide_eq_true_eq, List.all_eq_true, List.mem_range]
  exact ⟨⟨h1, h2⟩, h3, h4⟩
theorem sNd_parts {m : Nat} {g : Nat → Int} {k : Nat} (h : sNd m g k = true) : opn g k ≠ 0 ∧ 0 ≤ g (k * 3 + 1) ∧ g (k * 3 + 1) ≤ (m : Int) ∧ okN (g (k * 3)) (g (k * 3 + 1)) (g (k * 3 + 2)) = true := by
  unfold sNd at h
  simp only [Bool.and_eq_true, decide_eq_true_eq] at h
  exact ⟨h.1.1, h.1.2.1, h.1.2.2, h.2⟩
theorem sNd_mk {m : Nat} {g : Nat → Int} {k : Nat} (h1 : opn g k ≠ 0) (h2 : 0 ≤ g (k * 3 + 1)) (h3 : g (k * 3 + 1) ≤ (m : Int)) (h4 : okN (g (k * 3)) (g (k * 3 + 1)) (g (k * 3 + 2)) = true) : sNd m g k = true := by
  unfold sNd
  simp only [Bool.and_eq_true, decide_eq_true_eq]
  exact ⟨⟨h1, h2, h3⟩, h4⟩
theorem opn_ge {g : Nat → Int} : ∀ (n : Nat), (∀ j, j < n → 0 ≤ g (j * 3 + 1)) → 1 - (n : Int) ≤ opn g n ∧ ∀ k, k < n → g (k * 3 + 1) + 1 - (n : Int) ≤ opn g n := by
  intro n
  induction n with
  | zero => intro _; exact ⟨by simp [opn], fun k hk => by omega⟩
  | succ n ih =>
    intro h
    have hi := ih fun j hj => h j (by omega)
    have hn := h n (by omega)
    have e : opn g (n + 1) = opn g n + (g (n * 3 + 1) - 1) := rfl
    rw [e]
    refine ⟨by omega, fun k hk => ?_⟩
    by_cases hkn : k = n
    · subst hkn; omega
    · have := hi.2 k (by omega); omega
theorem opn_le {g : Nat → Int} : ∀ (n : Nat), (∀ j, j < n → g (j * 3 + 1) ≤ 24) → opn g n ≤ 1 + 24 * (n : Int) := by
  intro n
  induction n with
  | zero => intro _; simp [opn]
  | succ n ih =>
    intro h
    have hi := ih fun j hj => h j (by omega)
    have hn := h n (by omega)
    have e : opn g (n + 1) = opn g n + (g (n * 3 + 1) - 1) := rfl
    rw [e]
    omega
/-- a node as the program looks at it -/
def iNd (X Y Z : Int) : Bool :=
  if X = 5 then decide (Y = 0) && (decide (0 ≤ Z) && decide (Z < 10)) else if X = 3 then decide (Y = 1) && decide (Z = 0) else if X = 1 ∨ X = 2 ∨ X = 4 then decide (0 < Y) && decide (Y < 24) && decide (Z = 0) else false
theorem iNd_ok {X Y Z : Int} (h : iNd X Y Z = true) : okN X Y Z = true ∧ 0 ≤ Y ∧ Y < 24 := by
  unfold iNd at h
  by_cases h5 : X = 5
  · subst h5
    simp at h
    unfold okN
    simp
    omega
  rw [if_neg h5] at h
  by_cases h3 : X = 3
  · subst h3
    simp at h
    unfold okN
    simp
    omega
  rw [if_neg h3] at h
  by_cases h1 : X = 1 ∨ X = 2 ∨ X = 4
  · rw [if_pos h1] at h
    simp at h
    unfold okN
    rw [if_pos h1]
    simp
    omega
  · rw [if_neg h1] at h; cases h
theorem okN_i {X Y Z : Int} (h : okN X Y Z = true) (hY : Y < 24) : iNd X Y Z = true := by
  unfold okN at h
  unfold iNd
  by_cases h1 : X = 1 ∨ X = 2 ∨ X = 4
  · rw [if_pos h1] at h
    simp at h
    rw [if_neg (by omega), if_neg (by omega), if_pos h1]
    simp
    omega
  rw [if_neg h1] at h
  by_cases h3 : X = 3
  · subst h3
    simp at h
    simp
    omega
  rw [if_neg h3] at h
  by_cases h5 : X = 5
  · subst h5
    simp at h
    simp
    omega
  · rw [if_neg h5] at h; cases h
theorem gtrB_inode {m : Nat} {g : Nat → Int} {k : Nat} (hk : k < m) (h : iNd (g (k * 3)) (g (k * 3 + 1)) (g (k * 3 + 2)) = false) : gtrB m g = false := by
  cases e : gtrB m g with
  | false => rfl
  | true =>
    obtain ⟨h1, h2, h3, h4⟩ := gtrB_parts e
    have hg := (opn_ge m fun j hj => (sNd_parts (h3 j hj)).2.1).2 k hk
    rw [okN_i (sNd_parts (h3 k hk)).2.2.2 (by omega)] at h
    cases h
theorem gtrB_iend {m : Nat} {g : Nat → Int} (h2 : m ≤ 24) (h3 : ∀ k, k < m → opn g k ≠ 0 ∧ iNd (g (k * 3)) (g (k * 3 + 1)) (g (k * 3 + 2)) = true) (h4 : opn g m = 0) : gtrB m g = true := by
  have hge := (opn_ge m fun j hj => (iNd_ok (h3 j hj).2).2.1).2
  refine gtrB_mk ?_ h2 (fun k hk => ?_) h4
  · cases m with
    | zero => simp [opn] at h4
    | succ m => omega
  · have h5 := iNd_ok (h3 k hk).2
    have := hge k hk
    exact sNd_mk (h3 k hk).1 h5.2.1 (by omega) h5.1
end Go.Proofs.YtjefakfongehdabRR
