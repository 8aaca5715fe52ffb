/- Words by their places, and as a list. -/
import Derived.Test.YteknkgfgefhloaaMgQ
import Derived.Test.YteknkgfgefhloaaMgR
namespace Go.Proofs.Yteknkgfgefhloaa
open Go.RowKit
/-- the first n words -/
def wl (F : Nat → Int) (n : Nat) : List Sw := (List.range n).map (swF F)
theorem wl_len (F : Nat → Int) (n : Nat) : (wl F n).length = n := by simp [wl]
theorem wl_succ (F : Nat → Int) (n : Nat) : wl F (n + 1) = wl F n ++ [swF F n] := by unfold wl; rw [List.range_succ, List.map_append]; rfl
theorem wl_fl {F : Nat → Int} {n t : Nat} (h : t < n * 3) : flS (wl F n) t = F t := (mixS_lo (by rw [wl_len]; exact h)).symm.trans (mixS_all (k := n) (wl F n) rfl)
theorem ris_snoc : ∀ (l : List Sw) (x : Sw), Ris (l ++ [x]) ↔ Ris l ∧ ∀ y ∈ l, kLt y x
  | [], x => by simp [Ris]
  | z :: l, x => by
    have ih := ris_snoc l x
    constructor
    · rintro ⟨h1, h2⟩
      obtain ⟨h3, h4⟩ := ih.1 h2
      refine ⟨⟨fun y hy => h1 y (List.mem_append_left _ hy), h3⟩, fun y hy => ?_⟩
      rcases List.mem_cons.1 hy with rfl | hy
      · exact h1 x (List.mem_append_right _ (List.mem_singleton.2 rfl))
      · exact h4 y hy
    · rintro ⟨⟨h1, h2⟩, h3⟩
      refine ⟨fun y hy => ?_, ih.2 ⟨h2, fun y hy => h3 y (List.mem_cons_of_mem _ hy)⟩⟩
      rcases List.mem_append.1 hy with hy | hy
      · exact h1 y hy
      · obtain rfl := List.mem_singleton.1 hy; exact h3 z (List.mem_cons_self)
theorem risK_ris (F : Nat → Int) : ∀ n, risK F n = true ↔ Ris (wl F n)
  | 0 => by simp [risK, wl, Ris]
  | 1 => by simp [risK, wl, Ris]
  | n + 2 => by
    rw [risK, Bool.and_eq_true, risK_ris F (n + 1), wl_succ F (n + 1), ris_snoc]
    constructor
    · rintro ⟨h1, h2⟩
      have h2' : kLt (swF F n) (swF F (n + 1)) := of_decide_eq_true h2
      refine ⟨h1, fun y hy => ?_⟩
      rw [wl_succ] at h1 hy
      rcases List.mem_append.1 hy with hy | hy
      · exact kLt_trans (((ris_snoc _ _).1 h1).2 y hy) h2'
      · obtain rfl := List.mem_singleton.1 hy; exact h2'
    · rintro ⟨h1, h2⟩
      exact ⟨h1, decide_eq_true (h2 _ (by rw [wl_succ]; exact List.mem_append_right _ (List.mem_singleton.2 rfl)))⟩
theorem wl_app (f g : Nat → Int) (n : Nat) : ∀ m, wl (apF f (n * 3) g) (n + m) = wl f n ++ wl g m
  | 0 => by
    simp only [Nat.add_zero]
    unfold wl
    simp only [List.range_zero, List.map_nil, List.append_nil]
    apply List.map_congr_left
    intro i hi
    have := List.mem_range.1 hi
    unfold swF apF
    rw [if_pos (by omega), if_pos (by omega), if_pos (by omega)]
  | m + 1 => by
    rw [← Nat.add_assoc, wl_succ, wl_app f g n m, wl_succ, List.append_assoc]
    congr 2
    unfold swF apF
    rw [if_neg (by omega), if_neg (by omega), if_neg (by omega)]
    rw [show (n + m) * 3 - n * 3 = m * 3 by omega, show (n + m) * 3 + 1 - n * 3 = m * 3 + 1 by omega, show (n + m) * 3 + 2 - n * 3 = m * 3 + 2 by omega]
/-- what two lists make, sorted and doubles left out: the merge, or it does not rise -/
theorem merged {f g : Nat → Int} {n m : Nat} {z : List Sw} (h1 : risK f n = true) (h2 : risK g m = true) (hp : z.Perm (wl f n ++ wl g m)) (hw : Wk z) :
    (mg (wl f n) (wl g m) = none ∧ ¬ Ris (cpt z)) ∨ (mg (wl f n) (wl g m) = some (cpt z) ∧ Ris (cpt z)) :=
  mg_cpt ((risK_ris f n).1 h1) ((risK_ris g m).1 h2) (fun x => by rw [hp.mem_iff]; exact List.mem_append) hw
/-- a list's words by their places are the list -/
theorem wl_flS (z : List Sw) : wl (flS z) z.length = z := by
  unfold wl
  apply List.ext_getElem
  · simp
  · intro i h1 h2
    simp [sw_fl, List.getD, h2]
theorem cp_fl (z : List Sw) : cpW (swF (flS z)) z.length = cpt z := by
  rw [cpW_cpt]
  congr 1
  exact wl_flS z
theorem risK_fl (z : List Sw) : risK (flS z) z.length = true ↔ Ris z := by
  rw [risK_ris, wl_flS]
end Go.Proofs.Yteknkgfgefhloaa
