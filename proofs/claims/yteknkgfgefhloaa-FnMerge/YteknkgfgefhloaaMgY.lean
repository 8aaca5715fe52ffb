/- The program's merge of two lists that are empty; every argument. -/
import Derived.Test.YteknkgfgefhloaaMgT
namespace Go.Proofs.Yteknkgfgefhloaa
open Go.RowKit
theorem sort0 (p : Option Addr) (c : Nat) (w : World) :
    Calls Try.prog 40 #[.slice p 0 c, .func (.func 41) #[] #[]] w fun e w' => e = .returned (.tuple #[]) ∧ w' = w :=
  AnyF.slices_SortFunc_none (P := Try.prog) (ρ := Try.sortSt_ren) { Try.sortSt with } p c (.func (.func 41) #[] #[]) w
set_option maxHeartbeats 400000 in
theorem comp0 (p : Option Addr) (c : Nat) (w : World) :
    Calls Try.prog 42 #[.slice p 0 c] w fun e w' => e = .returned (.slice p 0 c) ∧ w' = w := by
  go_enter Try.func42, Try.ntmps42
  go_wp2
  go_ret
  exact ⟨rfl, rfl⟩
set_option maxRecDepth 20000 in
set_option maxHeartbeats 4000000 in
theorem iMerge0 (v1 v2 : Option Addr) (c1 c2 : Nat) (f1 f2 : Nat → Int) (w : World)
    (k1 : (v1 = none ∧ 0 = 0 ∧ c1 = 0) ∨ ∃ b o, v1 = some ⟨b, o, none⟩) (k2 : (v2 = none ∧ 0 = 0 ∧ c2 = 0) ∨ ∃ b o, v2 = some ⟨b, o, none⟩) :
    Calls Try.prog 9 #[.slice v1 0 c1, .slice v2 0 c2] w fun e w' => AnsM w w' e (okM f1 0 f2 0) ∧ Below w.heap.size w w' := by
  have il0 : ∀ (w : World) (v : Option Addr) (f : Nat → Int), IL w v (0 * 3) f := fun w v f h => absurd h (by simp)
  have e : okM f1 0 f2 0 = some [] := by
    unfold okM
    have : ((decide (0 ≤ 40) && risK f1 0) && (decide (0 ≤ 40) && risK f2 0)) = true := by simp [risK]
    rw [if_pos this]
    simp [wl, mg]
  rw [e]
  have kg1 := fun w => iStamped v1 0 c1 f1 w (by omega) (il0 _ _ _)
  have kg2 := fun w => iStamped v2 0 c2 f2 w (by omega) (il0 _ _ _)
  have ea : (decide (0 ≤ 40) && risK f1 0) = true := by simp [risK]
  have eb : (decide (0 ≤ 40) && risK f2 0) = true := by simp [risK]
  rw [ea] at kg1
  rw [eb] at kg2
  have kc := fun (w2 : World) => iConcatStamped w2.heap.size v1 v2 0 c1 0 c2 f1 f2 (w2.alloc (.cells #[.slice v1 0 c1, .slice v2 0 c2] 23)) (by omega) (by omega) (by simp) (bx_new (w := w2) (b := w2.heap.size) [.slice v1 0 c1, .slice v2 0 c2] 23 rfl).c0 (bx_new (w := w2) (b := w2.heap.size) [.slice v1 0 c1, .slice v2 0 c2] 23 rfl).c1 k1 k2 (il0 _ _ _) (il0 _ _ _)
  clear e ea eb k1 k2
  go_enter Try.func9, Try.ntmps9
  go_wp2_with fail
  refine (kg1 _).mono ?_
  rintro e w1 ⟨rfl, hb1⟩
  go_wp2_with fail
  refine (kg2 _).mono ?_
  rintro e w2 ⟨rfl, hb2⟩
  have hB2 := stepA hb1 hb2
  have hB2' := hB2.alloc hB2.size (.cells #[.slice v1 0 c1, .slice v2 0 c2] 23)
  clear kg1 kg2 hb1 hb2
  go_wp2_with fail
  refine (kc _).mono ?_
  rintro e w3 ⟨⟨v, rfl, hO⟩, hb3⟩
  have hB3 := stepA hB2' hb3
  obtain ⟨sa, sc, rfl⟩ := hO.shape
  clear kc hO hb3 hB2 hB2'
  go_wp2_with fail
  refine (sort0 sa sc w3).mono ?_
  rintro e w4 ⟨rfl, hw4⟩
  have hs := hw4.symm
  clear hw4
  subst hs
  go_wp2_with fail
  refine (comp0 sa sc w3).mono ?_
  rintro e w5 ⟨rfl, hw5⟩
  have hs := hw5.symm
  clear hw5
  subst hs
  go_wp2_with fail
  refine (iRising sa 0 sc f1 w3 (by omega) (il0 _ _ _)).mono ?_
  rintro e w6 ⟨rfl, hb6⟩
  have er : risK f1 0 = true := rfl
  rw [er]
  have hB6 := stepA hB3 hb6
  clear hB3 hb6
  go_wp2
  go_ret2
  exact ⟨⟨sa, sc, rfl, lq_none _ _ _ _ _⟩, hB6⟩
theorem iMergeA (v1 v2 : Option Addr) (n1 c1 n2 c2 : Nat) (f1 f2 : Nat → Int) (w : World) (h1 : n1 ≤ 1048576) (h2 : n2 ≤ 1048576)
    (k1 : (v1 = none ∧ n1 = 0 ∧ c1 = 0) ∨ ∃ b o, v1 = some ⟨b, o, none⟩) (k2 : (v2 = none ∧ n2 = 0 ∧ c2 = 0) ∨ ∃ b o, v2 = some ⟨b, o, none⟩) (s1 : IL w v1 (n1 * 3) f1) (s2 : IL w v2 (n2 * 3) f2) :
    Calls Try.prog 9 #[.slice v1 n1 c1, .slice v2 n2 c2] w fun e w' => AnsM w w' e (okM f1 n1 f2 n2) ∧ Below w.heap.size w w' := by
  by_cases h : 0 < n1 + n2
  · exact iMerge v1 v2 n1 c1 n2 c2 f1 f2 w h1 h2 k1 k2 s1 s2 h
  · obtain rfl : n1 = 0 := by omega
    obtain rfl : n2 = 0 := by omega
    exact iMerge0 v1 v2 c1 c2 f1 f2 w k1 k2
/-- the answer's parts -/
def omN (R : Option (List Sw)) : Nat := (R.getD []).length
def omF (R : Option (List Sw)) : Nat → Int := flS (R.getD [])
theorem ansM_lq {w w' : World} {e : Ending} {R : Option (List Sw)} (h : AnsM w w' e R) : ∃ a c, e = .returned (.tuple #[.slice a (omN R) c, .bool R.isSome]) ∧ LQ w' w.heap.size w'.heap.size a (omN R * 3) (omF R) := by
  cases R with
  | none => exact ⟨none, 0, h, lq_none _ _ _ _ _⟩
  | some z => obtain ⟨a, c, h1, h2⟩ := h; exact ⟨a, c, h1, h2⟩
theorem mg_len : ∀ (a b : List Sw) (m : List Sw), mg a b = some m → m.length ≤ a.length + b.length := by
  intro a b
  induction a, b using mg.induct with
  | case1 b => intro m h; rw [mg] at h; cases h; simp
  | case2 x a => intro m h; rw [mg] at h; cases h; simp
  | case3 x a y b h1 ih =>
    intro m h
    rw [mg, if_pos h1, Option.map_eq_some_iff] at h
    obtain ⟨m', hm, rfl⟩ := h
    have := ih m' hm
    simp at *; omega
  | case4 x a y b h1 h2 ih =>
    intro m h
    rw [mg, if_neg h1, if_pos h2, Option.map_eq_some_iff] at h
    obtain ⟨m', hm, rfl⟩ := h
    have := ih m' hm
    simp at *; omega
  | case5 x a y b h1 h2 h3 ih =>
    intro m h
    rw [mg, if_neg h1, if_neg h2, if_pos h3, Option.map_eq_some_iff] at h
    obtain ⟨m', hm, rfl⟩ := h
    have := ih m' hm
    simp at *; omega
  | case6 x a y b h1 h2 h3 => intro m h; rw [mg, if_neg h1, if_neg h2, if_neg h3] at h; cases h
theorem omN_le (f1 : Nat → Int) (n1 : Nat) (f2 : Nat → Int) (n2 : Nat) : omN (okM f1 n1 f2 n2) ≤ 80 := by
  unfold omN
  cases e : okM f1 n1 f2 n2 with
  | none => simp
  | some z =>
    unfold okM at e
    split at e
    · rename_i h
      simp only [Bool.and_eq_true, decide_eq_true_eq] at h
      have := mg_len _ _ _ e
      rw [wl_len, wl_len] at this
      simp; omega
    · cases e
end Go.Proofs.Yteknkgfgefhloaa
