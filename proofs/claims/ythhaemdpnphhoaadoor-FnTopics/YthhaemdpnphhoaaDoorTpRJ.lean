/- ResolveTopic, as the program tells it (tools/gen_tpr.py). -/
import Derived.Test.YthhaemdpnphhoaaDoorTpRI
namespace Go.Proofs.YthhaemdpnphhoaaDoor
open Go.RowKit
theorem iClone (s : ByteArray) (w : World) (hs : s.size ≤ 1048576) : Calls Tryd.prog 19 #[.string s] w fun e w' => e = .returned (.string s) ∧ Below w.heap.size w w' := by
  have h := fun w => Tryd.stringslite_Clone s w (by omega)
  go_enter Tryd.func19, Tryd.ntmps19
  go_wp2_with fail
  refine (h _).mono ?_
  rintro e w1 ⟨rfl, hb⟩
  go_wp2
  go_ret
  exact ⟨rfl, hb⟩
set_option maxRecDepth 20000 in
set_option maxHeartbeats 2000000 in
theorem iRes_no (a b : ByteArray) (w : World) (hM : Mx w) (ha : a.size ≤ 1048576) (h : rsB a b = false) :
    Calls Tryd.prog 8 #[.string a, .string b] w fun e w' => e = .returned (.string (rsT a b)) ∧ Below w.heap.size w w' := by
  have e : rsT a b = ⟨#[]⟩ := by unfold rsT; rw [h]; rfl
  rw [e]
  have hT := iTopic a w hM ha
  unfold rsB at h
  cases e1 : a.toList.isEmpty with
  | true =>
    have hb : 60 < b.size := by
      rcases Nat.lt_or_ge 60 b.size with q | q
      · exact q
      · exfalso; revert h; rw [e1, decide_eq_true q]; simp
    have j : (60 : Int) < (b.size : Int) := by omega
    clear h e hT
    go_enter Tryd.func8, Tryd.ntmps8
    go_wp2
    go_ret
    exact ⟨rfl, Below.refl _ _⟩
  | false =>
    cases e2 : gtB a with
    | false =>
      rw [e2] at hT
      clear h e
      go_enter Tryd.func8, Tryd.ntmps8
      go_wp2_with fail
      refine hT.mono ?_
      rintro e w1 ⟨rfl, hb1⟩
      go_wp2
      go_ret
      exact ⟨rfl, hb1⟩
    | true =>
      have hb : 60 < b.size := by
        rcases Nat.lt_or_ge 60 b.size with q | q
        · exact q
        · exfalso; revert h; rw [e1, e2, decide_eq_true q]; simp
      have j : (60 : Int) < (b.size : Int) := by omega
      rw [e2] at hT
      clear h e
      go_enter Tryd.func8, Tryd.ntmps8
      go_wp2_with fail
      refine hT.mono ?_
      rintro e w1 ⟨rfl, hb1⟩
      go_wp2
      go_ret
      exact ⟨rfl, hb1⟩
set_option maxRecDepth 20000 in
set_option maxHeartbeats 2000000 in
theorem iResolve (a b : ByteArray) (w : World) (hM : Mx w) (ha : a.size ≤ 1048576) :
    Calls Tryd.prog 8 #[.string a, .string b] w fun e w' => e = .returned (.string (rsT a b)) ∧ Below w.heap.size w w' := by
  cases h : rsB a b with
  | false => exact iRes_no a b w hM ha h
  | true =>
    obtain ⟨hz1, hz2⟩ := rs_size h
    have hT := iTopic a w hM ha
    have hJ := fun w => iJoinT a b w hz1 hz2
    have hjs := jn_size hz1 hz2
    have hG := fun w hM => iTopic (jnT a b) w hM (by omega)
    have hC := fun w => iClone (jnT a b) w (by omega)
    have hR : rsT a b = if gtB (jnT a b) then jnT a b else ⟨#[]⟩ := by unfold rsT; rw [h]; rfl
    rw [hR]
    have j : ¬ (60 : Int) < (b.size : Int) := by omega
    generalize jnT a b = J at *
    unfold rsB at h
    clear hR
    cases eg : gtB J
    case false =>
      rw [eg] at hG
      simp only [Bool.false_eq_true, if_false]
      cases e1 : a.toList.isEmpty with
      | true =>
        clear hT
        go_enter Tryd.func8, Tryd.ntmps8
        go_wp2_with fail
        refine (hJ _).mono ?_
        rintro e w3 ⟨rfl, hw⟩
        have hw' := hw.symm
        clear hw
        subst hw'
        go_wp2_with fail
        refine (hG _ hM).mono ?_
        rintro e w4 ⟨rfl, hb4⟩
        go_wp2
        go_ret
        exact ⟨rfl, hb4⟩
      | false =>
        have e2 : gtB a = true := by rw [e1] at h; simp at h; exact h.1
        rw [e2] at hT
        clear h
        go_enter Tryd.func8, Tryd.ntmps8
        go_wp2_with fail
        refine hT.mono ?_
        rintro e w1 ⟨rfl, hb1⟩
        go_wp2_with fail
        refine (hJ _).mono ?_
        rintro e w3 ⟨rfl, hw⟩
        have hw' := hw.symm
        clear hw
        subst hw'
        go_wp2_with fail
        refine (hG _ (hM.on hb1)).mono ?_
        rintro e w4 ⟨rfl, hb4⟩
        go_wp2
        go_ret
        exact ⟨rfl, stepA hb1 hb4⟩
    case true =>
      rw [eg] at hG
      simp only [if_true]
      cases e1 : a.toList.isEmpty with
      | true =>
        clear hT
        go_enter Tryd.func8, Tryd.ntmps8
        go_wp2_with fail
        refine (hJ _).mono ?_
        rintro e w3 ⟨rfl, hw⟩
        have hw' := hw.symm
        clear hw
        subst hw'
        go_wp2_with fail
        refine (hG _ hM).mono ?_
        rintro e w4 ⟨rfl, hb4⟩
        go_wp2_with fail
        refine (hC _).mono ?_
        rintro e w5 ⟨rfl, hb5⟩
        go_wp2
        go_ret
        exact ⟨rfl, stepA hb4 hb5⟩
      | false =>
        have e2 : gtB a = true := by rw [e1] at h; simp at h; exact h.1
        rw [e2] at hT
        clear h
        go_enter Tryd.func8, Tryd.ntmps8
        go_wp2_with fail
        refine hT.mono ?_
        rintro e w1 ⟨rfl, hb1⟩
        go_wp2_with fail
        refine (hJ _).mono ?_
        rintro e w3 ⟨rfl, hw⟩
        have hw' := hw.symm
        clear hw
        subst hw'
        go_wp2_with fail
        refine (hG _ (hM.on hb1)).mono ?_
        rintro e w4 ⟨rfl, hb4⟩
        go_wp2_with fail
        refine (hC _).mono ?_
        rintro e w5 ⟨rfl, hb5⟩
        go_wp2
        go_ret
        exact ⟨rfl, stepA (stepA hb1 hb4) hb5⟩
end Go.Proofs.YthhaemdpnphhoaaDoor
