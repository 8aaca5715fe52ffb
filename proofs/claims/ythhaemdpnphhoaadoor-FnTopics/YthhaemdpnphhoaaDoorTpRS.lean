/- ResolveTopic, as the model tells it (tools/gen_tpr.py). -/
import Derived.Test.YthhaemdpnphhoaaDoorTpR
import Derived.Test.YthhaemdpnphhoaaDoorTpS
namespace Go.Proofs.YthhaemdpnphhoaaDoor
open Go.RowKit
set_option maxRecDepth 20000 in
set_option maxHeartbeats 2000000 in
theorem sRes_no (a b : ByteArray) (w : World) (ha : a.size ≤ 1048576) (h : rsB a b = false) :
    Calls Tryd.prog 9 #[.string a, .string b] w fun e w' => e = .returned (.string (rsT a b)) ∧ Below w.heap.size w w' := by
  have e : rsT a b = ⟨#[]⟩ := by unfold rsT; rw [h]; rfl
  rw [e]
  have hT := sTopic a w ha
  unfold rsB at h
  cases e1 : a.toList.isEmpty with
  | true =>
    have hb : 60 < b.size := by
      rcases Nat.lt_or_ge 60 b.size with q | q
      · exact q
      · exfalso; revert h; rw [e1, decide_eq_true q]; simp
    have j : (60 : Int) < (b.size : Int) := by omega
    clear h e hT
    go_enter Tryd.func9, Tryd.ntmps9
    go_wp2
    go_ret
    exact ⟨rfl, Below.refl _ _⟩
  | false =>
    cases e2 : gtB a with
    | false =>
      rw [e2] at hT
      clear h e
      go_enter Tryd.func9, Tryd.ntmps9
      go_wp2_with fail
      refine hT.mono ?_
      rintro e w1 ⟨rfl, hb1⟩
      go_wp2
      go_ret
      exact ⟨rfl, hb1⟩
    | true =>
      have hb : 60 < b.size := by
        rcases Nat.lt_or_ge 60 b.size with q | q
        · exact q
        · exfalso; revert h; rw [e1, e2, decide_eq_true q]; simp
      have j : (60 : Int) < (b.size : Int) := by omega
      rw [e2] at hT
      clear h e
      go_enter Tryd.func9, Tryd.ntmps9
      go_wp2_with fail
      refine hT.mono ?_
      rintro e w1 ⟨rfl, hb1⟩
      go_wp2
      go_ret
      exact ⟨rfl, hb1⟩
set_option maxRecDepth 20000 in
set_option maxHeartbeats 8000000 in
theorem sRes_p1 (a b : ByteArray) (w : World) (ha : a.size ≤ 1048576) (h : rsB a b = true) (hp : p1B b = true) :
    Calls Tryd.prog 9 #[.string a, .string b] w fun e w' => e = .returned (.string (rsT a b)) ∧ Below w.heap.size w w' := by
  obtain ⟨hz1, hz2⟩ := rs_size h
  have hT := sTopic a w ha
  have hjs := jn_size hz1 hz2
  have hR : rsT a b = if gtB (jnT a b) then jnT a b else ⟨#[]⟩ := by unfold rsT; rw [h]; rfl
  rw [hR]
  have j : ¬ (60 : Int) < (b.size : Int) := by omega
  have hix := fun i hi w => ix_bt (P := Tryd.prog) Tryd.underlying9 a i hi w
  unfold rsB at h
  have HE : Hid (a.toList.isEmpty = false → gtB a = true) := fun e1 => by rw [e1] at h; simp at h; exact h.1
  clear hR
  have hj : jnT a b = b := by unfold jnT; rw [hp]; rfl
  unfold p1B at hp
  have hp' := of_decide_eq_true hp
  rw [hj]
  have hG : ∀ w, Calls Tryd.prog 14 #[.string (jnT a b)] w fun e w' => e = .returned (.bool (gtB (jnT a b))) ∧ Below w.heap.size w w' := fun w => sTopic (jnT a b) w (by omega)
  rw [hj] at hG
  cases eg : gtB (b)
  case false =>
    rw [eg] at hG
    simp only [Bool.false_eq_true, if_false]
    clear eg hj hjs h
    by_cases hs : b.size = 1
    case pos =>
      skip
      have j2 : ¬ (2 : Int) ≤ (b.size : Int) := by omega
      have x0 : ∀ w, (Instr.index 9 (.string b) (.int .i64 0)).run Tryd.prog w = .ok (.int .u8 (bt b 0)) w := fun w => ix_bt (P := Tryd.prog) Tryd.underlying9 b 0 (by omega) w
      rw [hp'.2] at x0
      have j3 : ((b.size : Int) == 0) = false := beq_eq_false_iff_ne.2 (by omega)
      cases e1 : a.toList.isEmpty with
      | true =>
        clear hT
        go_enter Tryd.func9, Tryd.ntmps9
        go_wp2_with fail
        refine (hG _).mono ?_
        rintro e w4 ⟨rfl, hb4⟩
        go_wp2
        go_ret
        exact ⟨rfl, hb4⟩
      | false =>
        have e2 : gtB a = true := HE.out e1
        rw [e2] at hT
        clear HE
        go_enter Tryd.func9, Tryd.ntmps9
        go_wp2_with fail
        refine hT.mono ?_
        rintro e w1 ⟨rfl, hb1⟩
        go_wp2_with fail
        refine (hG _).mono ?_
        rintro e w4 ⟨rfl, hb4⟩
        go_wp2
        go_ret
        exact ⟨rfl, stepA hb1 hb4⟩
    have hs : 2 ≤ b.size := by omega
    have j2 : (2 : Int) ≤ (b.size : Int) := by omega
    have x0 : ∀ w, (Instr.index 9 (.string b) (.int .i64 0)).run Tryd.prog w = .ok (.int .u8 (bt b 0)) w := fun w => ix_bt (P := Tryd.prog) Tryd.underlying9 b 0 (by omega) w
    rw [hp'.2] at x0
    have j3 : ((b.size : Int) == 0) = false := beq_eq_false_iff_ne.2 (by omega)
    cases e1 : a.toList.isEmpty with
    | true =>
      clear hT
      go_enter Tryd.func9, Tryd.ntmps9
      go_wp2_with fail
      refine (hG _).mono ?_
      rintro e w4 ⟨rfl, hb4⟩
      go_wp2
      go_ret
      exact ⟨rfl, hb4⟩
    | false =>
      have e2 : gtB a = true := HE.out e1
      rw [e2] at hT
      clear HE
      go_enter Tryd.func9, Tryd.ntmps9
      go_wp2_with fail
      refine hT.mono ?_
      rintro e w1 ⟨rfl, hb1⟩
      go_wp2_with fail
      refine (hG _).mono ?_
      rintro e w4 ⟨rfl, hb4⟩
      go_wp2
      go_ret
      exact ⟨rfl, stepA hb1 hb4⟩
  case true =>
    rw [eg] at hG
    simp only [if_true]
    clear eg hj hjs h
    by_cases hs : b.size = 1
    case pos =>
      skip
      have j2 : ¬ (2 : Int) ≤ (b.size : Int) := by omega
      have x0 : ∀ w, (Instr.index 9 (.string b) (.int .i64 0)).run Tryd.prog w = .ok (.int .u8 (bt b 0)) w := fun w => ix_bt (P := Tryd.prog) Tryd.underlying9 b 0 (by omega) w
      rw [hp'.2] at x0
      have j3 : ((b.size : Int) == 0) = false := beq_eq_false_iff_ne.2 (by omega)
      cases e1 : a.toList.isEmpty with
      | true =>
        clear hT
        go_enter Tryd.func9, Tryd.ntmps9
        go_wp2_with fail
        refine (hG _).mono ?_
        rintro e w4 ⟨rfl, hb4⟩
        go_wp2
        go_ret
        exact ⟨rfl, hb4⟩
      | false =>
        have e2 : gtB a = true := HE.out e1
        rw [e2] at hT
        clear HE
        go_enter Tryd.func9, Tryd.ntmps9
        go_wp2_with fail
        refine hT.mono ?_
        rintro e w1 ⟨rfl, hb1⟩
        go_wp2_with fail
        refine (hG _).mono ?_
        rintro e w4 ⟨rfl, hb4⟩
        go_wp2
        go_ret
        exact ⟨rfl, stepA hb1 hb4⟩
    have hs : 2 ≤ b.size := by omega
    have j2 : (2 : Int) ≤ (b.size : Int) := by omega
    have x0 : ∀ w, (Instr.index 9 (.string b) (.int .i64 0)).run Tryd.prog w = .ok (.int .u8 (bt b 0)) w := fun w => ix_bt (P := Tryd.prog) Tryd.underlying9 b 0 (by omega) w
    rw [hp'.2] at x0
    have j3 : ((b.size : Int) == 0) = false := beq_eq_false_iff_ne.2 (by omega)
    cases e1 : a.toList.isEmpty with
    | true =>
      clear hT
      go_enter Tryd.func9, Tryd.ntmps9
      go_wp2_with fail
      refine (hG _).mono ?_
      rintro e w4 ⟨rfl, hb4⟩
      go_wp2
      go_ret
      exact ⟨rfl, hb4⟩
    | false =>
      have e2 : gtB a = true := HE.out e1
      rw [e2] at hT
      clear HE
      go_enter Tryd.func9, Tryd.ntmps9
      go_wp2_with fail
      refine hT.mono ?_
      rintro e w1 ⟨rfl, hb1⟩
      go_wp2_with fail
      refine (hG _).mono ?_
      rintro e w4 ⟨rfl, hb4⟩
      go_wp2
      go_ret
      exact ⟨rfl, stepA hb1 hb4⟩
set_option maxRecDepth 20000 in
set_option maxHeartbeats 8000000 in
theorem sRes_p2 (a b : ByteArray) (w : World) (ha : a.size ≤ 1048576) (h : rsB a b = true) (hn : p1B b = false) (hp : p2B b = true) :
    Calls Tryd.prog 9 #[.string a, .string b] w fun e w' => e = .returned (.string (rsT a b)) ∧ Below w.heap.size w w' := by
  obtain ⟨hz1, hz2⟩ := rs_size h
  have hT := sTopic a w ha
  have hjs := jn_size hz1 hz2
  have hR : rsT a b = if gtB (jnT a b) then jnT a b else ⟨#[]⟩ := by unfold rsT; rw [h]; rfl
  rw [hR]
  have j : ¬ (60 : Int) < (b.size : Int) := by omega
  have hix := fun i hi w => ix_bt (P := Tryd.prog) Tryd.underlying9 a i hi w
  unfold rsB at h
  have HE : Hid (a.toList.isEmpty = false → gtB a = true) := fun e1 => by rw [e1] at h; simp at h; exact h.1
  clear hR
  have hj : jnT a b = a ++ b.extract 1 b.size := by unfold jnT; rw [hn, hp]; rfl
  unfold p2B at hp
  have hp' := of_decide_eq_true hp
  rw [hj]
  have hG : ∀ w, Calls Tryd.prog 14 #[.string (jnT a b)] w fun e w' => e = .returned (.bool (gtB (jnT a b))) ∧ Below w.heap.size w w' := fun w => sTopic (jnT a b) w (by omega)
  rw [hj] at hG
  cases eg : gtB (a ++ b.extract 1 b.size)
  case false =>
    rw [eg] at hG
    simp only [Bool.false_eq_true, if_false]
    clear eg hj hjs h
    have hs : 2 ≤ b.size := by omega
    have j2 : (2 : Int) ≤ (b.size : Int) := by omega
    have x0 : ∀ w, (Instr.index 9 (.string b) (.int .i64 0)).run Tryd.prog w = .ok (.int .u8 (bt b 0)) w := fun w => ix_bt (P := Tryd.prog) Tryd.underlying9 b 0 (by omega) w
    have x1 : ∀ w, (Instr.index 9 (.string b) (.int .i64 1)).run Tryd.prog w = .ok (.int .u8 (bt b 1)) w := fun w => ix_bt (P := Tryd.prog) Tryd.underlying9 b 1 (by omega) w
    rw [hp'.2.1] at x0
    rw [hp'.2.2] at x1
    cases e1 : a.toList.isEmpty with
    | true =>
      clear hT
      go_enter Tryd.func9, Tryd.ntmps9
      go_wp2_with fail
      refine (hG _).mono ?_
      rintro e w4 ⟨rfl, hb4⟩
      go_wp2
      go_ret
      exact ⟨rfl, hb4⟩
    | false =>
      have e2 : gtB a = true := HE.out e1
      rw [e2] at hT
      clear HE
      go_enter Tryd.func9, Tryd.ntmps9
      go_wp2_with fail
      refine hT.mono ?_
      rintro e w1 ⟨rfl, hb1⟩
      go_wp2_with fail
      refine (hG _).mono ?_
      rintro e w4 ⟨rfl, hb4⟩
      go_wp2
      go_ret
      exact ⟨rfl, stepA hb1 hb4⟩
  case true =>
    rw [eg] at hG
    simp only [if_true]
    clear eg hj hjs h
    have hs : 2 ≤ b.size := by omega
    have j2 : (2 : Int) ≤ (b.size : Int) := by omega
    have x0 : ∀ w, (Instr.index 9 (.string b) (.int .i64 0)).run Tryd.prog w = .ok (.int .u8 (bt b 0)) w := fun w => ix_bt (P := Tryd.prog) Tryd.underlying9 b 0 (by omega) w
    have x1 : ∀ w, (Instr.index 9 (.string b) (.int .i64 1)).run Tryd.prog w = .ok (.int .u8 (bt b 1)) w := fun w => ix_bt (P := Tryd.prog) Tryd.underlying9 b 1 (by omega) w
    rw [hp'.2.1] at x0
    rw [hp'.2.2] at x1
    cases e1 : a.toList.isEmpty with
    | true =>
      clear hT
      go_enter Tryd.func9, Tryd.ntmps9
      go_wp2_with fail
      refine (hG _).mono ?_
      rintro e w4 ⟨rfl, hb4⟩
      go_wp2
      go_ret
      exact ⟨rfl, hb4⟩
    | false =>
      have e2 : gtB a = true := HE.out e1
      rw [e2] at hT
      clear HE
      go_enter Tryd.func9, Tryd.ntmps9
      go_wp2_with fail
      refine hT.mono ?_
      rintro e w1 ⟨rfl, hb1⟩
      go_wp2_with fail
      refine (hG _).mono ?_
      rintro e w4 ⟨rfl, hb4⟩
      go_wp2
      go_ret
      exact ⟨rfl, stepA hb1 hb4⟩
set_option maxRecDepth 20000 in
set_option maxHeartbeats 8000000 in
theorem sRes_else (a b : ByteArray) (w : World) (ha : a.size ≤ 1048576) (h : rsB a b = true) (hn : p1B b = false) (hn2 : p2B b = false) :
    Calls Tryd.prog 9 #[.string a, .string b] w fun e w' => e = .returned (.string (rsT a b)) ∧ Below w.heap.size w w' := by
  obtain ⟨hz1, hz2⟩ := rs_size h
  have hT := sTopic a w ha
  have hjs := jn_size hz1 hz2
  have hR : rsT a b = if gtB (jnT a b) then jnT a b else ⟨#[]⟩ := by unfold rsT; rw [h]; rfl
  rw [hR]
  have j : ¬ (60 : Int) < (b.size : Int) := by omega
  have hix := fun i hi w => ix_bt (P := Tryd.prog) Tryd.underlying9 a i hi w
  unfold rsB at h
  have HE : Hid (a.toList.isEmpty = false → gtB a = true) := fun e1 => by rw [e1] at h; simp at h; exact h.1
  clear hR
  have hj : jnT a b = a.extract 0 (lsK a a.size) ++ ⟨#[47]⟩ ++ b := by unfold jnT; rw [hn, hn2]; rfl
  unfold p1B at hn
  unfold p2B at hn2
  have hn' := of_decide_eq_false hn
  have hn2' := of_decide_eq_false hn2
  rw [hj]
  have hG : ∀ w, Calls Tryd.prog 14 #[.string (jnT a b)] w fun e w' => e = .returned (.bool (gtB (jnT a b))) ∧ Below w.heap.size w w' := fun w => sTopic (jnT a b) w (by omega)
  rw [hj] at hG
  cases eg : gtB (a.extract 0 (lsK a a.size) ++ ⟨#[47]⟩ ++ b)
  case false =>
    rw [eg] at hG
    simp only [Bool.false_eq_true, if_false]
    clear eg hj hjs h
    by_cases hs : b.size = 0
    case pos =>
      skip
      have j2 : ¬ (2 : Int) ≤ (b.size : Int) := by omega
      have j3 : ((b.size : Int) == 0) = true := beq_iff_eq.2 (by omega)
      cases e1 : a.toList.isEmpty with
      | true =>
        clear hT
        go_enter Tryd.func9, Tryd.ntmps9
        go_wp2_with fail
        go_loopw [6] (fun i wr => ∃ k : Nat, k ≤ a.size ∧ i = .int .i64 (k : Int) ∧ Hid (lsK a k = lsK a a.size) ∧ wr = w) (fun i _ => (intOf i).toNat)
        case atStart => exact ⟨a.size, Nat.le_refl _, rfl, rfl, rfl⟩
        case round =>
          obtain ⟨k, hk, rfl, HK, hw⟩ := hrel
          have hw' := hw.symm
          clear hw
          subst hw'
          cases k with
          | zero =>
            have HK2 : Hid (0 = lsK a a.size) := HK.out
            have HV : Hid (a.extract 0 (lsK a a.size) ++ ⟨#[47]⟩ ++ b = (⟨#[47]⟩ ++ b)) := by show _ = _; rw [← HK2.out]; simp
            have HG : Hid (∀ w, Calls Tryd.prog 14 #[.string (⟨#[47]⟩ ++ b)] w fun e w' => e = .returned (.bool false) ∧ Below w.heap.size w w') := fun w => by have h9 := hG w; rw [HV.out] at h9; exact h9
            clear HK HK2 hG hix
            have i1 : ¬ (0 : Int) < ((0 : Nat) : Int) := by omega
            go_wp2_with fail
            refine (HG.out _).mono ?_
            rintro e w4 ⟨rfl, hb4⟩
            go_wp2
            go_ret
            exact ⟨rfl, hb4⟩
          | succ k =>
            have x2 : ∀ w, (Instr.index 9 (.string a) (.int .i64 (k : Int))).run Tryd.prog w = .ok (.int .u8 (bt a k)) w := hix k (by omega)
            rw [show ((k + 1 : Nat) : Int) = (k : Int) + 1 by omega]
            have i1 : (0 : Int) < (k : Int) + 1 := by omega
            by_cases hc : bt a k = 47
            · have HK2 : Hid (k = lsK a a.size) := by show k = _; rw [← HK.out, lsK, if_pos hc]
              have HV : Hid (a.extract 0 (lsK a a.size) ++ ⟨#[47]⟩ ++ b = (a.extract 0 k ++ ⟨#[47]⟩ ++ b)) := by show _ = _; rw [← HK2.out]
              have HG : Hid (∀ w, Calls Tryd.prog 14 #[.string (a.extract 0 k ++ ⟨#[47]⟩ ++ b)] w fun e w' => e = .returned (.bool false) ∧ Below w.heap.size w w') := fun w => by have h9 := hG w; rw [HV.out] at h9; exact h9
              have c1 : (bt a k == 47) = true := by simp [hc]
              rw [hc] at x2
              have hka : k ≤ a.size := by omega
              clear HK HK2 hG hix hc c1
              go_wp2_with fail
              refine (HG.out _).mono ?_
              rintro e w4 ⟨rfl, hb4⟩
              go_wp2
              go_ret
              exact ⟨rfl, hb4⟩
            · have HK2 : Hid (lsK a k = lsK a a.size) := by show _ = _; rw [← HK.out, lsK, if_neg hc]
              have c1 : (bt a k == 47) = false := by simpa using hc
              clear HK hG hix hc
              generalize bt a k = X at *
              go_wp2
              exact ⟨⟨k, by omega, by go_num, HK2, trivial⟩, by simp [intOf]⟩
      | false =>
        have e2 : gtB a = true := HE.out e1
        rw [e2] at hT
        clear HE
        go_enter Tryd.func9, Tryd.ntmps9
        go_wp2_with fail
        refine hT.mono ?_
        rintro e w1 ⟨rfl, hb1⟩
        go_wp2_with fail
        go_loopw [6] (fun i wr => ∃ k : Nat, k ≤ a.size ∧ i = .int .i64 (k : Int) ∧ Hid (lsK a k = lsK a a.size) ∧ wr = w1) (fun i _ => (intOf i).toNat)
        case atStart => exact ⟨a.size, Nat.le_refl _, rfl, rfl, rfl⟩
        case round =>
          obtain ⟨k, hk, rfl, HK, hw⟩ := hrel
          have hw' := hw.symm
          clear hw
          subst hw'
          cases k with
          | zero =>
            have HK2 : Hid (0 = lsK a a.size) := HK.out
            have HV : Hid (a.extract 0 (lsK a a.size) ++ ⟨#[47]⟩ ++ b = (⟨#[47]⟩ ++ b)) := by show _ = _; rw [← HK2.out]; simp
            have HG : Hid (∀ w, Calls Tryd.prog 14 #[.string (⟨#[47]⟩ ++ b)] w fun e w' => e = .returned (.bool false) ∧ Below w.heap.size w w') := fun w => by have h9 := hG w; rw [HV.out] at h9; exact h9
            clear HK HK2 hG hix
            have i1 : ¬ (0 : Int) < ((0 : Nat) : Int) := by omega
            go_wp2_with fail
            refine (HG.out _).mono ?_
            rintro e w4 ⟨rfl, hb4⟩
            go_wp2
            go_ret
            exact ⟨rfl, stepA hb1 hb4⟩
          | succ k =>
            have x2 : ∀ w, (Instr.index 9 (.string a) (.int .i64 (k : Int))).run Tryd.prog w = .ok (.int .u8 (bt a k)) w := hix k (by omega)
            rw [show ((k + 1 : Nat) : Int) = (k : Int) + 1 by omega]
            have i1 : (0 : Int) < (k : Int) + 1 := by omega
            by_cases hc : bt a k = 47
            · have HK2 : Hid (k = lsK a a.size) := by show k = _; rw [← HK.out, lsK, if_pos hc]
              have HV : Hid (a.extract 0 (lsK a a.size) ++ ⟨#[47]⟩ ++ b = (a.extract 0 k ++ ⟨#[47]⟩ ++ b)) := by show _ = _; rw [← HK2.out]
              have HG : Hid (∀ w, Calls Tryd.prog 14 #[.string (a.extract 0 k ++ ⟨#[47]⟩ ++ b)] w fun e w' => e = .returned (.bool false) ∧ Below w.heap.size w w') := fun w => by have h9 := hG w; rw [HV.out] at h9; exact h9
              have c1 : (bt a k == 47) = true := by simp [hc]
              rw [hc] at x2
              have hka : k ≤ a.size := by omega
              clear HK HK2 hG hix hc c1
              go_wp2_with fail
              refine (HG.out _).mono ?_
              rintro e w4 ⟨rfl, hb4⟩
              go_wp2
              go_ret
              exact ⟨rfl, stepA hb1 hb4⟩
            · have HK2 : Hid (lsK a k = lsK a a.size) := by show _ = _; rw [← HK.out, lsK, if_neg hc]
              have c1 : (bt a k == 47) = false := by simpa using hc
              clear HK hG hix hc
              generalize bt a k = X at *
              go_wp2
              exact ⟨⟨k, by omega, by go_num, HK2, trivial⟩, by simp [intOf]⟩
    by_cases hs : b.size = 1
    case pos =>
      skip
      have j2 : ¬ (2 : Int) ≤ (b.size : Int) := by omega
      have j3 : ((b.size : Int) == 0) = false := beq_eq_false_iff_ne.2 (by omega)
      have x0 : ∀ w, (Instr.index 9 (.string b) (.int .i64 0)).run Tryd.prog w = .ok (.int .u8 (bt b 0)) w := fun w => ix_bt (P := Tryd.prog) Tryd.underlying9 b 0 (by omega) w
      have j4 : (bt b 0 == 47) = false := by simp; omega
      generalize bt b 0 = X0 at *
      cases e1 : a.toList.isEmpty with
      | true =>
        clear hT
        go_enter Tryd.func9, Tryd.ntmps9
        go_wp2_with fail
        go_loopw [6] (fun i wr => ∃ k : Nat, k ≤ a.size ∧ i = .int .i64 (k : Int) ∧ Hid (lsK a k = lsK a a.size) ∧ wr = w) (fun i _ => (intOf i).toNat)
        case atStart => exact ⟨a.size, Nat.le_refl _, rfl, rfl, rfl⟩
        case round =>
          obtain ⟨k, hk, rfl, HK, hw⟩ := hrel
          have hw' := hw.symm
          clear hw
          subst hw'
          cases k with
          | zero =>
            have HK2 : Hid (0 = lsK a a.size) := HK.out
            have HV : Hid (a.extract 0 (lsK a a.size) ++ ⟨#[47]⟩ ++ b = (⟨#[47]⟩ ++ b)) := by show _ = _; rw [← HK2.out]; simp
            have HG : Hid (∀ w, Calls Tryd.prog 14 #[.string (⟨#[47]⟩ ++ b)] w fun e w' => e = .returned (.bool false) ∧ Below w.heap.size w w') := fun w => by have h9 := hG w; rw [HV.out] at h9; exact h9
            clear HK HK2 hG hix
            have i1 : ¬ (0 : Int) < ((0 : Nat) : Int) := by omega
            go_wp2_with fail
            refine (HG.out _).mono ?_
            rintro e w4 ⟨rfl, hb4⟩
            go_wp2
            go_ret
            exact ⟨rfl, hb4⟩
          | succ k =>
            have x2 : ∀ w, (Instr.index 9 (.string a) (.int .i64 (k : Int))).run Tryd.prog w = .ok (.int .u8 (bt a k)) w := hix k (by omega)
            rw [show ((k + 1 : Nat) : Int) = (k : Int) + 1 by omega]
            have i1 : (0 : Int) < (k : Int) + 1 := by omega
            by_cases hc : bt a k = 47
            · have HK2 : Hid (k = lsK a a.size) := by show k = _; rw [← HK.out, lsK, if_pos hc]
              have HV : Hid (a.extract 0 (lsK a a.size) ++ ⟨#[47]⟩ ++ b = (a.extract 0 k ++ ⟨#[47]⟩ ++ b)) := by show _ = _; rw [← HK2.out]
              have HG : Hid (∀ w, Calls Tryd.prog 14 #[.string (a.extract 0 k ++ ⟨#[47]⟩ ++ b)] w fun e w' => e = .returned (.bool false) ∧ Below w.heap.size w w') := fun w => by have h9 := hG w; rw [HV.out] at h9; exact h9
              have c1 : (bt a k == 47) = true := by simp [hc]
              rw [hc] at x2
              have hka : k ≤ a.size := by omega
              clear HK HK2 hG hix hc c1
              go_wp2_with fail
              refine (HG.out _).mono ?_
              rintro e w4 ⟨rfl, hb4⟩
              go_wp2
              go_ret
              exact ⟨rfl, hb4⟩
            · have HK2 : Hid (lsK a k = lsK a a.size) := by show _ = _; rw [← HK.out, lsK, if_neg hc]
              have c1 : (bt a k == 47) = false := by simpa using hc
              clear HK hG hix hc
              generalize bt a k = X at *
              go_wp2
              exact ⟨⟨k, by omega, by go_num, HK2, trivial⟩, by simp [intOf]⟩
      | false =>
        have e2 : gtB a = true := HE.out e1
        rw [e2] at hT
        clear HE
        go_enter Tryd.func9, Tryd.ntmps9
        go_wp2_with fail
        refine hT.mono ?_
        rintro e w1 ⟨rfl, hb1⟩
        go_wp2_with fail
        go_loopw [6] (fun i wr => ∃ k : Nat, k ≤ a.size ∧ i = .int .i64 (k : Int) ∧ Hid (lsK a k = lsK a a.size) ∧ wr = w1) (fun i _ => (intOf i).toNat)
        case atStart => exact ⟨a.size, Nat.le_refl _, rfl, rfl, rfl⟩
        case round =>
          obtain ⟨k, hk, rfl, HK, hw⟩ := hrel
          have hw' := hw.symm
          clear hw
          subst hw'
          cases k with
          | zero =>
            have HK2 : Hid (0 = lsK a a.size) := HK.out
            have HV : Hid (a.extract 0 (lsK a a.size) ++ ⟨#[47]⟩ ++ b = (⟨#[47]⟩ ++ b)) := by show _ = _; rw [← HK2.out]; simp
            have HG : Hid (∀ w, Calls Tryd.prog 14 #[.string (⟨#[47]⟩ ++ b)] w fun e w' => e = .returned (.bool false) ∧ Below w.heap.size w w') := fun w => by have h9 := hG w; rw [HV.out] at h9; exact h9
            clear HK HK2 hG hix
            have i1 : ¬ (0 : Int) < ((0 : Nat) : Int) := by omega
            go_wp2_with fail
            refine (HG.out _).mono ?_
            rintro e w4 ⟨rfl, hb4⟩
            go_wp2
            go_ret
            exact ⟨rfl, stepA hb1 hb4⟩
          | succ k =>
            have x2 : ∀ w, (Instr.index 9 (.string a) (.int .i64 (k : Int))).run Tryd.prog w = .ok (.int .u8 (bt a k)) w := hix k (by omega)
            rw [show ((k + 1 : Nat) : Int) = (k : Int) + 1 by omega]
            have i1 : (0 : Int) < (k : Int) + 1 := by omega
            by_cases hc : bt a k = 47
            · have HK2 : Hid (k = lsK a a.size) := by show k = _; rw [← HK.out, lsK, if_pos hc]
              have HV : Hid (a.extract 0 (lsK a a.size) ++ ⟨#[47]⟩ ++ b = (a.extract 0 k ++ ⟨#[47]⟩ ++ b)) := by show _ = _; rw [← HK2.out]
              have HG : Hid (∀ w, Calls Tryd.prog 14 #[.string (a.extract 0 k ++ ⟨#[47]⟩ ++ b)] w fun e w' => e = .returned (.bool false) ∧ Below w.heap.size w w') := fun w => by have h9 := hG w; rw [HV.out] at h9; exact h9
              have c1 : (bt a k == 47) = true := by simp [hc]
              rw [hc] at x2
              have hka : k ≤ a.size := by omega
              clear HK HK2 hG hix hc c1
              go_wp2_with fail
              refine (HG.out _).mono ?_
              rintro e w4 ⟨rfl, hb4⟩
              go_wp2
              go_ret
              exact ⟨rfl, stepA hb1 hb4⟩
            · have HK2 : Hid (lsK a k = lsK a a.size) := by show _ = _; rw [← HK.out, lsK, if_neg hc]
              have c1 : (bt a k == 47) = false := by simpa using hc
              clear HK hG hix hc
              generalize bt a k = X at *
              go_wp2
              exact ⟨⟨k, by omega, by go_num, HK2, trivial⟩, by simp [intOf]⟩
    by_cases hs : 2 ≤ b.size ∧ bt b 0 = 126
    case pos =>
      skip
      have j2 : (2 : Int) ≤ (b.size : Int) := by omega
      have j3 : ((b.size : Int) == 0) = false := beq_eq_false_iff_ne.2 (by omega)
      have x0 : ∀ w, (Instr.index 9 (.string b) (.int .i64 0)).run Tryd.prog w = .ok (.int .u8 (bt b 0)) w := fun w => ix_bt (P := Tryd.prog) Tryd.underlying9 b 0 (by omega) w
      have x1 : ∀ w, (Instr.index 9 (.string b) (.int .i64 1)).run Tryd.prog w = .ok (.int .u8 (bt b 1)) w := fun w => ix_bt (P := Tryd.prog) Tryd.underlying9 b 1 (by omega) w
      have j5 : (bt b 1 == 47) = false := by simp; omega
      rw [hs.2] at x0
      generalize bt b 1 = X1 at *
      cases e1 : a.toList.isEmpty with
      | true =>
        clear hT
        go_enter Tryd.func9, Tryd.ntmps9
        go_wp2_with fail
        go_loopw [6] (fun i wr => ∃ k : Nat, k ≤ a.size ∧ i = .int .i64 (k : Int) ∧ Hid (lsK a k = lsK a a.size) ∧ wr = w) (fun i _ => (intOf i).toNat)
        case atStart => exact ⟨a.size, Nat.le_refl _, rfl, rfl, rfl⟩
        case round =>
          obtain ⟨k, hk, rfl, HK, hw⟩ := hrel
          have hw' := hw.symm
          clear hw
          subst hw'
          cases k with
          | zero =>
            have HK2 : Hid (0 = lsK a a.size) := HK.out
            have HV : Hid (a.extract 0 (lsK a a.size) ++ ⟨#[47]⟩ ++ b = (⟨#[47]⟩ ++ b)) := by show _ = _; rw [← HK2.out]; simp
            have HG : Hid (∀ w, Calls Tryd.prog 14 #[.string (⟨#[47]⟩ ++ b)] w fun e w' => e = .returned (.bool false) ∧ Below w.heap.size w w') := fun w => by have h9 := hG w; rw [HV.out] at h9; exact h9
            clear HK HK2 hG hix
            have i1 : ¬ (0 : Int) < ((0 : Nat) : Int) := by omega
            go_wp2_with fail
            refine (HG.out _).mono ?_
            rintro e w4 ⟨rfl, hb4⟩
            go_wp2
            go_ret
            exact ⟨rfl, hb4⟩
          | succ k =>
            have x2 : ∀ w, (Instr.index 9 (.string a) (.int .i64 (k : Int))).run Tryd.prog w = .ok (.int .u8 (bt a k)) w := hix k (by omega)
            rw [show ((k + 1 : Nat) : Int) = (k : Int) + 1 by omega]
            have i1 : (0 : Int) < (k : Int) + 1 := by omega
            by_cases hc : bt a k = 47
            · have HK2 : Hid (k = lsK a a.size) := by show k = _; rw [← HK.out, lsK, if_pos hc]
              have HV : Hid (a.extract 0 (lsK a a.size) ++ ⟨#[47]⟩ ++ b = (a.extract 0 k ++ ⟨#[47]⟩ ++ b)) := by show _ = _; rw [← HK2.out]
              have HG : Hid (∀ w, Calls Tryd.prog 14 #[.string (a.extract 0 k ++ ⟨#[47]⟩ ++ b)] w fun e w' => e = .returned (.bool false) ∧ Below w.heap.size w w') := fun w => by have h9 := hG w; rw [HV.out] at h9; exact h9
              have c1 : (bt a k == 47) = true := by simp [hc]
              rw [hc] at x2
              have hka : k ≤ a.size := by omega
              clear HK HK2 hG hix hc c1
              go_wp2_with fail
              refine (HG.out _).mono ?_
              rintro e w4 ⟨rfl, hb4⟩
              go_wp2
              go_ret
              exact ⟨rfl, hb4⟩
            · have HK2 : Hid (lsK a k = lsK a a.size) := by show _ = _; rw [← HK.out, lsK, if_neg hc]
              have c1 : (bt a k == 47) = false := by simpa using hc
              clear HK hG hix hc
              generalize bt a k = X at *
              go_wp2
              exact ⟨⟨k, by omega, by go_num, HK2, trivial⟩, by simp [intOf]⟩
      | false =>
        have e2 : gtB a = true := HE.out e1
        rw [e2] at hT
        clear HE
        go_enter Tryd.func9, Tryd.ntmps9
        go_wp2_with fail
        refine hT.mono ?_
        rintro e w1 ⟨rfl, hb1⟩
        go_wp2_with fail
        go_loopw [6] (fun i wr => ∃ k : Nat, k ≤ a.size ∧ i = .int .i64 (k : Int) ∧ Hid (lsK a k = lsK a a.size) ∧ wr = w1) (fun i _ => (intOf i).toNat)
        case atStart => exact ⟨a.size, Nat.le_refl _, rfl, rfl, rfl⟩
        case round =>
          obtain ⟨k, hk, rfl, HK, hw⟩ := hrel
          have hw' := hw.symm
          clear hw
          subst hw'
          cases k with
          | zero =>
            have HK2 : Hid (0 = lsK a a.size) := HK.out
            have HV : Hid (a.extract 0 (lsK a a.size) ++ ⟨#[47]⟩ ++ b = (⟨#[47]⟩ ++ b)) := by show _ = _; rw [← HK2.out]; simp
            have HG : Hid (∀ w, Calls Tryd.prog 14 #[.string (⟨#[47]⟩ ++ b)] w fun e w' => e = .returned (.bool false) ∧ Below w.heap.size w w') := fun w => by have h9 := hG w; rw [HV.out] at h9; exact h9
            clear HK HK2 hG hix
            have i1 : ¬ (0 : Int) < ((0 : Nat) : Int) := by omega
            go_wp2_with fail
            refine (HG.out _).mono ?_
            rintro e w4 ⟨rfl, hb4⟩
            go_wp2
            go_ret
            exact ⟨rfl, stepA hb1 hb4⟩
          | succ k =>
            have x2 : ∀ w, (Instr.index 9 (.string a) (.int .i64 (k : Int))).run Tryd.prog w = .ok (.int .u8 (bt a k)) w := hix k (by omega)
            rw [show ((k + 1 : Nat) : Int) = (k : Int) + 1 by omega]
            have i1 : (0 : Int) < (k : Int) + 1 := by omega
            by_cases hc : bt a k = 47
            · have HK2 : Hid (k = lsK a a.size) := by show k = _; rw [← HK.out, lsK, if_pos hc]
              have HV : Hid (a.extract 0 (lsK a a.size) ++ ⟨#[47]⟩ ++ b = (a.extract 0 k ++ ⟨#[47]⟩ ++ b)) := by show _ = _; rw [← HK2.out]
              have HG : Hid (∀ w, Calls Tryd.prog 14 #[.string (a.extract 0 k ++ ⟨#[47]⟩ ++ b)] w fun e w' => e = .returned (.bool false) ∧ Below w.heap.size w w') := fun w => by have h9 := hG w; rw [HV.out] at h9; exact h9
              have c1 : (bt a k == 47) = true := by simp [hc]
              rw [hc] at x2
              have hka : k ≤ a.size := by omega
              clear HK HK2 hG hix hc c1
              go_wp2_with fail
              refine (HG.out _).mono ?_
              rintro e w4 ⟨rfl, hb4⟩
              go_wp2
              go_ret
              exact ⟨rfl, stepA hb1 hb4⟩
            · have HK2 : Hid (lsK a k = lsK a a.size) := by show _ = _; rw [← HK.out, lsK, if_neg hc]
              have c1 : (bt a k == 47) = false := by simpa using hc
              clear HK hG hix hc
              generalize bt a k = X at *
              go_wp2
              exact ⟨⟨k, by omega, by go_num, HK2, trivial⟩, by simp [intOf]⟩
    have hs : 2 ≤ b.size ∧ ¬ bt b 0 = 126 := by omega
    have j2 : (2 : Int) ≤ (b.size : Int) := by omega
    have j3 : ((b.size : Int) == 0) = false := beq_eq_false_iff_ne.2 (by omega)
    have x0 : ∀ w, (Instr.index 9 (.string b) (.int .i64 0)).run Tryd.prog w = .ok (.int .u8 (bt b 0)) w := fun w => ix_bt (P := Tryd.prog) Tryd.underlying9 b 0 (by omega) w
    have j4 : (bt b 0 == 47) = false := by simp; omega
    have j5 : (bt b 0 == 126) = false := by simp; exact hs.2
    generalize bt b 0 = X0 at *
    cases e1 : a.toList.isEmpty with
    | true =>
      clear hT
      go_enter Tryd.func9, Tryd.ntmps9
      go_wp2_with fail
      go_loopw [6] (fun i wr => ∃ k : Nat, k ≤ a.size ∧ i = .int .i64 (k : Int) ∧ Hid (lsK a k = lsK a a.size) ∧ wr = w) (fun i _ => (intOf i).toNat)
      case atStart => exact ⟨a.size, Nat.le_refl _, rfl, rfl, rfl⟩
      case round =>
        obtain ⟨k, hk, rfl, HK, hw⟩ := hrel
        have hw' := hw.symm
        clear hw
        subst hw'
        cases k with
        | zero =>
          have HK2 : Hid (0 = lsK a a.size) := HK.out
          have HV : Hid (a.extract 0 (lsK a a.size) ++ ⟨#[47]⟩ ++ b = (⟨#[47]⟩ ++ b)) := by show _ = _; rw [← HK2.out]; simp
          have HG : Hid (∀ w, Calls Tryd.prog 14 #[.string (⟨#[47]⟩ ++ b)] w fun e w' => e = .returned (.bool false) ∧ Below w.heap.size w w') := fun w => by have h9 := hG w; rw [HV.out] at h9; exact h9
          clear HK HK2 hG hix
          have i1 : ¬ (0 : Int) < ((0 : Nat) : Int) := by omega
          go_wp2_with fail
          refine (HG.out _).mono ?_
          rintro e w4 ⟨rfl, hb4⟩
          go_wp2
          go_ret
          exact ⟨rfl, hb4⟩
        | succ k =>
          have x2 : ∀ w, (Instr.index 9 (.string a) (.int .i64 (k : Int))).run Tryd.prog w = .ok (.int .u8 (bt a k)) w := hix k (by omega)
          rw [show ((k + 1 : Nat) : Int) = (k : Int) + 1 by omega]
          have i1 : (0 : Int) < (k : Int) + 1 := by omega
          by_cases hc : bt a k = 47
          · have HK2 : Hid (k = lsK a a.size) := by show k = _; rw [← HK.out, lsK, if_pos hc]
            have HV : Hid (a.extract 0 (lsK a a.size) ++ ⟨#[47]⟩ ++ b = (a.extract 0 k ++ ⟨#[47]⟩ ++ b)) := by show _ = _; rw [← HK2.out]
            have HG : Hid (∀ w, Calls Tryd.prog 14 #[.string (a.extract 0 k ++ ⟨#[47]⟩ ++ b)] w fun e w' => e = .returned (.bool false) ∧ Below w.heap.size w w') := fun w => by have h9 := hG w; rw [HV.out] at h9; exact h9
            have c1 : (bt a k == 47) = true := by simp [hc]
            rw [hc] at x2
            have hka : k ≤ a.size := by omega
            clear HK HK2 hG hix hc c1
            go_wp2_with fail
            refine (HG.out _).mono ?_
            rintro e w4 ⟨rfl, hb4⟩
            go_wp2
            go_ret
            exact ⟨rfl, hb4⟩
          · have HK2 : Hid (lsK a k = lsK a a.size) := by show _ = _; rw [← HK.out, lsK, if_neg hc]
            have c1 : (bt a k == 47) = false := by simpa using hc
            clear HK hG hix hc
            generalize bt a k = X at *
            go_wp2
            exact ⟨⟨k, by omega, by go_num, HK2, trivial⟩, by simp [intOf]⟩
    | false =>
      have e2 : gtB a = true := HE.out e1
      rw [e2] at hT
      clear HE
      go_enter Tryd.func9, Tryd.ntmps9
      go_wp2_with fail
      refine hT.mono ?_
      rintro e w1 ⟨rfl, hb1⟩
      go_wp2_with fail
      go_loopw [6] (fun i wr => ∃ k : Nat, k ≤ a.size ∧ i = .int .i64 (k : Int) ∧ Hid (lsK a k = lsK a a.size) ∧ wr = w1) (fun i _ => (intOf i).toNat)
      case atStart => exact ⟨a.size, Nat.le_refl _, rfl, rfl, rfl⟩
      case round =>
        obtain ⟨k, hk, rfl, HK, hw⟩ := hrel
        have hw' := hw.symm
        clear hw
        subst hw'
        cases k with
        | zero =>
          have HK2 : Hid (0 = lsK a a.size) := HK.out
          have HV : Hid (a.extract 0 (lsK a a.size) ++ ⟨#[47]⟩ ++ b = (⟨#[47]⟩ ++ b)) := by show _ = _; rw [← HK2.out]; simp
          have HG : Hid (∀ w, Calls Tryd.prog 14 #[.string (⟨#[47]⟩ ++ b)] w fun e w' => e = .returned (.bool false) ∧ Below w.heap.size w w') := fun w => by have h9 := hG w; rw [HV.out] at h9; exact h9
          clear HK HK2 hG hix
          have i1 : ¬ (0 : Int) < ((0 : Nat) : Int) := by omega
          go_wp2_with fail
          refine (HG.out _).mono ?_
          rintro e w4 ⟨rfl, hb4⟩
          go_wp2
          go_ret
          exact ⟨rfl, stepA hb1 hb4⟩
        | succ k =>
          have x2 : ∀ w, (Instr.index 9 (.string a) (.int .i64 (k : Int))).run Tryd.prog w = .ok (.int .u8 (bt a k)) w := hix k (by omega)
          rw [show ((k + 1 : Nat) : Int) = (k : Int) + 1 by omega]
          have i1 : (0 : Int) < (k : Int) + 1 := by omega
          by_cases hc : bt a k = 47
          · have HK2 : Hid (k = lsK a a.size) := by show k = _; rw [← HK.out, lsK, if_pos hc]
            have HV : Hid (a.extract 0 (lsK a a.size) ++ ⟨#[47]⟩ ++ b = (a.extract 0 k ++ ⟨#[47]⟩ ++ b)) := by show _ = _; rw [← HK2.out]
            have HG : Hid (∀ w, Calls Tryd.prog 14 #[.string (a.extract 0 k ++ ⟨#[47]⟩ ++ b)] w fun e w' => e = .returned (.bool false) ∧ Below w.heap.size w w') := fun w => by have h9 := hG w; rw [HV.out] at h9; exact h9
            have c1 : (bt a k == 47) = true := by simp [hc]
            rw [hc] at x2
            have hka : k ≤ a.size := by omega
            clear HK HK2 hG hix hc c1
            go_wp2_with fail
            refine (HG.out _).mono ?_
            rintro e w4 ⟨rfl, hb4⟩
            go_wp2
            go_ret
            exact ⟨rfl, stepA hb1 hb4⟩
          · have HK2 : Hid (lsK a k = lsK a a.size) := by show _ = _; rw [← HK.out, lsK, if_neg hc]
            have c1 : (bt a k == 47) = false := by simpa using hc
            clear HK hG hix hc
            generalize bt a k = X at *
            go_wp2
            exact ⟨⟨k, by omega, by go_num, HK2, trivial⟩, by simp [intOf]⟩
  case true =>
    rw [eg] at hG
    simp only [if_true]
    clear eg hj hjs h
    by_cases hs : b.size = 0
    case pos =>
      skip
      have j2 : ¬ (2 : Int) ≤ (b.size : Int) := by omega
      have j3 : ((b.size : Int) == 0) = true := beq_iff_eq.2 (by omega)
      cases e1 : a.toList.isEmpty with
      | true =>
        clear hT
        go_enter Tryd.func9, Tryd.ntmps9
        go_wp2_with fail
        go_loopw [6] (fun i wr => ∃ k : Nat, k ≤ a.size ∧ i = .int .i64 (k : Int) ∧ Hid (lsK a k = lsK a a.size) ∧ wr = w) (fun i _ => (intOf i).toNat)
        case atStart => exact ⟨a.size, Nat.le_refl _, rfl, rfl, rfl⟩
        case round =>
          obtain ⟨k, hk, rfl, HK, hw⟩ := hrel
          have hw' := hw.symm
          clear hw
          subst hw'
          cases k with
          | zero =>
            have HK2 : Hid (0 = lsK a a.size) := HK.out
            have HV : Hid (a.extract 0 (lsK a a.size) ++ ⟨#[47]⟩ ++ b = (⟨#[47]⟩ ++ b)) := by show _ = _; rw [← HK2.out]; simp
            have HG : Hid (∀ w, Calls Tryd.prog 14 #[.string (⟨#[47]⟩ ++ b)] w fun e w' => e = .returned (.bool true) ∧ Below w.heap.size w w') := fun w => by have h9 := hG w; rw [HV.out] at h9; exact h9
            clear HK HK2 hG hix
            have i1 : ¬ (0 : Int) < ((0 : Nat) : Int) := by omega
            go_wp2_with fail
            refine (HG.out _).mono ?_
            rintro e w4 ⟨rfl, hb4⟩
            go_wp2
            go_ret
            exact ⟨by rw [HV.out]; rfl, hb4⟩
          | succ k =>
            have x2 : ∀ w, (Instr.index 9 (.string a) (.int .i64 (k : Int))).run Tryd.prog w = .ok (.int .u8 (bt a k)) w := hix k (by omega)
            rw [show ((k + 1 : Nat) : Int) = (k : Int) + 1 by omega]
            have i1 : (0 : Int) < (k : Int) + 1 := by omega
            by_cases hc : bt a k = 47
            · have HK2 : Hid (k = lsK a a.size) := by show k = _; rw [← HK.out, lsK, if_pos hc]
              have HV : Hid (a.extract 0 (lsK a a.size) ++ ⟨#[47]⟩ ++ b = (a.extract 0 k ++ ⟨#[47]⟩ ++ b)) := by show _ = _; rw [← HK2.out]
              have HG : Hid (∀ w, Calls Tryd.prog 14 #[.string (a.extract 0 k ++ ⟨#[47]⟩ ++ b)] w fun e w' => e = .returned (.bool true) ∧ Below w.heap.size w w') := fun w => by have h9 := hG w; rw [HV.out] at h9; exact h9
              have c1 : (bt a k == 47) = true := by simp [hc]
              rw [hc] at x2
              have hka : k ≤ a.size := by omega
              clear HK HK2 hG hix hc c1
              go_wp2_with fail
              refine (HG.out _).mono ?_
              rintro e w4 ⟨rfl, hb4⟩
              go_wp2
              go_ret
              exact ⟨by rw [HV.out]; rfl, hb4⟩
            · have HK2 : Hid (lsK a k = lsK a a.size) := by show _ = _; rw [← HK.out, lsK, if_neg hc]
              have c1 : (bt a k == 47) = false := by simpa using hc
              clear HK hG hix hc
              generalize bt a k = X at *
              go_wp2
              exact ⟨⟨k, by omega, by go_num, HK2, trivial⟩, by simp [intOf]⟩
      | false =>
        have e2 : gtB a = true := HE.out e1
        rw [e2] at hT
        clear HE
        go_enter Tryd.func9, Tryd.ntmps9
        go_wp2_with fail
        refine hT.mono ?_
        rintro e w1 ⟨rfl, hb1⟩
        go_wp2_with fail
        go_loopw [6] (fun i wr => ∃ k : Nat, k ≤ a.size ∧ i = .int .i64 (k : Int) ∧ Hid (lsK a k = lsK a a.size) ∧ wr = w1) (fun i _ => (intOf i).toNat)
        case atStart => exact ⟨a.size, Nat.le_refl _, rfl, rfl, rfl⟩
        case round =>
          obtain ⟨k, hk, rfl, HK, hw⟩ := hrel
          have hw' := hw.symm
          clear hw
          subst hw'
          cases k with
          | zero =>
            have HK2 : Hid (0 = lsK a a.size) := HK.out
            have HV : Hid (a.extract 0 (lsK a a.size) ++ ⟨#[47]⟩ ++ b = (⟨#[47]⟩ ++ b)) := by show _ = _; rw [← HK2.out]; simp
            have HG : Hid (∀ w, Calls Tryd.prog 14 #[.string (⟨#[47]⟩ ++ b)] w fun e w' => e = .returned (.bool true) ∧ Below w.heap.size w w') := fun w => by have h9 := hG w; rw [HV.out] at h9; exact h9
            clear HK HK2 hG hix
            have i1 : ¬ (0 : Int) < ((0 : Nat) : Int) := by omega
            go_wp2_with fail
            refine (HG.out _).mono ?_
            rintro e w4 ⟨rfl, hb4⟩
            go_wp2
            go_ret
            exact ⟨by rw [HV.out]; rfl, stepA hb1 hb4⟩
          | succ k =>
            have x2 : ∀ w, (Instr.index 9 (.string a) (.int .i64 (k : Int))).run Tryd.prog w = .ok (.int .u8 (bt a k)) w := hix k (by omega)
            rw [show ((k + 1 : Nat) : Int) = (k : Int) + 1 by omega]
            have i1 : (0 : Int) < (k : Int) + 1 := by omega
            by_cases hc : bt a k = 47
            · have HK2 : Hid (k = lsK a a.size) := by show k = _; rw [← HK.out, lsK, if_pos hc]
              have HV : Hid (a.extract 0 (lsK a a.size) ++ ⟨#[47]⟩ ++ b = (a.extract 0 k ++ ⟨#[47]⟩ ++ b)) := by show _ = _; rw [← HK2.out]
              have HG : Hid (∀ w, Calls Tryd.prog 14 #[.string (a.extract 0 k ++ ⟨#[47]⟩ ++ b)] w fun e w' => e = .returned (.bool true) ∧ Below w.heap.size w w') := fun w => by have h9 := hG w; rw [HV.out] at h9; exact h9
              have c1 : (bt a k == 47) = true := by simp [hc]
              rw [hc] at x2
              have hka : k ≤ a.size := by omega
              clear HK HK2 hG hix hc c1
              go_wp2_with fail
              refine (HG.out _).mono ?_
              rintro e w4 ⟨rfl, hb4⟩
              go_wp2
              go_ret
              exact ⟨by rw [HV.out]; rfl, stepA hb1 hb4⟩
            · have HK2 : Hid (lsK a k = lsK a a.size) := by show _ = _; rw [← HK.out, lsK, if_neg hc]
              have c1 : (bt a k == 47) = false := by simpa using hc
              clear HK hG hix hc
              generalize bt a k = X at *
              go_wp2
              exact ⟨⟨k, by omega, by go_num, HK2, trivial⟩, by simp [intOf]⟩
    by_cases hs : b.size = 1
    case pos =>
      skip
      have j2 : ¬ (2 : Int) ≤ (b.size : Int) := by omega
      have j3 : ((b.size : Int) == 0) = false := beq_eq_false_iff_ne.2 (by omega)
      have x0 : ∀ w, (Instr.index 9 (.string b) (.int .i64 0)).run Tryd.prog w = .ok (.int .u8 (bt b 0)) w := fun w => ix_bt (P := Tryd.prog) Tryd.underlying9 b 0 (by omega) w
      have j4 : (bt b 0 == 47) = false := by simp; omega
      generalize bt b 0 = X0 at *
      cases e1 : a.toList.isEmpty with
      | true =>
        clear hT
        go_enter Tryd.func9, Tryd.ntmps9
        go_wp2_with fail
        go_loopw [6] (fun i wr => ∃ k : Nat, k ≤ a.size ∧ i = .int .i64 (k : Int) ∧ Hid (lsK a k = lsK a a.size) ∧ wr = w) (fun i _ => (intOf i).toNat)
        case atStart => exact ⟨a.size, Nat.le_refl _, rfl, rfl, rfl⟩
        case round =>
          obtain ⟨k, hk, rfl, HK, hw⟩ := hrel
          have hw' := hw.symm
          clear hw
          subst hw'
          cases k with
          | zero =>
            have HK2 : Hid (0 = lsK a a.size) := HK.out
            have HV : Hid (a.extract 0 (lsK a a.size) ++ ⟨#[47]⟩ ++ b = (⟨#[47]⟩ ++ b)) := by show _ = _; rw [← HK2.out]; simp
            have HG : Hid (∀ w, Calls Tryd.prog 14 #[.string (⟨#[47]⟩ ++ b)] w fun e w' => e = .returned (.bool true) ∧ Below w.heap.size w w') := fun w => by have h9 := hG w; rw [HV.out] at h9; exact h9
            clear HK HK2 hG hix
            have i1 : ¬ (0 : Int) < ((0 : Nat) : Int) := by omega
            go_wp2_with fail
            refine (HG.out _).mono ?_
            rintro e w4 ⟨rfl, hb4⟩
            go_wp2
            go_ret
            exact ⟨by rw [HV.out]; rfl, hb4⟩
          | succ k =>
            have x2 : ∀ w, (Instr.index 9 (.string a) (.int .i64 (k : Int))).run Tryd.prog w = .ok (.int .u8 (bt a k)) w := hix k (by omega)
            rw [show ((k + 1 : Nat) : Int) = (k : Int) + 1 by omega]
            have i1 : (0 : Int) < (k : Int) + 1 := by omega
            by_cases hc : bt a k = 47
            · have HK2 : Hid (k = lsK a a.size) := by show k = _; rw [← HK.out, lsK, if_pos hc]
              have HV : Hid (a.extract 0 (lsK a a.size) ++ ⟨#[47]⟩ ++ b = (a.extract 0 k ++ ⟨#[47]⟩ ++ b)) := by show _ = _; rw [← HK2.out]
              have HG : Hid (∀ w, Calls Tryd.prog 14 #[.string (a.extract 0 k ++ ⟨#[47]⟩ ++ b)] w fun e w' => e = .returned (.bool true) ∧ Below w.heap.size w w') := fun w => by have h9 := hG w; rw [HV.out] at h9; exact h9
              have c1 : (bt a k == 47) = true := by simp [hc]
              rw [hc] at x2
              have hka : k ≤ a.size := by omega
              clear HK HK2 hG hix hc c1
              go_wp2_with fail
              refine (HG.out _).mono ?_
              rintro e w4 ⟨rfl, hb4⟩
              go_wp2
              go_ret
              exact ⟨by rw [HV.out]; rfl, hb4⟩
            · have HK2 : Hid (lsK a k = lsK a a.size) := by show _ = _; rw [← HK.out, lsK, if_neg hc]
              have c1 : (bt a k == 47) = false := by simpa using hc
              clear HK hG hix hc
              generalize bt a k = X at *
              go_wp2
              exact ⟨⟨k, by omega, by go_num, HK2, trivial⟩, by simp [intOf]⟩
      | false =>
        have e2 : gtB a = true := HE.out e1
        rw [e2] at hT
        clear HE
        go_enter Tryd.func9, Tryd.ntmps9
        go_wp2_with fail
        refine hT.mono ?_
        rintro e w1 ⟨rfl, hb1⟩
        go_wp2_with fail
        go_loopw [6] (fun i wr => ∃ k : Nat, k ≤ a.size ∧ i = .int .i64 (k : Int) ∧ Hid (lsK a k = lsK a a.size) ∧ wr = w1) (fun i _ => (intOf i).toNat)
        case atStart => exact ⟨a.size, Nat.le_refl _, rfl, rfl, rfl⟩
        case round =>
          obtain ⟨k, hk, rfl, HK, hw⟩ := hrel
          have hw' := hw.symm
          clear hw
          subst hw'
          cases k with
          | zero =>
            have HK2 : Hid (0 = lsK a a.size) := HK.out
            have HV : Hid (a.extract 0 (lsK a a.size) ++ ⟨#[47]⟩ ++ b = (⟨#[47]⟩ ++ b)) := by show _ = _; rw [← HK2.out]; simp
            have HG : Hid (∀ w, Calls Tryd.prog 14 #[.string (⟨#[47]⟩ ++ b)] w fun e w' => e = .returned (.bool true) ∧ Below w.heap.size w w') := fun w => by have h9 := hG w; rw [HV.out] at h9; exact h9
            clear HK HK2 hG hix
            have i1 : ¬ (0 : Int) < ((0 : Nat) : Int) := by omega
            go_wp2_with fail
            refine (HG.out _).mono ?_
            rintro e w4 ⟨rfl, hb4⟩
            go_wp2
            go_ret
            exact ⟨by rw [HV.out]; rfl, stepA hb1 hb4⟩
          | succ k =>
            have x2 : ∀ w, (Instr.index 9 (.string a) (.int .i64 (k : Int))).run Tryd.prog w = .ok (.int .u8 (bt a k)) w := hix k (by omega)
            rw [show ((k + 1 : Nat) : Int) = (k : Int) + 1 by omega]
            have i1 : (0 : Int) < (k : Int) + 1 := by omega
            by_cases hc : bt a k = 47
            · have HK2 : Hid (k = lsK a a.size) := by show k = _; rw [← HK.out, lsK, if_pos hc]
              have HV : Hid (a.extract 0 (lsK a a.size) ++ ⟨#[47]⟩ ++ b = (a.extract 0 k ++ ⟨#[47]⟩ ++ b)) := by show _ = _; rw [← HK2.out]
              have HG : Hid (∀ w, Calls Tryd.prog 14 #[.string (a.extract 0 k ++ ⟨#[47]⟩ ++ b)] w fun e w' => e = .returned (.bool true) ∧ Below w.heap.size w w') := fun w => by have h9 := hG w; rw [HV.out] at h9; exact h9
              have c1 : (bt a k == 47) = true := by simp [hc]
              rw [hc] at x2
              have hka : k ≤ a.size := by omega
              clear HK HK2 hG hix hc c1
              go_wp2_with fail
              refine (HG.out _).mono ?_
              rintro e w4 ⟨rfl, hb4⟩
              go_wp2
              go_ret
              exact ⟨by rw [HV.out]; rfl, stepA hb1 hb4⟩
            · have HK2 : Hid (lsK a k = lsK a a.size) := by show _ = _; rw [← HK.out, lsK, if_neg hc]
              have c1 : (bt a k == 47) = false := by simpa using hc
              clear HK hG hix hc
              generalize bt a k = X at *
              go_wp2
              exact ⟨⟨k, by omega, by go_num, HK2, trivial⟩, by simp [intOf]⟩
    by_cases hs : 2 ≤ b.size ∧ bt b 0 = 126
    case pos =>
      skip
      have j2 : (2 : Int) ≤ (b.size : Int) := by omega
      have j3 : ((b.size : Int) == 0) = false := beq_eq_false_iff_ne.2 (by omega)
      have x0 : ∀ w, (Instr.index 9 (.string b) (.int .i64 0)).run Tryd.prog w = .ok (.int .u8 (bt b 0)) w := fun w => ix_bt (P := Tryd.prog) Tryd.underlying9 b 0 (by omega) w
      have x1 : ∀ w, (Instr.index 9 (.string b) (.int .i64 1)).run Tryd.prog w = .ok (.int .u8 (bt b 1)) w := fun w => ix_bt (P := Tryd.prog) Tryd.underlying9 b 1 (by omega) w
      have j5 : (bt b 1 == 47) = false := by simp; omega
      rw [hs.2] at x0
      generalize bt b 1 = X1 at *
      cases e1 : a.toList.isEmpty with
      | true =>
        clear hT
        go_enter Tryd.func9, Tryd.ntmps9
        go_wp2_with fail
        go_loopw [6] (fun i wr => ∃ k : Nat, k ≤ a.size ∧ i = .int .i64 (k : Int) ∧ Hid (lsK a k = lsK a a.size) ∧ wr = w) (fun i _ => (intOf i).toNat)
        case atStart => exact ⟨a.size, Nat.le_refl _, rfl, rfl, rfl⟩
        case round =>
          obtain ⟨k, hk, rfl, HK, hw⟩ := hrel
          have hw' := hw.symm
          clear hw
          subst hw'
          cases k with
          | zero =>
            have HK2 : Hid (0 = lsK a a.size) := HK.out
            have HV : Hid (a.extract 0 (lsK a a.size) ++ ⟨#[47]⟩ ++ b = (⟨#[47]⟩ ++ b)) := by show _ = _; rw [← HK2.out]; simp
            have HG : Hid (∀ w, Calls Tryd.prog 14 #[.string (⟨#[47]⟩ ++ b)] w fun e w' => e = .returned (.bool true) ∧ Below w.heap.size w w') := fun w => by have h9 := hG w; rw [HV.out] at h9; exact h9
            clear HK HK2 hG hix
            have i1 : ¬ (0 : Int) < ((0 : Nat) : Int) := by omega
            go_wp2_with fail
            refine (HG.out _).mono ?_
            rintro e w4 ⟨rfl, hb4⟩
            go_wp2
            go_ret
            exact ⟨by rw [HV.out]; rfl, hb4⟩
          | succ k =>
            have x2 : ∀ w, (Instr.index 9 (.string a) (.int .i64 (k : Int))).run Tryd.prog w = .ok (.int .u8 (bt a k)) w := hix k (by omega)
            rw [show ((k + 1 : Nat) : Int) = (k : Int) + 1 by omega]
            have i1 : (0 : Int) < (k : Int) + 1 := by omega
            by_cases hc : bt a k = 47
            · have HK2 : Hid (k = lsK a a.size) := by show k = _; rw [← HK.out, lsK, if_pos hc]
              have HV : Hid (a.extract 0 (lsK a a.size) ++ ⟨#[47]⟩ ++ b = (a.extract 0 k ++ ⟨#[47]⟩ ++ b)) := by show _ = _; rw [← HK2.out]
              have HG : Hid (∀ w, Calls Tryd.prog 14 #[.string (a.extract 0 k ++ ⟨#[47]⟩ ++ b)] w fun e w' => e = .returned (.bool true) ∧ Below w.heap.size w w') := fun w => by have h9 := hG w; rw [HV.out] at h9; exact h9
              have c1 : (bt a k == 47) = true := by simp [hc]
              rw [hc] at x2
              have hka : k ≤ a.size := by omega
              clear HK HK2 hG hix hc c1
              go_wp2_with fail
              refine (HG.out _).mono ?_
              rintro e w4 ⟨rfl, hb4⟩
              go_wp2
              go_ret
              exact ⟨by rw [HV.out]; rfl, hb4⟩
            · have HK2 : Hid (lsK a k = lsK a a.size) := by show _ = _; rw [← HK.out, lsK, if_neg hc]
              have c1 : (bt a k == 47) = false := by simpa using hc
              clear HK hG hix hc
              generalize bt a k = X at *
              go_wp2
              exact ⟨⟨k, by omega, by go_num, HK2, trivial⟩, by simp [intOf]⟩
      | false =>
        have e2 : gtB a = true := HE.out e1
        rw [e2] at hT
        clear HE
        go_enter Tryd.func9, Tryd.ntmps9
        go_wp2_with fail
        refine hT.mono ?_
        rintro e w1 ⟨rfl, hb1⟩
        go_wp2_with fail
        go_loopw [6] (fun i wr => ∃ k : Nat, k ≤ a.size ∧ i = .int .i64 (k : Int) ∧ Hid (lsK a k = lsK a a.size) ∧ wr = w1) (fun i _ => (intOf i).toNat)
        case atStart => exact ⟨a.size, Nat.le_refl _, rfl, rfl, rfl⟩
        case round =>
          obtain ⟨k, hk, rfl, HK, hw⟩ := hrel
          have hw' := hw.symm
          clear hw
          subst hw'
          cases k with
          | zero =>
            have HK2 : Hid (0 = lsK a a.size) := HK.out
            have HV : Hid (a.extract 0 (lsK a a.size) ++ ⟨#[47]⟩ ++ b = (⟨#[47]⟩ ++ b)) := by show _ = _; rw [← HK2.out]; simp
            have HG : Hid (∀ w, Calls Tryd.prog 14 #[.string (⟨#[47]⟩ ++ b)] w fun e w' => e = .returned (.bool true) ∧ Below w.heap.size w w') := fun w => by have h9 := hG w; rw [HV.out] at h9; exact h9
            clear HK HK2 hG hix
            have i1 : ¬ (0 : Int) < ((0 : Nat) : Int) := by omega
            go_wp2_with fail
            refine (HG.out _).mono ?_
            rintro e w4 ⟨rfl, hb4⟩
            go_wp2
            go_ret
            exact ⟨by rw [HV.out]; rfl, stepA hb1 hb4⟩
          | succ k =>
            have x2 : ∀ w, (Instr.index 9 (.string a) (.int .i64 (k : Int))).run Tryd.prog w = .ok (.int .u8 (bt a k)) w := hix k (by omega)
            rw [show ((k + 1 : Nat) : Int) = (k : Int) + 1 by omega]
            have i1 : (0 : Int) < (k : Int) + 1 := by omega
            by_cases hc : bt a k = 47
            · have HK2 : Hid (k = lsK a a.size) := by show k = _; rw [← HK.out, lsK, if_pos hc]
              have HV : Hid (a.extract 0 (lsK a a.size) ++ ⟨#[47]⟩ ++ b = (a.extract 0 k ++ ⟨#[47]⟩ ++ b)) := by show _ = _; rw [← HK2.out]
              have HG : Hid (∀ w, Calls Tryd.prog 14 #[.string (a.extract 0 k ++ ⟨#[47]⟩ ++ b)] w fun e w' => e = .returned (.bool true) ∧ Below w.heap.size w w') := fun w => by have h9 := hG w; rw [HV.out] at h9; exact h9
              have c1 : (bt a k == 47) = true := by simp [hc]
              rw [hc] at x2
              have hka : k ≤ a.size := by omega
              clear HK HK2 hG hix hc c1
              go_wp2_with fail
              refine (HG.out _).mono ?_
              rintro e w4 ⟨rfl, hb4⟩
              go_wp2
              go_ret
              exact ⟨by rw [HV.out]; rfl, stepA hb1 hb4⟩
            · have HK2 : Hid (lsK a k = lsK a a.size) := by show _ = _; rw [← HK.out, lsK, if_neg hc]
              have c1 : (bt a k == 47) = false := by simpa using hc
              clear HK hG hix hc
              generalize bt a k = X at *
              go_wp2
              exact ⟨⟨k, by omega, by go_num, HK2, trivial⟩, by simp [intOf]⟩
    have hs : 2 ≤ b.size ∧ ¬ bt b 0 = 126 := by omega
    have j2 : (2 : Int) ≤ (b.size : Int) := by omega
    have j3 : ((b.size : Int) == 0) = false := beq_eq_false_iff_ne.2 (by omega)
    have x0 : ∀ w, (Instr.index 9 (.string b) (.int .i64 0)).run Tryd.prog w = .ok (.int .u8 (bt b 0)) w := fun w => ix_bt (P := Tryd.prog) Tryd.underlying9 b 0 (by omega) w
    have j4 : (bt b 0 == 47) = false := by simp; omega
    have j5 : (bt b 0 == 126) = false := by simp; exact hs.2
    generalize bt b 0 = X0 at *
    cases e1 : a.toList.isEmpty with
    | true =>
      clear hT
      go_enter Tryd.func9, Tryd.ntmps9
      go_wp2_with fail
      go_loopw [6] (fun i wr => ∃ k : Nat, k ≤ a.size ∧ i = .int .i64 (k : Int) ∧ Hid (lsK a k = lsK a a.size) ∧ wr = w) (fun i _ => (intOf i).toNat)
      case atStart => exact ⟨a.size, Nat.le_refl _, rfl, rfl, rfl⟩
      case round =>
        obtain ⟨k, hk, rfl, HK, hw⟩ := hrel
        have hw' := hw.symm
        clear hw
        subst hw'
        cases k with
        | zero =>
          have HK2 : Hid (0 = lsK a a.size) := HK.out
          have HV : Hid (a.extract 0 (lsK a a.size) ++ ⟨#[47]⟩ ++ b = (⟨#[47]⟩ ++ b)) := by show _ = _; rw [← HK2.out]; simp
          have HG : Hid (∀ w, Calls Tryd.prog 14 #[.string (⟨#[47]⟩ ++ b)] w fun e w' => e = .returned (.bool true) ∧ Below w.heap.size w w') := fun w => by have h9 := hG w; rw [HV.out] at h9; exact h9
          clear HK HK2 hG hix
          have i1 : ¬ (0 : Int) < ((0 : Nat) : Int) := by omega
          go_wp2_with fail
          refine (HG.out _).mono ?_
          rintro e w4 ⟨rfl, hb4⟩
          go_wp2
          go_ret
          exact ⟨by rw [HV.out]; rfl, hb4⟩
        | succ k =>
          have x2 : ∀ w, (Instr.index 9 (.string a) (.int .i64 (k : Int))).run Tryd.prog w = .ok (.int .u8 (bt a k)) w := hix k (by omega)
          rw [show ((k + 1 : Nat) : Int) = (k : Int) + 1 by omega]
          have i1 : (0 : Int) < (k : Int) + 1 := by omega
          by_cases hc : bt a k = 47
          · have HK2 : Hid (k = lsK a a.size) := by show k = _; rw [← HK.out, lsK, if_pos hc]
            have HV : Hid (a.extract 0 (lsK a a.size) ++ ⟨#[47]⟩ ++ b = (a.extract 0 k ++ ⟨#[47]⟩ ++ b)) := by show _ = _; rw [← HK2.out]
            have HG : Hid (∀ w, Calls Tryd.prog 14 #[.string (a.extract 0 k ++ ⟨#[47]⟩ ++ b)] w fun e w' => e = .returned (.bool true) ∧ Below w.heap.size w w') := fun w => by have h9 := hG w; rw [HV.out] at h9; exact h9
            have c1 : (bt a k == 47) = true := by simp [hc]
            rw [hc] at x2
            have hka : k ≤ a.size := by omega
            clear HK HK2 hG hix hc c1
            go_wp2_with fail
            refine (HG.out _).mono ?_
            rintro e w4 ⟨rfl, hb4⟩
            go_wp2
            go_ret
            exact ⟨by rw [HV.out]; rfl, hb4⟩
          · have HK2 : Hid (lsK a k = lsK a a.size) := by show _ = _; rw [← HK.out, lsK, if_neg hc]
            have c1 : (bt a k == 47) = false := by simpa using hc
            clear HK hG hix hc
            generalize bt a k = X at *
            go_wp2
            exact ⟨⟨k, by omega, by go_num, HK2, trivial⟩, by simp [intOf]⟩
    | false =>
      have e2 : gtB a = true := HE.out e1
      rw [e2] at hT
      clear HE
      go_enter Tryd.func9, Tryd.ntmps9
      go_wp2_with fail
      refine hT.mono ?_
      rintro e w1 ⟨rfl, hb1⟩
      go_wp2_with fail
      go_loopw [6] (fun i wr => ∃ k : Nat, k ≤ a.size ∧ i = .int .i64 (k : Int) ∧ Hid (lsK a k = lsK a a.size) ∧ wr = w1) (fun i _ => (intOf i).toNat)
      case atStart => exact ⟨a.size, Nat.le_refl _, rfl, rfl, rfl⟩
      case round =>
        obtain ⟨k, hk, rfl, HK, hw⟩ := hrel
        have hw' := hw.symm
        clear hw
        subst hw'
        cases k with
        | zero =>
          have HK2 : Hid (0 = lsK a a.size) := HK.out
          have HV : Hid (a.extract 0 (lsK a a.size) ++ ⟨#[47]⟩ ++ b = (⟨#[47]⟩ ++ b)) := by show _ = _; rw [← HK2.out]; simp
          have HG : Hid (∀ w, Calls Tryd.prog 14 #[.string (⟨#[47]⟩ ++ b)] w fun e w' => e = .returned (.bool true) ∧ Below w.heap.size w w') := fun w => by have h9 := hG w; rw [HV.out] at h9; exact h9
          clear HK HK2 hG hix
          have i1 : ¬ (0 : Int) < ((0 : Nat) : Int) := by omega
          go_wp2_with fail
          refine (HG.out _).mono ?_
          rintro e w4 ⟨rfl, hb4⟩
          go_wp2
          go_ret
          exact ⟨by rw [HV.out]; rfl, stepA hb1 hb4⟩
        | succ k =>
          have x2 : ∀ w, (Instr.index 9 (.string a) (.int .i64 (k : Int))).run Tryd.prog w = .ok (.int .u8 (bt a k)) w := hix k (by omega)
          rw [show ((k + 1 : Nat) : Int) = (k : Int) + 1 by omega]
          have i1 : (0 : Int) < (k : Int) + 1 := by omega
          by_cases hc : bt a k = 47
          · have HK2 : Hid (k = lsK a a.size) := by show k = _; rw [← HK.out, lsK, if_pos hc]
            have HV : Hid (a.extract 0 (lsK a a.size) ++ ⟨#[47]⟩ ++ b = (a.extract 0 k ++ ⟨#[47]⟩ ++ b)) := by show _ = _; rw [← HK2.out]
            have HG : Hid (∀ w, Calls Tryd.prog 14 #[.string (a.extract 0 k ++ ⟨#[47]⟩ ++ b)] w fun e w' => e = .returned (.bool true) ∧ Below w.heap.size w w') := fun w => by have h9 := hG w; rw [HV.out] at h9; exact h9
            have c1 : (bt a k == 47) = true := by simp [hc]
            rw [hc] at x2
            have hka : k ≤ a.size := by omega
            clear HK HK2 hG hix hc c1
            go_wp2_with fail
            refine (HG.out _).mono ?_
            rintro e w4 ⟨rfl, hb4⟩
            go_wp2
            go_ret
            exact ⟨by rw [HV.out]; rfl, stepA hb1 hb4⟩
          · have HK2 : Hid (lsK a k = lsK a a.size) := by show _ = _; rw [← HK.out, lsK, if_neg hc]
            have c1 : (bt a k == 47) = false := by simpa using hc
            clear HK hG hix hc
            generalize bt a k = X at *
            go_wp2
            exact ⟨⟨k, by omega, by go_num, HK2, trivial⟩, by simp [intOf]⟩
theorem sResolve (a b : ByteArray) (w : World) (ha : a.size ≤ 1048576) :
    Calls Tryd.prog 9 #[.string a, .string b] w fun e w' => e = .returned (.string (rsT a b)) ∧ Below w.heap.size w w' := by
  cases h : rsB a b with
  | false => exact sRes_no a b w ha h
  | true =>
    cases h1 : p1B b with
    | true => exact sRes_p1 a b w ha h h1
    | false =>
      cases h2 : p2B b with
      | true => exact sRes_p2 a b w ha h h1 h2
      | false => exact sRes_else a b w ha h h1 h2
end Go.Proofs.YthhaemdpnphhoaaDoor
