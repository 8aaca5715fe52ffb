/- A letter, a rune, as the model looks at them. -/
import Derived.Test.YtmlfijapndkfhaaDoorQWhM
namespace Go.Proofs.YtmlfijapndkfhaaDoor
open Go.RowKit
theorem rn_no {f : Nat → Int} {n i m k : Nat} {lo hi : Int} (hk : k ≤ m - 1) (h : contK f n i lo hi k = false) : rn f n i m lo hi = 0 := by
  unfold rn
  rw [contK_no hk h]; rfl
set_option maxHeartbeats 1000000 in
theorem sLetter (b : Int) (w : World) (h0 : 0 ≤ b) (h1 : b ≤ 255) : Calls Tryd.prog 52 #[.int .u8 b] w fun e w' => e = .returned (.bool (letB b)) ∧ w' = w := by
  by_cases c0 : 97 ≤ b
  · by_cases c1 : b ≤ 122
    · have hr : letB b = true := by unfold letB; simp <;> omega
      rw [hr]
      clear hr
      go_enter Tryd.func52, Tryd.ntmps52
      go_wp2
      go_ret
      exact ⟨rfl, rfl⟩
    · have c2 : ¬ b ≤ 90 := by omega
      have c3 : 65 ≤ b := by omega
      have hr : letB b = false := by unfold letB; simp <;> omega
      rw [hr]
      clear hr
      go_enter Tryd.func52, Tryd.ntmps52
      go_wp2
      go_ret
      exact ⟨rfl, rfl⟩
  · by_cases c1 : 65 ≤ b
    · by_cases c2 : b ≤ 90
      · have hr : letB b = true := by unfold letB; simp <;> omega
        rw [hr]
        clear hr
        go_enter Tryd.func52, Tryd.ntmps52
        go_wp2
        go_ret
        exact ⟨rfl, rfl⟩
      · have hr : letB b = false := by unfold letB; simp <;> omega
        rw [hr]
        clear hr
        go_enter Tryd.func52, Tryd.ntmps52
        go_wp2
        go_ret
        exact ⟨rfl, rfl⟩
    · have hr : letB b = false := by unfold letB; simp <;> omega
      rw [hr]
      clear hr
      go_enter Tryd.func52, Tryd.ntmps52
      go_wp2
      go_ret
      exact ⟨rfl, rfl⟩
set_option maxRecDepth 20000 in
set_option maxHeartbeats 16000000 in
theorem sRune (s : ByteArray) (i : Nat) (w : World) (hi : i < s.size) (hs : s.size ≤ 1048576) :
    Calls Tryd.prog 51 #[.string s, .int .i64 (i : Int)] w fun e w' => e = .returned (.int .i64 ((rnK (bt s) s.size i : Nat) : Int)) ∧ w' = w := by
  have hb := bt_bd s i
  have hb0 := hb.1
  have hb1 := hb.2
  clear hb
  have hix := fun w => ix_bt (P := Tryd.prog) Tryd.underlying9 s i hi w
  have j0 : (0 : Int) ≤ (i : Int) := by omega
  by_cases c0 : bt s i < 128
  · rw [show rnK (bt s) s.size i = 1 by unfold rnK; rw [if_pos c0]]
    generalize bt s i = b at *
    go_enter Tryd.func51, Tryd.ntmps51
    go_wp2
    go_ret
    exact ⟨rfl, rfl⟩
  by_cases c1 : bt s i < 194
  · rw [show rnK (bt s) s.size i = 0 by unfold rnK; rw [if_neg c0, if_neg (by omega), if_neg (by omega), if_neg (by omega)]]
    generalize bt s i = b at *
    go_enter Tryd.func51, Tryd.ntmps51
    go_wp2
    go_ret
    exact ⟨rfl, rfl⟩
  by_cases c2 : bt s i ≤ 223
  · rw [show rnK (bt s) s.size i = rn (bt s) s.size i 2 128 191 by unfold rnK; rw [if_neg c0, if_pos (by omega)]]
    generalize bt s i = b at *
    go_enter Tryd.func51, Tryd.ntmps51
    go_wp2_with fail
    go_loopw [7, 8, 9] (fun v7 v8 v9 wr => ∃ k : Nat, k + 1 ≤ 2 ∧ v9 = .int .i64 ((k : Int) + 1) ∧ v7 = .int .i64 (if k = 0 then 128 else 128) ∧ v8 = .int .i64 (if k = 0 then 191 else 191) ∧ Hid (contK (bt s) s.size i 128 191 k = true) ∧ wr = w) (fun _ _ v _ => 2 - (intOf v).toNat)
    case atStart => exact ⟨0, by omega, rfl, rfl, rfl, (rfl : contK (bt s) s.size i 128 191 0 = true), rfl⟩
    case round =>
      obtain ⟨k, hk, rfl, rfl, rfl, HC, hw⟩ := hrel
      have hw' := hw.symm
      clear hw
      subst hw'
      by_cases hlt : k + 1 < 2
      · have jl : (k : Int) + 1 < 2 := by omega
        by_cases k0 : k = 0
        · subst k0
          rw [if_pos rfl, if_pos rfl]
          by_cases h1 : i + 0 + 1 < s.size
          · have hix2 : ∀ w, (Instr.index 9 (.string s) (.int .i64 ((i : Int) + 1))).run Tryd.prog w = .ok (.int .u8 (bt s (i + 0 + 1))) w := fun w => by
              have h9 := ix_bt (P := Tryd.prog) Tryd.underlying9 s (i + 0 + 1) h1 w
              rwa [show (((i + 0 + 1 : Nat)) : Int) = (i : Int) + 1 by omega] at h9
            have hX := bt_bd s (i + 0 + 1)
            have HYes : Hid (128 ≤ bt s (i + 0 + 1) ∧ bt s (i + 0 + 1) ≤ 191 → contK (bt s) s.size i 128 191 (0 + 1) = true) := fun h9 => by
              show contK (bt s) s.size i 128 191 (0 + 1) = true
              unfold contK
              rw [HC.out]
              simp [h1, h9.1, h9.2]
            have HNo : Hid ((128 ≤ bt s (i + 0 + 1) ∧ bt s (i + 0 + 1) ≤ 191 → False) → rn (bt s) s.size i 2 128 191 = 0) := fun h9 => by
              refine rn_no (k := 0 + 1) (by omega) ?_
              cases e : contK (bt s) s.size i 128 191 (0 + 1) with
              | false => rfl
              | true =>
                unfold contK at e
                simp only [Bool.and_eq_true, decide_eq_true_eq] at e
                exact absurd (by simpa using e.2.2) h9
            generalize bt s (i + 0 + 1) = X at *
            have hX0 := hX.1
            have hX1 := hX.2
            have j2 : ¬ (s.size : Int) ≤ (i : Int) + 1 := by omega
            clear HC hX
            by_cases x0 : X < 128
            · have HR : Hid (rn (bt s) s.size i 2 128 191 = 0) := HNo.out (fun h9 => by omega)
              clear HNo HYes
              go_wp2
              go_ret
              exact ⟨ret_int (by rw [HR.out]; rfl), rfl⟩
            by_cases x1 : 191 < X
            · have HR : Hid (rn (bt s) s.size i 2 128 191 = 0) := HNo.out (fun h9 => by omega)
              clear HNo HYes
              go_wp2
              go_ret
              exact ⟨ret_int (by rw [HR.out]; rfl), rfl⟩
            have HC2 : Hid (contK (bt s) s.size i 128 191 (0 + 1) = true) := HYes.out ⟨by omega, by omega⟩
            clear HNo HYes
            go_wp2
            exact ⟨⟨0 + 1, by omega, by go_num, by simp, by simp, HC2, trivial⟩, by simp [intOf] <;> omega⟩
          · have j2 : (s.size : Int) ≤ (i : Int) + 1 := by omega
            have HR : Hid (rn (bt s) s.size i 2 128 191 = 0) := rn_no (k := 0 + 1) (by omega) (by unfold contK; simp [h1])
            clear HC
            go_wp2
            go_ret
            exact ⟨ret_int (by rw [HR.out]; rfl), rfl⟩
        · rw [if_neg k0, if_neg k0]
          by_cases h1 : i + k + 1 < s.size
          · have hix2 : ∀ w, (Instr.index 9 (.string s) (.int .i64 ((i : Int) + ((k : Int) + 1)))).run Tryd.prog w = .ok (.int .u8 (bt s (i + k + 1))) w := fun w => by
              have h9 := ix_bt (P := Tryd.prog) Tryd.underlying9 s (i + k + 1) h1 w
              rwa [show (((i + k + 1 : Nat)) : Int) = (i : Int) + ((k : Int) + 1) by omega] at h9
            have hX := bt_bd s (i + k + 1)
            have HYes : Hid (128 ≤ bt s (i + k + 1) ∧ bt s (i + k + 1) ≤ 191 → contK (bt s) s.size i 128 191 (k + 1) = true) := fun h9 => by
              show contK (bt s) s.size i 128 191 (k + 1) = true
              unfold contK
              rw [HC.out]
              simp [h1, h9.1, h9.2, k0]
            have HNo : Hid ((128 ≤ bt s (i + k + 1) ∧ bt s (i + k + 1) ≤ 191 → False) → rn (bt s) s.size i 2 128 191 = 0) := fun h9 => by
              refine rn_no (k := k + 1) (by omega) ?_
              cases e : contK (bt s) s.size i 128 191 (k + 1) with
              | false => rfl
              | true =>
                unfold contK at e
                simp only [Bool.and_eq_true, decide_eq_true_eq] at e
                exact absurd (by simpa [k0] using e.2.2) h9
            generalize bt s (i + k + 1) = X at *
            have hX0 := hX.1
            have hX1 := hX.2
            have j2 : ¬ (s.size : Int) ≤ (i : Int) + ((k : Int) + 1) := by omega
            clear HC hX
            by_cases x0 : X < 128
            · have HR : Hid (rn (bt s) s.size i 2 128 191 = 0) := HNo.out (fun h9 => by omega)
              clear HNo HYes
              go_wp2
              go_ret
              exact ⟨ret_int (by rw [HR.out]; rfl), rfl⟩
            by_cases x1 : 191 < X
            · have HR : Hid (rn (bt s) s.size i 2 128 191 = 0) := HNo.out (fun h9 => by omega)
              clear HNo HYes
              go_wp2
              go_ret
              exact ⟨ret_int (by rw [HR.out]; rfl), rfl⟩
            have HC2 : Hid (contK (bt s) s.size i 128 191 (k + 1) = true) := HYes.out ⟨by omega, by omega⟩
            clear HNo HYes
            go_wp2
            exact ⟨⟨k + 1, by omega, by go_num, by simp, by simp, HC2, trivial⟩, by simp [intOf] <;> omega⟩
          · have j2 : (s.size : Int) ≤ (i : Int) + ((k : Int) + 1) := by omega
            have HR : Hid (rn (bt s) s.size i 2 128 191 = 0) := rn_no (k := k + 1) (by omega) (by unfold contK; simp [h1])
            clear HC
            go_wp2
            go_ret
            exact ⟨ret_int (by rw [HR.out]; rfl), rfl⟩
      · have hkm : k = 2 - 1 := by omega
        subst hkm
        have HR : Hid (rn (bt s) s.size i 2 128 191 = 2) := by
          show rn (bt s) s.size i 2 128 191 = 2
          unfold rn
          rw [if_pos HC.out]
        clear HC
        go_wp2
        go_ret
        exact ⟨ret_int (by rw [HR.out]; rfl), rfl⟩
  by_cases c3 : bt s i ≤ 239
  · by_cases d0 : bt s i = 224
    · rw [show rnK (bt s) s.size i = rn (bt s) s.size i 3 160 191 by unfold rnK; rw [if_neg c0, if_neg (by omega), if_pos (by omega), if_pos d0, if_neg (by omega)]]
      generalize bt s i = b at *
      go_enter Tryd.func51, Tryd.ntmps51
      go_wp2_with fail
      go_loopw [7, 8, 9] (fun v7 v8 v9 wr => ∃ k : Nat, k + 1 ≤ 3 ∧ v9 = .int .i64 ((k : Int) + 1) ∧ v7 = .int .i64 (if k = 0 then 160 else 128) ∧ v8 = .int .i64 (if k = 0 then 191 else 191) ∧ Hid (contK (bt s) s.size i 160 191 k = true) ∧ wr = w) (fun _ _ v _ => 3 - (intOf v).toNat)
      case atStart => exact ⟨0, by omega, rfl, rfl, rfl, (rfl : contK (bt s) s.size i 160 191 0 = true), rfl⟩
      case round =>
        obtain ⟨k, hk, rfl, rfl, rfl, HC, hw⟩ := hrel
        have hw' := hw.symm
        clear hw
        subst hw'
        by_cases hlt : k + 1 < 3
        · have jl : (k : Int) + 1 < 3 := by omega
          by_cases k0 : k = 0
          · subst k0
            rw [if_pos rfl, if_pos rfl]
            by_cases h1 : i + 0 + 1 < s.size
            · have hix2 : ∀ w, (Instr.index 9 (.string s) (.int .i64 ((i : Int) + 1))).run Tryd.prog w = .ok (.int .u8 (bt s (i + 0 + 1))) w := fun w => by
                have h9 := ix_bt (P := Tryd.prog) Tryd.underlying9 s (i + 0 + 1) h1 w
                rwa [show (((i + 0 + 1 : Nat)) : Int) = (i : Int) + 1 by omega] at h9
              have hX := bt_bd s (i + 0 + 1)
              have HYes : Hid (160 ≤ bt s (i + 0 + 1) ∧ bt s (i + 0 + 1) ≤ 191 → contK (bt s) s.size i 160 191 (0 + 1) = true) := fun h9 => by
                show contK (bt s) s.size i 160 191 (0 + 1) = true
                unfold contK
                rw [HC.out]
                simp [h1, h9.1, h9.2]
              have HNo : Hid ((160 ≤ bt s (i + 0 + 1) ∧ bt s (i + 0 + 1) ≤ 191 → False) → rn (bt s) s.size i 3 160 191 = 0) := fun h9 => by
                refine rn_no (k := 0 + 1) (by omega) ?_
                cases e : contK (bt s) s.size i 160 191 (0 + 1) with
                | false => rfl
                | true =>
                  unfold contK at e
                  simp only [Bool.and_eq_true, decide_eq_true_eq] at e
                  exact absurd (by simpa using e.2.2) h9
              generalize bt s (i + 0 + 1) = X at *
              have hX0 := hX.1
              have hX1 := hX.2
              have j2 : ¬ (s.size : Int) ≤ (i : Int) + 1 := by omega
              clear HC hX
              by_cases x0 : X < 160
              · have HR : Hid (rn (bt s) s.size i 3 160 191 = 0) := HNo.out (fun h9 => by omega)
                clear HNo HYes
                go_wp2
                go_ret
                exact ⟨ret_int (by rw [HR.out]; rfl), rfl⟩
              by_cases x1 : 191 < X
              · have HR : Hid (rn (bt s) s.size i 3 160 191 = 0) := HNo.out (fun h9 => by omega)
                clear HNo HYes
                go_wp2
                go_ret
                exact ⟨ret_int (by rw [HR.out]; rfl), rfl⟩
              have HC2 : Hid (contK (bt s) s.size i 160 191 (0 + 1) = true) := HYes.out ⟨by omega, by omega⟩
              clear HNo HYes
              go_wp2
              exact ⟨⟨0 + 1, by omega, by go_num, by simp, by simp, HC2, trivial⟩, by simp [intOf] <;> omega⟩
            · have j2 : (s.size : Int) ≤ (i : Int) + 1 := by omega
              have HR : Hid (rn (bt s) s.size i 3 160 191 = 0) := rn_no (k := 0 + 1) (by omega) (by unfold contK; simp [h1])
              clear HC
              go_wp2
              go_ret
              exact ⟨ret_int (by rw [HR.out]; rfl), rfl⟩
          · rw [if_neg k0, if_neg k0]
            by_cases h1 : i + k + 1 < s.size
            · have hix2 : ∀ w, (Instr.index 9 (.string s) (.int .i64 ((i : Int) + ((k : Int) + 1)))).run Tryd.prog w = .ok (.int .u8 (bt s (i + k + 1))) w := fun w => by
                have h9 := ix_bt (P := Tryd.prog) Tryd.underlying9 s (i + k + 1) h1 w
                rwa [show (((i + k + 1 : Nat)) : Int) = (i : Int) + ((k : Int) + 1) by omega] at h9
              have hX := bt_bd s (i + k + 1)
              have HYes : Hid (128 ≤ bt s (i + k + 1) ∧ bt s (i + k + 1) ≤ 191 → contK (bt s) s.size i 160 191 (k + 1) = true) := fun h9 => by
                show contK (bt s) s.size i 160 191 (k + 1) = true
                unfold contK
                rw [HC.out]
                simp [h1, h9.1, h9.2, k0]
              have HNo : Hid ((128 ≤ bt s (i + k + 1) ∧ bt s (i + k + 1) ≤ 191 → False) → rn (bt s) s.size i 3 160 191 = 0) := fun h9 => by
                refine rn_no (k := k + 1) (by omega) ?_
                cases e : contK (bt s) s.size i 160 191 (k + 1) with
                | false => rfl
                | true =>
                  unfold contK at e
                  simp only [Bool.and_eq_true, decide_eq_true_eq] at e
                  exact absurd (by simpa [k0] using e.2.2) h9
              generalize bt s (i + k + 1) = X at *
              have hX0 := hX.1
              have hX1 := hX.2
              have j2 : ¬ (s.size : Int) ≤ (i : Int) + ((k : Int) + 1) := by omega
              clear HC hX
              by_cases x0 : X < 128
              · have HR : Hid (rn (bt s) s.size i 3 160 191 = 0) := HNo.out (fun h9 => by omega)
                clear HNo HYes
                go_wp2
                go_ret
                exact ⟨ret_int (by rw [HR.out]; rfl), rfl⟩
              by_cases x1 : 191 < X
              · have HR : Hid (rn (bt s) s.size i 3 160 191 = 0) := HNo.out (fun h9 => by omega)
                clear HNo HYes
                go_wp2
                go_ret
                exact ⟨ret_int (by rw [HR.out]; rfl), rfl⟩
              have HC2 : Hid (contK (bt s) s.size i 160 191 (k + 1) = true) := HYes.out ⟨by omega, by omega⟩
              clear HNo HYes
              go_wp2
              exact ⟨⟨k + 1, by omega, by go_num, by simp, by simp, HC2, trivial⟩, by simp [intOf] <;> omega⟩
            · have j2 : (s.size : Int) ≤ (i : Int) + ((k : Int) + 1) := by omega
              have HR : Hid (rn (bt s) s.size i 3 160 191 = 0) := rn_no (k := k + 1) (by omega) (by unfold contK; simp [h1])
              clear HC
              go_wp2
              go_ret
              exact ⟨ret_int (by rw [HR.out]; rfl), rfl⟩
        · have hkm : k = 3 - 1 := by omega
          subst hkm
          have HR : Hid (rn (bt s) s.size i 3 160 191 = 3) := by
            show rn (bt s) s.size i 3 160 191 = 3
            unfold rn
            rw [if_pos HC.out]
          clear HC
          go_wp2
          go_ret
          exact ⟨ret_int (by rw [HR.out]; rfl), rfl⟩
    have d0' : (bt s i == 224) = false := by simpa using d0
    by_cases d1 : bt s i = 237
    · rw [show rnK (bt s) s.size i = rn (bt s) s.size i 3 128 159 by unfold rnK; rw [if_neg c0, if_neg (by omega), if_pos (by omega), if_neg d0, if_pos d1]]
      generalize bt s i = b at *
      go_enter Tryd.func51, Tryd.ntmps51
      go_wp2_with fail
      go_loopw [7, 8, 9] (fun v7 v8 v9 wr => ∃ k : Nat, k + 1 ≤ 3 ∧ v9 = .int .i64 ((k : Int) + 1) ∧ v7 = .int .i64 (if k = 0 then 128 else 128) ∧ v8 = .int .i64 (if k = 0 then 159 else 191) ∧ Hid (contK (bt s) s.size i 128 159 k = true) ∧ wr = w) (fun _ _ v _ => 3 - (intOf v).toNat)
      case atStart => exact ⟨0, by omega, rfl, rfl, rfl, (rfl : contK (bt s) s.size i 128 159 0 = true), rfl⟩
      case round =>
        obtain ⟨k, hk, rfl, rfl, rfl, HC, hw⟩ := hrel
        have hw' := hw.symm
        clear hw
        subst hw'
        by_cases hlt : k + 1 < 3
        · have jl : (k : Int) + 1 < 3 := by omega
          by_cases k0 : k = 0
          · subst k0
            rw [if_pos rfl, if_pos rfl]
            by_cases h1 : i + 0 + 1 < s.size
            · have hix2 : ∀ w, (Instr.index 9 (.string s) (.int .i64 ((i : Int) + 1))).run Tryd.prog w = .ok (.int .u8 (bt s (i + 0 + 1))) w := fun w => by
                have h9 := ix_bt (P := Tryd.prog) Tryd.underlying9 s (i + 0 + 1) h1 w
                rwa [show (((i + 0 + 1 : Nat)) : Int) = (i : Int) + 1 by omega] at h9
              have hX := bt_bd s (i + 0 + 1)
              have HYes : Hid (128 ≤ bt s (i + 0 + 1) ∧ bt s (i + 0 + 1) ≤ 159 → contK (bt s) s.size i 128 159 (0 + 1) = true) := fun h9 => by
                show contK (bt s) s.size i 128 159 (0 + 1) = true
                unfold contK
                rw [HC.out]
                simp [h1, h9.1, h9.2]
              have HNo : Hid ((128 ≤ bt s (i + 0 + 1) ∧ bt s (i + 0 + 1) ≤ 159 → False) → rn (bt s) s.size i 3 128 159 = 0) := fun h9 => by
                refine rn_no (k := 0 + 1) (by omega) ?_
                cases e : contK (bt s) s.size i 128 159 (0 + 1) with
                | false => rfl
                | true =>
                  unfold contK at e
                  simp only [Bool.and_eq_true, decide_eq_true_eq] at e
                  exact absurd (by simpa using e.2.2) h9
              generalize bt s (i + 0 + 1) = X at *
              have hX0 := hX.1
              have hX1 := hX.2
              have j2 : ¬ (s.size : Int) ≤ (i : Int) + 1 := by omega
              clear HC hX
              by_cases x0 : X < 128
              · have HR : Hid (rn (bt s) s.size i 3 128 159 = 0) := HNo.out (fun h9 => by omega)
                clear HNo HYes
                go_wp2
                go_ret
                exact ⟨ret_int (by rw [HR.out]; rfl), rfl⟩
              by_cases x1 : 159 < X
              · have HR : Hid (rn (bt s) s.size i 3 128 159 = 0) := HNo.out (fun h9 => by omega)
                clear HNo HYes
                go_wp2
                go_ret
                exact ⟨ret_int (by rw [HR.out]; rfl), rfl⟩
              have HC2 : Hid (contK (bt s) s.size i 128 159 (0 + 1) = true) := HYes.out ⟨by omega, by omega⟩
              clear HNo HYes
              go_wp2
              exact ⟨⟨0 + 1, by omega, by go_num, by simp, by simp, HC2, trivial⟩, by simp [intOf] <;> omega⟩
            · have j2 : (s.size : Int) ≤ (i : Int) + 1 := by omega
              have HR : Hid (rn (bt s) s.size i 3 128 159 = 0) := rn_no (k := 0 + 1) (by omega) (by unfold contK; simp [h1])
              clear HC
              go_wp2
              go_ret
              exact ⟨ret_int (by rw [HR.out]; rfl), rfl⟩
          · rw [if_neg k0, if_neg k0]
            by_cases h1 : i + k + 1 < s.size
            · have hix2 : ∀ w, (Instr.index 9 (.string s) (.int .i64 ((i : Int) + ((k : Int) + 1)))).run Tryd.prog w = .ok (.int .u8 (bt s (i + k + 1))) w := fun w => by
                have h9 := ix_bt (P := Tryd.prog) Tryd.underlying9 s (i + k + 1) h1 w
                rwa [show (((i + k + 1 : Nat)) : Int) = (i : Int) + ((k : Int) + 1) by omega] at h9
              have hX := bt_bd s (i + k + 1)
              have HYes : Hid (128 ≤ bt s (i + k + 1) ∧ bt s (i + k + 1) ≤ 191 → contK (bt s) s.size i 128 159 (k + 1) = true) := fun h9 => by
                show contK (bt s) s.size i 128 159 (k + 1) = true
                unfold contK
                rw [HC.out]
                simp [h1, h9.1, h9.2, k0]
              have HNo : Hid ((128 ≤ bt s (i + k + 1) ∧ bt s (i + k + 1) ≤ 191 → False) → rn (bt s) s.size i 3 128 159 = 0) := fun h9 => by
                refine rn_no (k := k + 1) (by omega) ?_
                cases e : contK (bt s) s.size i 128 159 (k + 1) with
                | false => rfl
                | true =>
                  unfold contK at e
                  simp only [Bool.and_eq_true, decide_eq_true_eq] at e
                  exact absurd (by simpa [k0] using e.2.2) h9
              generalize bt s (i + k + 1) = X at *
              have hX0 := hX.1
              have hX1 := hX.2
              have j2 : ¬ (s.size : Int) ≤ (i : Int) + ((k : Int) + 1) := by omega
              clear HC hX
              by_cases x0 : X < 128
              · have HR : Hid (rn (bt s) s.size i 3 128 159 = 0) := HNo.out (fun h9 => by omega)
                clear HNo HYes
                go_wp2
                go_ret
                exact ⟨ret_int (by rw [HR.out]; rfl), rfl⟩
              by_cases x1 : 191 < X
              · have HR : Hid (rn (bt s) s.size i 3 128 159 = 0) := HNo.out (fun h9 => by omega)
                clear HNo HYes
                go_wp2
                go_ret
                exact ⟨ret_int (by rw [HR.out]; rfl), rfl⟩
              have HC2 : Hid (contK (bt s) s.size i 128 159 (k + 1) = true) := HYes.out ⟨by omega, by omega⟩
              clear HNo HYes
              go_wp2
              exact ⟨⟨k + 1, by omega, by go_num, by simp, by simp, HC2, trivial⟩, by simp [intOf] <;> omega⟩
            · have j2 : (s.size : Int) ≤ (i : Int) + ((k : Int) + 1) := by omega
              have HR : Hid (rn (bt s) s.size i 3 128 159 = 0) := rn_no (k := k + 1) (by omega) (by unfold contK; simp [h1])
              clear HC
              go_wp2
              go_ret
              exact ⟨ret_int (by rw [HR.out]; rfl), rfl⟩
        · have hkm : k = 3 - 1 := by omega
          subst hkm
          have HR : Hid (rn (bt s) s.size i 3 128 159 = 3) := by
            show rn (bt s) s.size i 3 128 159 = 3
            unfold rn
            rw [if_pos HC.out]
          clear HC
          go_wp2
          go_ret
          exact ⟨ret_int (by rw [HR.out]; rfl), rfl⟩
    have d1' : (bt s i == 237) = false := by simpa using d1
    rw [show rnK (bt s) s.size i = rn (bt s) s.size i 3 128 191 by unfold rnK; rw [if_neg c0, if_neg (by omega), if_pos (by omega), if_neg d0, if_neg d1]]
    generalize bt s i = b at *
    go_enter Tryd.func51, Tryd.ntmps51
    go_wp2_with fail
    go_loopw [7, 8, 9] (fun v7 v8 v9 wr => ∃ k : Nat, k + 1 ≤ 3 ∧ v9 = .int .i64 ((k : Int) + 1) ∧ v7 = .int .i64 (if k = 0 then 128 else 128) ∧ v8 = .int .i64 (if k = 0 then 191 else 191) ∧ Hid (contK (bt s) s.size i 128 191 k = true) ∧ wr = w) (fun _ _ v _ => 3 - (intOf v).toNat)
    case atStart => exact ⟨0, by omega, rfl, rfl, rfl, (rfl : contK (bt s) s.size i 128 191 0 = true), rfl⟩
    case round =>
      obtain ⟨k, hk, rfl, rfl, rfl, HC, hw⟩ := hrel
      have hw' := hw.symm
      clear hw
      subst hw'
      by_cases hlt : k + 1 < 3
      · have jl : (k : Int) + 1 < 3 := by omega
        by_cases k0 : k = 0
        · subst k0
          rw [if_pos rfl, if_pos rfl]
          by_cases h1 : i + 0 + 1 < s.size
          · have hix2 : ∀ w, (Instr.index 9 (.string s) (.int .i64 ((i : Int) + 1))).run Tryd.prog w = .ok (.int .u8 (bt s (i + 0 + 1))) w := fun w => by
              have h9 := ix_bt (P := Tryd.prog) Tryd.underlying9 s (i + 0 + 1) h1 w
              rwa [show (((i + 0 + 1 : Nat)) : Int) = (i : Int) + 1 by omega] at h9
            have hX := bt_bd s (i + 0 + 1)
            have HYes : Hid (128 ≤ bt s (i + 0 + 1) ∧ bt s (i + 0 + 1) ≤ 191 → contK (bt s) s.size i 128 191 (0 + 1) = true) := fun h9 => by
              show contK (bt s) s.size i 128 191 (0 + 1) = true
              unfold contK
              rw [HC.out]
              simp [h1, h9.1, h9.2]
            have HNo : Hid ((128 ≤ bt s (i + 0 + 1) ∧ bt s (i + 0 + 1) ≤ 191 → False) → rn (bt s) s.size i 3 128 191 = 0) := fun h9 => by
              refine rn_no (k := 0 + 1) (by omega) ?_
              cases e : contK (bt s) s.size i 128 191 (0 + 1) with
              | false => rfl
              | true =>
                unfold contK at e
                simp only [Bool.and_eq_true, decide_eq_true_eq] at e
                exact absurd (by simpa using e.2.2) h9
            generalize bt s (i + 0 + 1) = X at *
            have hX0 := hX.1
            have hX1 := hX.2
            have j2 : ¬ (s.size : Int) ≤ (i : Int) + 1 := by omega
            clear HC hX
            by_cases x0 : X < 128
            · have HR : Hid (rn (bt s) s.size i 3 128 191 = 0) := HNo.out (fun h9 => by omega)
              clear HNo HYes
              go_wp2
              go_ret
              exact ⟨ret_int (by rw [HR.out]; rfl), rfl⟩
            by_cases x1 : 191 < X
            · have HR : Hid (rn (bt s) s.size i 3 128 191 = 0) := HNo.out (fun h9 => by omega)
              clear HNo HYes
              go_wp2
              go_ret
              exact ⟨ret_int (by rw [HR.out]; rfl), rfl⟩
            have HC2 : Hid (contK (bt s) s.size i 128 191 (0 + 1) = true) := HYes.out ⟨by omega, by omega⟩
            clear HNo HYes
            go_wp2
            exact ⟨⟨0 + 1, by omega, by go_num, by simp, by simp, HC2, trivial⟩, by simp [intOf] <;> omega⟩
          · have j2 : (s.size : Int) ≤ (i : Int) + 1 := by omega
            have HR : Hid (rn (bt s) s.size i 3 128 191 = 0) := rn_no (k := 0 + 1) (by omega) (by unfold contK; simp [h1])
            clear HC
            go_wp2
            go_ret
            exact ⟨ret_int (by rw [HR.out]; rfl), rfl⟩
        · rw [if_neg k0, if_neg k0]
          by_cases h1 : i + k + 1 < s.size
          · have hix2 : ∀ w, (Instr.index 9 (.string s) (.int .i64 ((i : Int) + ((k : Int) + 1)))).run Tryd.prog w = .ok (.int .u8 (bt s (i + k + 1))) w := fun w => by
              have h9 := ix_bt (P := Tryd.prog) Tryd.underlying9 s (i + k + 1) h1 w
              rwa [show (((i + k + 1 : Nat)) : Int) = (i : Int) + ((k : Int) + 1) by omega] at h9
            have hX := bt_bd s (i + k + 1)
            have HYes : Hid (128 ≤ bt s (i + k + 1) ∧ bt s (i + k + 1) ≤ 191 → contK (bt s) s.size i 128 191 (k + 1) = true) := fun h9 => by
              show contK (bt s) s.size i 128 191 (k + 1) = true
              unfold contK
              rw [HC.out]
              simp [h1, h9.1, h9.2, k0]
            have HNo : Hid ((128 ≤ bt s (i + k + 1) ∧ bt s (i + k + 1) ≤ 191 → False) → rn (bt s) s.size i 3 128 191 = 0) := fun h9 => by
              refine rn_no (k := k + 1) (by omega) ?_
              cases e : contK (bt s) s.size i 128 191 (k + 1) with
              | false => rfl
              | true =>
                unfold contK at e
                simp only [Bool.and_eq_true, decide_eq_true_eq] at e
                exact absurd (by simpa [k0] using e.2.2) h9
            generalize bt s (i + k + 1) = X at *
            have hX0 := hX.1
            have hX1 := hX.2
            have j2 : ¬ (s.size : Int) ≤ (i : Int) + ((k : Int) + 1) := by omega
            clear HC hX
            by_cases x0 : X < 128
            · have HR : Hid (rn (bt s) s.size i 3 128 191 = 0) := HNo.out (fun h9 => by omega)
              clear HNo HYes
              go_wp2
              go_ret
              exact ⟨ret_int (by rw [HR.out]; rfl), rfl⟩
            by_cases x1 : 191 < X
            · have HR : Hid (rn (bt s) s.size i 3 128 191 = 0) := HNo.out (fun h9 => by omega)
              clear HNo HYes
              go_wp2
              go_ret
              exact ⟨ret_int (by rw [HR.out]; rfl), rfl⟩
            have HC2 : Hid (contK (bt s) s.size i 128 191 (k + 1) = true) := HYes.out ⟨by omega, by omega⟩
            clear HNo HYes
            go_wp2
            exact ⟨⟨k + 1, by omega, by go_num, by simp, by simp, HC2, trivial⟩, by simp [intOf] <;> omega⟩
          · have j2 : (s.size : Int) ≤ (i : Int) + ((k : Int) + 1) := by omega
            have HR : Hid (rn (bt s) s.size i 3 128 191 = 0) := rn_no (k := k + 1) (by omega) (by unfold contK; simp [h1])
            clear HC
            go_wp2
            go_ret
            exact ⟨ret_int (by rw [HR.out]; rfl), rfl⟩
      · have hkm : k = 3 - 1 := by omega
        subst hkm
        have HR : Hid (rn (bt s) s.size i 3 128 191 = 3) := by
          show rn (bt s) s.size i 3 128 191 = 3
          unfold rn
          rw [if_pos HC.out]
        clear HC
        go_wp2
        go_ret
        exact ⟨ret_int (by rw [HR.out]; rfl), rfl⟩
  by_cases c4 : bt s i ≤ 244
  · by_cases d0 : bt s i = 240
    · rw [show rnK (bt s) s.size i = rn (bt s) s.size i 4 144 191 by unfold rnK; rw [if_neg c0, if_neg (by omega), if_neg (by omega), if_pos (by omega), if_pos d0, if_neg (by omega)]]
      generalize bt s i = b at *
      go_enter Tryd.func51, Tryd.ntmps51
      go_wp2_with fail
      go_loopw [7, 8, 9] (fun v7 v8 v9 wr => ∃ k : Nat, k + 1 ≤ 4 ∧ v9 = .int .i64 ((k : Int) + 1) ∧ v7 = .int .i64 (if k = 0 then 144 else 128) ∧ v8 = .int .i64 (if k = 0 then 191 else 191) ∧ Hid (contK (bt s) s.size i 144 191 k = true) ∧ wr = w) (fun _ _ v _ => 4 - (intOf v).toNat)
      case atStart => exact ⟨0, by omega, rfl, rfl, rfl, (rfl : contK (bt s) s.size i 144 191 0 = true), rfl⟩
      case round =>
        obtain ⟨k, hk, rfl, rfl, rfl, HC, hw⟩ := hrel
        have hw' := hw.symm
        clear hw
        subst hw'
        by_cases hlt : k + 1 < 4
        · have jl : (k : Int) + 1 < 4 := by omega
          by_cases k0 : k = 0
          · subst k0
            rw [if_pos rfl, if_pos rfl]
            by_cases h1 : i + 0 + 1 < s.size
            · have hix2 : ∀ w, (Instr.index 9 (.string s) (.int .i64 ((i : Int) + 1))).run Tryd.prog w = .ok (.int .u8 (bt s (i + 0 + 1))) w := fun w => by
                have h9 := ix_bt (P := Tryd.prog) Tryd.underlying9 s (i + 0 + 1) h1 w
                rwa [show (((i + 0 + 1 : Nat)) : Int) = (i : Int) + 1 by omega] at h9
              have hX := bt_bd s (i + 0 + 1)
              have HYes : Hid (144 ≤ bt s (i + 0 + 1) ∧ bt s (i + 0 + 1) ≤ 191 → contK (bt s) s.size i 144 191 (0 + 1) = true) := fun h9 => by
                show contK (bt s) s.size i 144 191 (0 + 1) = true
                unfold contK
                rw [HC.out]
                simp [h1, h9.1, h9.2]
              have HNo : Hid ((144 ≤ bt s (i + 0 + 1) ∧ bt s (i + 0 + 1) ≤ 191 → False) → rn (bt s) s.size i 4 144 191 = 0) := fun h9 => by
                refine rn_no (k := 0 + 1) (by omega) ?_
                cases e : contK (bt s) s.size i 144 191 (0 + 1) with
                | false => rfl
                | true =>
                  unfold contK at e
                  simp only [Bool.and_eq_true, decide_eq_true_eq] at e
                  exact absurd (by simpa using e.2.2) h9
              generalize bt s (i + 0 + 1) = X at *
              have hX0 := hX.1
              have hX1 := hX.2
              have j2 : ¬ (s.size : Int) ≤ (i : Int) + 1 := by omega
              clear HC hX
              by_cases x0 : X < 144
              · have HR : Hid (rn (bt s) s.size i 4 144 191 = 0) := HNo.out (fun h9 => by omega)
                clear HNo HYes
                go_wp2
                go_ret
                exact ⟨ret_int (by rw [HR.out]; rfl), rfl⟩
              by_cases x1 : 191 < X
              · have HR : Hid (rn (bt s) s.size i 4 144 191 = 0) := HNo.out (fun h9 => by omega)
                clear HNo HYes
                go_wp2
                go_ret
                exact ⟨ret_int (by rw [HR.out]; rfl), rfl⟩
              have HC2 : Hid (contK (bt s) s.size i 144 191 (0 + 1) = true) := HYes.out ⟨by omega, by omega⟩
              clear HNo HYes
              go_wp2
              exact ⟨⟨0 + 1, by omega, by go_num, by simp, by simp, HC2, trivial⟩, by simp [intOf] <;> omega⟩
            · have j2 : (s.size : Int) ≤ (i : Int) + 1 := by omega
              have HR : Hid (rn (bt s) s.size i 4 144 191 = 0) := rn_no (k := 0 + 1) (by omega) (by unfold contK; simp [h1])
              clear HC
              go_wp2
              go_ret
              exact ⟨ret_int (by rw [HR.out]; rfl), rfl⟩
          · rw [if_neg k0, if_neg k0]
            by_cases h1 : i + k + 1 < s.size
            · have hix2 : ∀ w, (Instr.index 9 (.string s) (.int .i64 ((i : Int) + ((k : Int) + 1)))).run Tryd.prog w = .ok (.int .u8 (bt s (i + k + 1))) w := fun w => by
                have h9 := ix_bt (P := Tryd.prog) Tryd.underlying9 s (i + k + 1) h1 w
                rwa [show (((i + k + 1 : Nat)) : Int) = (i : Int) + ((k : Int) + 1) by omega] at h9
              have hX := bt_bd s (i + k + 1)
              have HYes : Hid (128 ≤ bt s (i + k + 1) ∧ bt s (i + k + 1) ≤ 191 → contK (bt s) s.size i 144 191 (k + 1) = true) := fun h9 => by
                show contK (bt s) s.size i 144 191 (k + 1) = true
                unfold contK
                rw [HC.out]
                simp [h1, h9.1, h9.2, k0]
              have HNo : Hid ((128 ≤ bt s (i + k + 1) ∧ bt s (i + k + 1) ≤ 191 → False) → rn (bt s) s.size i 4 144 191 = 0) := fun h9 => by
                refine rn_no (k := k + 1) (by omega) ?_
                cases e : contK (bt s) s.size i 144 191 (k + 1) with
                | false => rfl
                | true =>
                  unfold contK at e
                  simp only [Bool.and_eq_true, decide_eq_true_eq] at e
                  exact absurd (by simpa [k0] using e.2.2) h9
              generalize bt s (i + k + 1) = X at *
              have hX0 := hX.1
              have hX1 := hX.2
              have j2 : ¬ (s.size : Int) ≤ (i : Int) + ((k : Int) + 1) := by omega
              clear HC hX
              by_cases x0 : X < 128
              · have HR : Hid (rn (bt s) s.size i 4 144 191 = 0) := HNo.out (fun h9 => by omega)
                clear HNo HYes
                go_wp2
                go_ret
                exact ⟨ret_int (by rw [HR.out]; rfl), rfl⟩
              by_cases x1 : 191 < X
              · have HR : Hid (rn (bt s) s.size i 4 144 191 = 0) := HNo.out (fun h9 => by omega)
                clear HNo HYes
                go_wp2
                go_ret
                exact ⟨ret_int (by rw [HR.out]; rfl), rfl⟩
              have HC2 : Hid (contK (bt s) s.size i 144 191 (k + 1) = true) := HYes.out ⟨by omega, by omega⟩
              clear HNo HYes
              go_wp2
              exact ⟨⟨k + 1, by omega, by go_num, by simp, by simp, HC2, trivial⟩, by simp [intOf] <;> omega⟩
            · have j2 : (s.size : Int) ≤ (i : Int) + ((k : Int) + 1) := by omega
              have HR : Hid (rn (bt s) s.size i 4 144 191 = 0) := rn_no (k := k + 1) (by omega) (by unfold contK; simp [h1])
              clear HC
              go_wp2
              go_ret
              exact ⟨ret_int (by rw [HR.out]; rfl), rfl⟩
        · have hkm : k = 4 - 1 := by omega
          subst hkm
          have HR : Hid (rn (bt s) s.size i 4 144 191 = 4) := by
            show rn (bt s) s.size i 4 144 191 = 4
            unfold rn
            rw [if_pos HC.out]
          clear HC
          go_wp2
          go_ret
          exact ⟨ret_int (by rw [HR.out]; rfl), rfl⟩
    have d0' : (bt s i == 240) = false := by simpa using d0
    by_cases d1 : bt s i = 244
    · rw [show rnK (bt s) s.size i = rn (bt s) s.size i 4 128 143 by unfold rnK; rw [if_neg c0, if_neg (by omega), if_neg (by omega), if_pos (by omega), if_neg d0, if_pos d1]]
      generalize bt s i = b at *
      go_enter Tryd.func51, Tryd.ntmps51
      go_wp2_with fail
      go_loopw [7, 8, 9] (fun v7 v8 v9 wr => ∃ k : Nat, k + 1 ≤ 4 ∧ v9 = .int .i64 ((k : Int) + 1) ∧ v7 = .int .i64 (if k = 0 then 128 else 128) ∧ v8 = .int .i64 (if k = 0 then 143 else 191) ∧ Hid (contK (bt s) s.size i 128 143 k = true) ∧ wr = w) (fun _ _ v _ => 4 - (intOf v).toNat)
      case atStart => exact ⟨0, by omega, rfl, rfl, rfl, (rfl : contK (bt s) s.size i 128 143 0 = true), rfl⟩
      case round =>
        obtain ⟨k, hk, rfl, rfl, rfl, HC, hw⟩ := hrel
        have hw' := hw.symm
        clear hw
        subst hw'
        by_cases hlt : k + 1 < 4
        · have jl : (k : Int) + 1 < 4 := by omega
          by_cases k0 : k = 0
          · subst k0
            rw [if_pos rfl, if_pos rfl]
            by_cases h1 : i + 0 + 1 < s.size
            · have hix2 : ∀ w, (Instr.index 9 (.string s) (.int .i64 ((i : Int) + 1))).run Tryd.prog w = .ok (.int .u8 (bt s (i + 0 + 1))) w := fun w => by
                have h9 := ix_bt (P := Tryd.prog) Tryd.underlying9 s (i + 0 + 1) h1 w
                rwa [show (((i + 0 + 1 : Nat)) : Int) = (i : Int) + 1 by omega] at h9
              have hX := bt_bd s (i + 0 + 1)
              have HYes : Hid (128 ≤ bt s (i + 0 + 1) ∧ bt s (i + 0 + 1) ≤ 143 → contK (bt s) s.size i 128 143 (0 + 1) = true) := fun h9 => by
                show contK (bt s) s.size i 128 143 (0 + 1) = true
                unfold contK
                rw [HC.out]
                simp [h1, h9.1, h9.2]
              have HNo : Hid ((128 ≤ bt s (i + 0 + 1) ∧ bt s (i + 0 + 1) ≤ 143 → False) → rn (bt s) s.size i 4 128 143 = 0) := fun h9 => by
                refine rn_no (k := 0 + 1) (by omega) ?_
                cases e : contK (bt s) s.size i 128 143 (0 + 1) with
                | false => rfl
                | true =>
                  unfold contK at e
                  simp only [Bool.and_eq_true, decide_eq_true_eq] at e
                  exact absurd (by simpa using e.2.2) h9
              generalize bt s (i + 0 + 1) = X at *
              have hX0 := hX.1
              have hX1 := hX.2
              have j2 : ¬ (s.size : Int) ≤ (i : Int) + 1 := by omega
              clear HC hX
              by_cases x0 : X < 128
              · have HR : Hid (rn (bt s) s.size i 4 128 143 = 0) := HNo.out (fun h9 => by omega)
                clear HNo HYes
                go_wp2
                go_ret
                exact ⟨ret_int (by rw [HR.out]; rfl), rfl⟩
              by_cases x1 : 143 < X
              · have HR : Hid (rn (bt s) s.size i 4 128 143 = 0) := HNo.out (fun h9 => by omega)
                clear HNo HYes
                go_wp2
                go_ret
                exact ⟨ret_int (by rw [HR.out]; rfl), rfl⟩
              have HC2 : Hid (contK (bt s) s.size i 128 143 (0 + 1) = true) := HYes.out ⟨by omega, by omega⟩
              clear HNo HYes
              go_wp2
              exact ⟨⟨0 + 1, by omega, by go_num, by simp, by simp, HC2, trivial⟩, by simp [intOf] <;> omega⟩
            · have j2 : (s.size : Int) ≤ (i : Int) + 1 := by omega
              have HR : Hid (rn (bt s) s.size i 4 128 143 = 0) := rn_no (k := 0 + 1) (by omega) (by unfold contK; simp [h1])
              clear HC
              go_wp2
              go_ret
              exact ⟨ret_int (by rw [HR.out]; rfl), rfl⟩
          · rw [if_neg k0, if_neg k0]
            by_cases h1 : i + k + 1 < s.size
            · have hix2 : ∀ w, (Instr.index 9 (.string s) (.int .i64 ((i : Int) + ((k : Int) + 1)))).run Tryd.prog w = .ok (.int .u8 (bt s (i + k + 1))) w := fun w => by
                have h9 := ix_bt (P := Tryd.prog) Tryd.underlying9 s (i + k + 1) h1 w
                rwa [show (((i + k + 1 : Nat)) : Int) = (i : Int) + ((k : Int) + 1) by omega] at h9
              have hX := bt_bd s (i + k + 1)
              have HYes : Hid (128 ≤ bt s (i + k + 1) ∧ bt s (i + k + 1) ≤ 191 → contK (bt s) s.size i 128 143 (k + 1) = true) := fun h9 => by
                show contK (bt s) s.size i 128 143 (k + 1) = true
                unfold contK
                rw [HC.out]
                simp [h1, h9.1, h9.2, k0]
              have HNo : Hid ((128 ≤ bt s (i + k + 1) ∧ bt s (i + k + 1) ≤ 191 → False) → rn (bt s) s.size i 4 128 143 = 0) := fun h9 => by
                refine rn_no (k := k + 1) (by omega) ?_
                cases e : contK (bt s) s.size i 128 143 (k + 1) with
                | false => rfl
                | true =>
                  unfold contK at e
                  simp only [Bool.and_eq_true, decide_eq_true_eq] at e
                  exact absurd (by simpa [k0] using e.2.2) h9
              generalize bt s (i + k + 1) = X at *
              have hX0 := hX.1
              have hX1 := hX.2
              have j2 : ¬ (s.size : Int) ≤ (i : Int) + ((k : Int) + 1) := by omega
              clear HC hX
              by_cases x0 : X < 128
              · have HR : Hid (rn (bt s) s.size i 4 128 143 = 0) := HNo.out (fun h9 => by omega)
                clear HNo HYes
                go_wp2
                go_ret
                exact ⟨ret_int (by rw [HR.out]; rfl), rfl⟩
              by_cases x1 : 191 < X
              · have HR : Hid (rn (bt s) s.size i 4 128 143 = 0) := HNo.out (fun h9 => by omega)
                clear HNo HYes
                go_wp2
                go_ret
                exact ⟨ret_int (by rw [HR.out]; rfl), rfl⟩
              have HC2 : Hid (contK (bt s) s.size i 128 143 (k + 1) = true) := HYes.out ⟨by omega, by omega⟩
              clear HNo HYes
              go_wp2
              exact ⟨⟨k + 1, by omega, by go_num, by simp, by simp, HC2, trivial⟩, by simp [intOf] <;> omega⟩
            · have j2 : (s.size : Int) ≤ (i : Int) + ((k : Int) + 1) := by omega
              have HR : Hid (rn (bt s) s.size i 4 128 143 = 0) := rn_no (k := k + 1) (by omega) (by unfold contK; simp [h1])
              clear HC
              go_wp2
              go_ret
              exact ⟨ret_int (by rw [HR.out]; rfl), rfl⟩
        · have hkm : k = 4 - 1 := by omega
          subst hkm
          have HR : Hid (rn (bt s) s.size i 4 128 143 = 4) := by
            show rn (bt s) s.size i 4 128 143 = 4
            unfold rn
            rw [if_pos HC.out]
          clear HC
          go_wp2
          go_ret
          exact ⟨ret_int (by rw [HR.out]; rfl), rfl⟩
    have d1' : (bt s i == 244) = false := by simpa using d1
    rw [show rnK (bt s) s.size i = rn (bt s) s.size i 4 128 191 by unfold rnK; rw [if_neg c0, if_neg (by omega), if_neg (by omega), if_pos (by omega), if_neg d0, if_neg d1]]
    generalize bt s i = b at *
    go_enter Tryd.func51, Tryd.ntmps51
    go_wp2_with fail
    go_loopw [7, 8, 9] (fun v7 v8 v9 wr => ∃ k : Nat, k + 1 ≤ 4 ∧ v9 = .int .i64 ((k : Int) + 1) ∧ v7 = .int .i64 (if k = 0 then 128 else 128) ∧ v8 = .int .i64 (if k = 0 then 191 else 191) ∧ Hid (contK (bt s) s.size i 128 191 k = true) ∧ wr = w) (fun _ _ v _ => 4 - (intOf v).toNat)
    case atStart => exact ⟨0, by omega, rfl, rfl, rfl, (rfl : contK (bt s) s.size i 128 191 0 = true), rfl⟩
    case round =>
      obtain ⟨k, hk, rfl, rfl, rfl, HC, hw⟩ := hrel
      have hw' := hw.symm
      clear hw
      subst hw'
      by_cases hlt : k + 1 < 4
      · have jl : (k : Int) + 1 < 4 := by omega
        by_cases k0 : k = 0
        · subst k0
          rw [if_pos rfl, if_pos rfl]
          by_cases h1 : i + 0 + 1 < s.size
          · have hix2 : ∀ w, (Instr.index 9 (.string s) (.int .i64 ((i : Int) + 1))).run Tryd.prog w = .ok (.int .u8 (bt s (i + 0 + 1))) w := fun w => by
              have h9 := ix_bt (P := Tryd.prog) Tryd.underlying9 s (i + 0 + 1) h1 w
              rwa [show (((i + 0 + 1 : Nat)) : Int) = (i : Int) + 1 by omega] at h9
            have hX := bt_bd s (i + 0 + 1)
            have HYes : Hid (128 ≤ bt s (i + 0 + 1) ∧ bt s (i + 0 + 1) ≤ 191 → contK (bt s) s.size i 128 191 (0 + 1) = true) := fun h9 => by
              show contK (bt s) s.size i 128 191 (0 + 1) = true
              unfold contK
              rw [HC.out]
              simp [h1, h9.1, h9.2]
            have HNo : Hid ((128 ≤ bt s (i + 0 + 1) ∧ bt s (i + 0 + 1) ≤ 191 → False) → rn (bt s) s.size i 4 128 191 = 0) := fun h9 => by
              refine rn_no (k := 0 + 1) (by omega) ?_
              cases e : contK (bt s) s.size i 128 191 (0 + 1) with
              | false => rfl
              | true =>
                unfold contK at e
                simp only [Bool.and_eq_true, decide_eq_true_eq] at e
                exact absurd (by simpa using e.2.2) h9
            generalize bt s (i + 0 + 1) = X at *
            have hX0 := hX.1
            have hX1 := hX.2
            have j2 : ¬ (s.size : Int) ≤ (i : Int) + 1 := by omega
            clear HC hX
            by_cases x0 : X < 128
            · have HR : Hid (rn (bt s) s.size i 4 128 191 = 0) := HNo.out (fun h9 => by omega)
              clear HNo HYes
              go_wp2
              go_ret
              exact ⟨ret_int (by rw [HR.out]; rfl), rfl⟩
            by_cases x1 : 191 < X
            · have HR : Hid (rn (bt s) s.size i 4 128 191 = 0) := HNo.out (fun h9 => by omega)
              clear HNo HYes
              go_wp2
              go_ret
              exact ⟨ret_int (by rw [HR.out]; rfl), rfl⟩
            have HC2 : Hid (contK (bt s) s.size i 128 191 (0 + 1) = true) := HYes.out ⟨by omega, by omega⟩
            clear HNo HYes
            go_wp2
            exact ⟨⟨0 + 1, by omega, by go_num, by simp, by simp, HC2, trivial⟩, by simp [intOf] <;> omega⟩
          · have j2 : (s.size : Int) ≤ (i : Int) + 1 := by omega
            have HR : Hid (rn (bt s) s.size i 4 128 191 = 0) := rn_no (k := 0 + 1) (by omega) (by unfold contK; simp [h1])
            clear HC
            go_wp2
            go_ret
            exact ⟨ret_int (by rw [HR.out]; rfl), rfl⟩
        · rw [if_neg k0, if_neg k0]
          by_cases h1 : i + k + 1 < s.size
          · have hix2 : ∀ w, (Instr.index 9 (.string s) (.int .i64 ((i : Int) + ((k : Int) + 1)))).run Tryd.prog w = .ok (.int .u8 (bt s (i + k + 1))) w := fun w => by
              have h9 := ix_bt (P := Tryd.prog) Tryd.underlying9 s (i + k + 1) h1 w
              rwa [show (((i + k + 1 : Nat)) : Int) = (i : Int) + ((k : Int) + 1) by omega] at h9
            have hX := bt_bd s (i + k + 1)
            have HYes : Hid (128 ≤ bt s (i + k + 1) ∧ bt s (i + k + 1) ≤ 191 → contK (bt s) s.size i 128 191 (k + 1) = true) := fun h9 => by
              show contK (bt s) s.size i 128 191 (k + 1) = true
              unfold contK
              rw [HC.out]
              simp [h1, h9.1, h9.2, k0]
            have HNo : Hid ((128 ≤ bt s (i + k + 1) ∧ bt s (i + k + 1) ≤ 191 → False) → rn (bt s) s.size i 4 128 191 = 0) := fun h9 => by
              refine rn_no (k := k + 1) (by omega) ?_
              cases e : contK (bt s) s.size i 128 191 (k + 1) with
              | false => rfl
              | true =>
                unfold contK at e
                simp only [Bool.and_eq_true, decide_eq_true_eq] at e
                exact absurd (by simpa [k0] using e.2.2) h9
            generalize bt s (i + k + 1) = X at *
            have hX0 := hX.1
            have hX1 := hX.2
            have j2 : ¬ (s.size : Int) ≤ (i : Int) + ((k : Int) + 1) := by omega
            clear HC hX
            by_cases x0 : X < 128
            · have HR : Hid (rn (bt s) s.size i 4 128 191 = 0) := HNo.out (fun h9 => by omega)
              clear HNo HYes
              go_wp2
              go_ret
              exact ⟨ret_int (by rw [HR.out]; rfl), rfl⟩
            by_cases x1 : 191 < X
            · have HR : Hid (rn (bt s) s.size i 4 128 191 = 0) := HNo.out (fun h9 => by omega)
              clear HNo HYes
              go_wp2
              go_ret
              exact ⟨ret_int (by rw [HR.out]; rfl), rfl⟩
            have HC2 : Hid (contK (bt s) s.size i 128 191 (k + 1) = true) := HYes.out ⟨by omega, by omega⟩
            clear HNo HYes
            go_wp2
            exact ⟨⟨k + 1, by omega, by go_num, by simp, by simp, HC2, trivial⟩, by simp [intOf] <;> omega⟩
          · have j2 : (s.size : Int) ≤ (i : Int) + ((k : Int) + 1) := by omega
            have HR : Hid (rn (bt s) s.size i 4 128 191 = 0) := rn_no (k := k + 1) (by omega) (by unfold contK; simp [h1])
            clear HC
            go_wp2
            go_ret
            exact ⟨ret_int (by rw [HR.out]; rfl), rfl⟩
      · have hkm : k = 4 - 1 := by omega
        subst hkm
        have HR : Hid (rn (bt s) s.size i 4 128 191 = 4) := by
          show rn (bt s) s.size i 4 128 191 = 4
          unfold rn
          rw [if_pos HC.out]
        clear HC
        go_wp2
        go_ret
        exact ⟨ret_int (by rw [HR.out]; rfl), rfl⟩
  rw [show rnK (bt s) s.size i = 0 by unfold rnK; rw [if_neg c0, if_neg (by omega), if_neg (by omega), if_neg (by omega)]]
  generalize bt s i = b at *
  go_enter Tryd.func51, Tryd.ntmps51
  go_wp2
  go_ret
  exact ⟨rfl, rfl⟩
end Go.Proofs.YtmlfijapndkfhaaDoor
