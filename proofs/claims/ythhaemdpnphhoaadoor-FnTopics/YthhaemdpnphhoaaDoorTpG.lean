/- Which parts are good: both sides (tools/gen_tpg.py). -/
import Derived.Test.YthhaemdpnphhoaaDoorTpB
import Derived.Test.YthhaemdpnphhoaaDoorTmShelf
namespace Go.Proofs.YthhaemdpnphhoaaDoor
open Go.RowKit
theorem toList_empty (l : List UInt8) : (⟨l.toArray⟩ : ByteArray).toList.isEmpty = l.isEmpty := by
  rw [Lib.toList_data]
theorem emp_size (s : ByteArray) : s.toList.isEmpty = decide (s.size = 0) := by
  rw [Lib.toList_data, Bool.eq_iff_iff, List.isEmpty_iff, decide_eq_true_eq]
  constructor
  · intro h; have := congrArg List.length h; simpa using this
  · intro h; exact List.eq_nil_of_length_eq_zero (by simpa using h)
set_option maxHeartbeats 2000000 in
theorem iPart (s : ByteArray) (w : World) (hs : s.size ≤ 1048576) :
    Calls Tryd.prog 22 #[.string s] w fun e w' => e = .returned (.bool (gpB s)) ∧ Below w.heap.size w w' := by
  by_cases h0 : s.size = 0
  · have e : gpB s = false := by unfold gpB; rw [decide_eq_false (by omega : ¬ 1 ≤ s.size)]; simp
    rw [e]
    clear e
    have j0 : s.toList.isEmpty = true := by rw [emp_size]; simp [h0]
    go_enter Tryd.func22, Tryd.ntmps22
    go_wp2
    go_ret
    exact ⟨rfl, Below.refl _ _⟩
  by_cases h1 : 20 < s.size
  · have e : gpB s = false := by unfold gpB; rw [decide_eq_false (by omega : ¬ s.size ≤ 20)]; simp
    rw [e]
    clear e
    have j0 : s.toList.isEmpty = false := by rw [emp_size]; simp [h0]
    have j1 : (20 : Int) < (s.size : Int) := by omega
    go_enter Tryd.func22, Tryd.ntmps22
    go_wp2
    go_ret
    exact ⟨rfl, Below.refl _ _⟩
  have x0 : ∀ w, (Instr.index 9 (.string s) (.int .i64 0)).run Tryd.prog w = .ok (.int .u8 (bt s 0)) w := fun w => ix_bt (P := Tryd.prog) Tryd.underlying9 s 0 (by omega) w
  have hbd := bt_bd s 0
  by_cases h2 : bt s 0 < 97
  · have e : gpB s = false := by unfold gpB; rw [decide_eq_false (by omega : ¬ 97 ≤ bt s 0)]; simp
    rw [e]
    clear e
    generalize bt s 0 = X at *
    have j0 : s.toList.isEmpty = false := by rw [emp_size]; simp [h0]
    have j1 : ¬ (20 : Int) < (s.size : Int) := by omega
    go_enter Tryd.func22, Tryd.ntmps22
    go_wp2
    go_ret
    exact ⟨rfl, Below.refl _ _⟩
  by_cases h3 : 122 < bt s 0
  · have e : gpB s = false := by unfold gpB; rw [decide_eq_false (by omega : ¬ bt s 0 ≤ 122)]; simp
    rw [e]
    clear e
    generalize bt s 0 = X at *
    have j0 : s.toList.isEmpty = false := by rw [emp_size]; simp [h0]
    have j1 : ¬ (20 : Int) < (s.size : Int) := by omega
    go_enter Tryd.func22, Tryd.ntmps22
    go_wp2
    go_ret
    exact ⟨rfl, Below.refl _ _⟩
  have e : gpB s = ptK s s.size := by unfold gpB; rw [decide_eq_true (by omega : 1 ≤ s.size), decide_eq_true (by omega : s.size ≤ 20), decide_eq_true (by omega : 97 ≤ bt s 0), decide_eq_true (by omega : bt s 0 ≤ 122)]; simp
  rw [e]
  clear e
  have j0 : s.toList.isEmpty = false := by rw [emp_size]; simp [h0]
  have j1 : ¬ (20 : Int) < (s.size : Int) := by omega
  have k := fun w2 => trim_any s ⟨#[97, 98, 99, 100, 101, 102, 103, 104, 105, 106, 107, 108, 109, 110, 111, 112, 113, 114, 115, 116, 117, 118, 119, 120, 121, 122, 48, 49, 50, 51, 52, 53, 54, 55, 56, 57, 95]⟩ w2 hs (by decide) (by decide)
  have he : (⟨(Lib.trimS s.data.toList (⟨#[97, 98, 99, 100, 101, 102, 103, 104, 105, 106, 107, 108, 109, 110, 111, 112, 113, 114, 115, 116, 117, 118, 119, 120, 121, 122, 48, 49, 50, 51, 52, 53, 54, 55, 56, 57, 95]⟩ : ByteArray).data.toList).toArray⟩ : ByteArray).toList.isEmpty = ptK s s.size := by
    rw [toList_empty]; exact trim_part s
  generalize (⟨(Lib.trimS s.data.toList (⟨#[97, 98, 99, 100, 101, 102, 103, 104, 105, 106, 107, 108, 109, 110, 111, 112, 113, 114, 115, 116, 117, 118, 119, 120, 121, 122, 48, 49, 50, 51, 52, 53, 54, 55, 56, 57, 95]⟩ : ByteArray).data.toList).toArray⟩ : ByteArray) = T at *
  generalize ptK s s.size = V at *
  generalize bt s 0 = X at *
  go_enter Tryd.func22, Tryd.ntmps22
  go_wp2_with (go_at_call 38; refine (k _).mono ?_; rintro e w2 ⟨rfl, hb2⟩)
  go_ret
  exact ⟨rfl, hb2⟩
set_option maxHeartbeats 4000000 in
theorem sPart (s : ByteArray) (w : World) (hs : s.size ≤ 1048576) :
    Calls Tryd.prog 28 #[.string s] w fun e w' => e = .returned (.bool (gpB s)) ∧ w' = w := by
  by_cases h0 : s.size = 0
  · have e : gpB s = false := by unfold gpB; rw [decide_eq_false (by omega : ¬ 1 ≤ s.size)]; simp
    rw [e]
    clear e
    have j0 : (s.size : Int) < 1 := by omega
    go_enter Tryd.func28, Tryd.ntmps28
    go_wp2
    go_ret
    exact ⟨rfl, rfl⟩
  by_cases h1 : 20 < s.size
  · have e : gpB s = false := by unfold gpB; rw [decide_eq_false (by omega : ¬ s.size ≤ 20)]; simp
    rw [e]
    clear e
    have j0 : ¬ (s.size : Int) < 1 := by omega
    have j1 : (20 : Int) < (s.size : Int) := by omega
    go_enter Tryd.func28, Tryd.ntmps28
    go_wp2
    go_ret
    exact ⟨rfl, rfl⟩
  have x0 : ∀ w, (Instr.index 9 (.string s) (.int .i64 0)).run Tryd.prog w = .ok (.int .u8 (bt s 0)) w := fun w => ix_bt (P := Tryd.prog) Tryd.underlying9 s 0 (by omega) w
  have hbd := bt_bd s 0
  by_cases h2 : bt s 0 < 97
  · have e : gpB s = false := by unfold gpB; rw [decide_eq_false (by omega : ¬ 97 ≤ bt s 0)]; simp
    rw [e]
    clear e
    generalize bt s 0 = X at *
    have j0 : ¬ (s.size : Int) < 1 := by omega
    have j1 : ¬ (20 : Int) < (s.size : Int) := by omega
    go_enter Tryd.func28, Tryd.ntmps28
    go_wp2
    go_ret
    exact ⟨rfl, rfl⟩
  by_cases h3 : 122 < bt s 0
  · have e : gpB s = false := by unfold gpB; rw [decide_eq_false (by omega : ¬ bt s 0 ≤ 122)]; simp
    rw [e]
    clear e
    generalize bt s 0 = X at *
    have j0 : ¬ (s.size : Int) < 1 := by omega
    have j1 : ¬ (20 : Int) < (s.size : Int) := by omega
    go_enter Tryd.func28, Tryd.ntmps28
    go_wp2
    go_ret
    exact ⟨rfl, rfl⟩
  have e : gpB s = ptK s s.size := by unfold gpB; rw [decide_eq_true (by omega : 1 ≤ s.size), decide_eq_true (by omega : s.size ≤ 20), decide_eq_true (by omega : 97 ≤ bt s 0), decide_eq_true (by omega : bt s 0 ≤ 122)]; simp
  rw [e]
  clear e
  have j0 : ¬ (s.size : Int) < 1 := by omega
  have j1 : ¬ (20 : Int) < (s.size : Int) := by omega
  have HN : Hid (∀ k, k < s.size → ltB (bt s k) = false → ptK s s.size = false) := fun k hk h => ptK_no hk h
  have HY : Hid (∀ k, ptK s k = true → ltB (bt s k) = true → ptK s (k + 1) = true) := fun k h1 h2 => by rw [ptK, h1, h2]; rfl
  have H0 : Hid (ptK s 0 = true) := rfl
  have hix := fun i hi w => ix_bt (P := Tryd.prog) Tryd.underlying9 s i hi w
  have hbb := fun i => bt_bd s i
  generalize hV : ptK s s.size = V at *
  have HV : Hid (ptK s s.size = V) := hV
  clear hV
  generalize ptK s = PK at *
  generalize hX0 : bt s 0 = X0 at x0 hbd h2 h3
  clear hX0
  go_enter Tryd.func28, Tryd.ntmps28
  go_wp2
  clear x0
  go_loopw [3] (fun i wr => ∃ k : Nat, k ≤ s.size ∧ i = .int .i64 (k : Int) ∧ Hid (PK k = true) ∧ wr = w) (fun i _ => s.size - (intOf i).toNat)
  case atStart => exact ⟨0, Nat.zero_le _, rfl, H0, rfl⟩
  case round =>
    obtain ⟨k, hk, rfl, HE, hw⟩ := hrel
    have hw' := hw.symm
    clear hw
    subst hw'
    by_cases hlt : k < s.size
    · have x0 := hix k hlt
      have hbk := hbb k
      have i1 : (k : Int) < (s.size : Int) := by omega
      have HN2 : Hid (ltB (bt s k) = false → V = false) := HN.out k hlt
      have HY2 : Hid (ltB (bt s k) = true → PK (k + 1) = true) := HY.out k HE.out
      clear hix HN HY HE HV hbb
      generalize bt s k = X at *
      by_cases a1 : 97 ≤ X
      · by_cases a2 : X ≤ 122
        · have HR : Hid (PK (k + 1) = true) := HY2.out (by unfold ltB; simp <;> omega)
          clear HN2 HY2
          go_wp2
          exact ⟨⟨k + 1, by omega, by go_num, HR, trivial⟩, by simp [intOf]; omega⟩
        · have b1 : 48 ≤ X := by omega
          have b2 : ¬ X ≤ 57 := by omega
          have c1 : (X == 95) = false := by simp; omega
          have hv : V = false := HN2.out (by unfold ltB; simp <;> omega)
          clear HN2 HY2
          subst hv
          go_wp2
          go_ret
          exact ⟨rfl, rfl⟩
      · by_cases b1 : 48 ≤ X
        · by_cases b2 : X ≤ 57
          · have HR : Hid (PK (k + 1) = true) := HY2.out (by unfold ltB; simp <;> omega)
            clear HN2 HY2
            go_wp2
            exact ⟨⟨k + 1, by omega, by go_num, HR, trivial⟩, by simp [intOf]; omega⟩
          · by_cases c0 : X = 95
            · subst c0
              have HR : Hid (PK (k + 1) = true) := HY2.out (by unfold ltB; simp <;> omega)
              clear HN2 HY2
              go_wp2
              exact ⟨⟨k + 1, by omega, by go_num, HR, trivial⟩, by simp [intOf]; omega⟩
            · have c1 : (X == 95) = false := by simpa using c0
              have hv : V = false := HN2.out (by unfold ltB; simp <;> omega)
              clear HN2 HY2
              subst hv
              go_wp2
              go_ret
              exact ⟨rfl, rfl⟩
        · have c1 : (X == 95) = false := by simp; omega
          have hv : V = false := HN2.out (by unfold ltB; simp <;> omega)
          clear HN2 HY2
          subst hv
          go_wp2
          go_ret
          exact ⟨rfl, rfl⟩
    · have e : k = s.size := by omega
      subst e
      have i1 : ¬ (s.size : Int) < (s.size : Int) := by omega
      have hv : V = true := by rw [← HV.out]; exact HE.out
      subst hv
      go_wp2
      go_ret
      exact ⟨rfl, rfl⟩
end Go.Proofs.YthhaemdpnphhoaaDoor
