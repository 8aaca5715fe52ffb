/- A name resolved, as the program does it. -/
import Derived.Test.YthhaemdpnphhoaaDoorTpR
import Derived.Test.YthhaemdpnphhoaaDoorTpI
import Derived.Test.YthhaemdpnphhoaaDoorTcShelf
namespace Go.Proofs.YthhaemdpnphhoaaDoor
open Go.RowKit
theorem pre_two (s : ByteArray) : Lib.hasPrefix (bl s) [126, 47] = p2B s := by
  have hl := bl_len s
  unfold p2B
  rw [Bool.eq_iff_iff, decide_eq_true_eq]
  match e : bl s with
  | [] => rw [e] at hl; simp at hl; simp [Lib.hasPrefix, List.isPrefixOf]; omega
  | [c] => rw [e] at hl; simp at hl; simp [Lib.hasPrefix, List.isPrefixOf]; omega
  | c :: d :: r =>
    have h0 : 2 ≤ s.size := by rw [← hl, e]; simp
    have hb : bt s 0 = (c.toNat : Int) := by
      rw [bt_of s 0 (by omega)]
      have : s[0] = (bl s)[0]'(by rw [bl_len]; omega) := rfl
      rw [this]
      simp [e]
    have hb1 : bt s 1 = (d.toNat : Int) := by
      rw [bt_of s 1 (by omega)]
      have : s[1] = (bl s)[1]'(by rw [bl_len]; omega) := rfl
      rw [this]
      simp [e]
    rw [hb, hb1]
    simp only [Lib.hasPrefix, List.isPrefixOf, Bool.and_true, Bool.and_eq_true, beq_iff_eq]
    constructor
    · rintro ⟨h, h'⟩; exact ⟨h0, by rw [← h]; rfl, by rw [← h']; rfl⟩
    · rintro ⟨_, h, h'⟩; exact ⟨(UInt8.toNat_inj.1 (by simp; omega)).symm, (UInt8.toNat_inj.1 (by simp; omega)).symm⟩
set_option maxRecDepth 20000 in
set_option maxHeartbeats 2000000 in
theorem iJoinT (a b : ByteArray) (w : World) (ha : a.size ≤ 60) (hb : b.size ≤ 60) :
    Calls Tryd.prog 18 #[.string a, .string b] w fun e w' => e = .returned (.string (jnT a b)) ∧ w' = w := by
  have h1 : ∀ w, Calls Tryd.prog 33 #[.string b, .string ⟨#[47]⟩] w fun e w' => e = .returned (.bool (p1B b)) ∧ w' = w := fun w => by
    have := Tryd.strings_HasPrefix b ⟨#[47]⟩ w
    have e := pre_stroke b
    unfold p1B
    rw [← e]
    exact this
  have h2 : ∀ w, Calls Tryd.prog 33 #[.string b, .string ⟨#[126, 47]⟩] w fun e w' => e = .returned (.bool (p2B b)) ∧ w' = w := fun w => by
    have := Tryd.strings_HasPrefix b ⟨#[126, 47]⟩ w
    rw [← pre_two b]
    exact this
  have h3 : ∀ w, Calls Tryd.prog 34 #[.string a, .string ⟨#[47]⟩] w fun e w' => e = .returned (.int .i64 (Lib.lastIdx a 47 a.size)) ∧ w' = w := fun w => Tryd.strings_LastIndex_one a ⟨#[47]⟩ rfl (by omega) w
  have h4 := ls_last a a.size (Nat.le_refl _)
  have h5 := lsK_le a a.size
  unfold jnT
  cases e1 : p1B b with
  | true =>
    rw [e1] at h1
    go_enter Tryd.func18, Tryd.ntmps18
    go_wp2_with fail
    refine (h1 _).mono ?_
    rintro e w1 ⟨rfl, hw⟩
    have hw' := hw.symm
    clear hw
    subst hw'
    go_wp2
    go_ret
    exact ⟨rfl, rfl⟩
  | false =>
    rw [e1] at h1
    cases e2 : p2B b with
    | true =>
      rw [e2] at h2
      have h6 : 2 ≤ b.size := by unfold p2B at e2; exact (of_decide_eq_true e2).1
      go_enter Tryd.func18, Tryd.ntmps18
      go_wp2_with fail
      refine (h1 _).mono ?_
      rintro e w1 ⟨rfl, hw⟩
      have hw' := hw.symm
      clear hw
      subst hw'
      go_wp2_with fail
      refine (h2 _).mono ?_
      rintro e w1 ⟨rfl, hw⟩
      have hw' := hw.symm
      clear hw
      subst hw'
      go_wp2
      go_ret
      exact ⟨rfl, rfl⟩
    | false =>
      rw [e2] at h2
      generalize Lib.lastIdx a 47 a.size = I at *
      generalize lsK a a.size = K at *
      go_enter Tryd.func18, Tryd.ntmps18
      go_wp2_with fail
      refine (h1 _).mono ?_
      rintro e w1 ⟨rfl, hw⟩
      have hw' := hw.symm
      clear hw
      subst hw'
      go_wp2_with fail
      refine (h2 _).mono ?_
      rintro e w1 ⟨rfl, hw⟩
      have hw' := hw.symm
      clear hw
      subst hw'
      go_wp2_with fail
      refine (h3 _).mono ?_
      rintro e w1 ⟨rfl, hw⟩
      have hw' := hw.symm
      clear hw
      subst hw'
      go_wp2
      go_ret
      exact ⟨rfl, rfl⟩
end Go.Proofs.YthhaemdpnphhoaaDoor
