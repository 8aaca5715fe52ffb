/- Whether each has a task, each task once, as the model says it. -/
import Derived.Test.YtjmdghkhapajiaaAsGpS
import Derived.Test.YtjmdghkhapajiaaFkOw
import Derived.BigQuiet
namespace Go.Proofs.Ytjmdghkhapajiaa
open Go.RowKit
theorem infoBo : (Try.prog.info? 4).map (fun i => (i.zero, i.size, i.bytes)) = some (some (.bool false), 1, 1) := by kernel_rfl
theorem had_step (g : Nat → Int) (k t : Nat) (ht : g k = (t : Int)) (i : Nat) : (if i = t then Value.bool true else .bool (hadB g k (i : Int))) = .bool (hadB g (k + 1) (i : Int)) := by
  show _ = Value.bool (hadB g k (i : Int) || (g k == (i : Int)))
  by_cases e : i = t
  · subst e; rw [if_pos rfl, ht]; simp
  · rw [if_neg e]
    have : (g k == (i : Int)) = false := by rw [ht]; simp; omega
    rw [this, Bool.or_false]
set_option maxHeartbeats 4000000 in
set_option maxRecDepth 20000 in
theorem sWho (b : Option Addr) (m d n : Nat) (g : Nat → Int) (w : World) (hn : n ≤ 1048576) (hm : m ≤ 1048576) (h2 : IL w b m g) :
    Calls Try.prog 41 #[.slice b m d, .int .i64 (n : Int)] w fun e w' => e = .returned (.bool (whB n m g)) ∧ Below w.heap.size w w' := by
  by_cases hmn : m = n
  rotate_left
  · have e1 : ((m : Int) != (n : Int)) = true := by simp; omega
    have HV : Hid (whB n m g = false) := by show whB n m g = false; unfold whB; rw [decide_eq_false hmn]; simp
    clear hmn
    go_enter Try.func41, Try.ntmps41
    go_wp2
    go_ret
    exact ⟨ret_bool HV.out.symm, Below.refl _ _⟩
  have hmn2 := hmn.symm
  clear hmn
  subst hmn2
  have e1 : ((n : Int) != (n : Int)) = false := by simp
  have HV : Hid (whB n n g = whK n g n) := by show whB n n g = _; unfold whB; rw [decide_eq_true rfl]; rfl
  have hmk := run_make_row' (P := Try.prog) 65 4 (.bool false) 1 Try.underlying65 infoBo rfl .i64 .i64 n (by omega) (by omega)
  have HP0 : Hid (VP (w.alloc (.cells (madeCells #[.bool false] n) 4)) w.heap.size n (fun t => .bool (hadB g 0 (t : Int)))) := vp_row (World.rowIs_made w (.bool false) n 4)
  have hb0 : Below w.heap.size w (w.alloc (.cells (madeCells #[.bool false] n) 4)) := (Below.refl _ _).alloc (Nat.le_refl _) _
  go_enter Try.func41, Try.ntmps41
  go_wp2_with fail
  clear hmk
  go_loopw [16] (fun i wr => ∃ k : Nat, k ≤ n ∧ i = .int .i64 (k : Int) ∧ Hid (whK n g k = true) ∧ VP wr w.heap.size n (fun t => .bool (hadB g k (t : Int))) ∧ Below w.heap.size w wr) (fun i _ => n - (intOf i).toNat)
  case atStart => exact ⟨0, Nat.zero_le _, rfl, (rfl : whK n g 0 = true), HP0.out, hb0⟩
  case round =>
    obtain ⟨k, hk, rfl, HE, hP, hB⟩ := hrel
    clear HP0 hb0
    have i0 : (0 : Int) ≤ (k : Int) := by omega
    by_cases hlt : k < n
    · have i1 : (k : Int) < (n : Int) := by omega
      obtain ⟨gb, go_, rfl, gl_, x0⟩ := il_at1 (h2.below hB) (i := k) (by omega)
      have HN : Hid (whS n g k = false → whB n n g = false) := fun h => by show whB n n g = false; rw [HV.out]; exact whK_no hlt h
      have HY : Hid (whS n g k = true → whK n g (k + 1) = true) := fun h => by show whK n g (k + 1) = true; unfold whK; rw [HE.out, h]; rfl
      by_cases g0 : g k < 0
      · have HV2 : Hid (whB n n g = false) := HN.out (by unfold whS; rw [decide_eq_false (by omega)]; rfl)
        clear HN HY HV HE hP
        generalize g k = X at *
        go_wp2
        go_ret
        exact ⟨ret_bool HV2.out.symm, hB⟩
      by_cases g1 : (n : Int) ≤ g k
      · have HV2 : Hid (whB n n g = false) := HN.out (by unfold whS; rw [decide_eq_false (by omega)]; rfl)
        clear HN HY HV HE hP
        generalize g k = X at *
        go_wp2
        go_ret
        exact ⟨ret_bool HV2.out.symm, hB⟩
      obtain ⟨t, ht⟩ : ∃ t : Nat, g k = (t : Int) := ⟨(g k).toNat, by omega⟩
      have htn : t < n := by omega
      have hw1 : whS n g k = !hadB g k (t : Int) := by unfold whS; rw [decide_eq_true ⟨by omega, by omega⟩, ht]; rfl
      have HS : Hid (∀ i : Nat, (if i = t then Value.bool true else .bool (hadB g k (i : Int))) = .bool (hadB g (k + 1) (i : Int))) := had_step g k t ht
      rw [hw1] at HN HY
      rw [ht] at x0
      have i2 : (0 : Int) ≤ (t : Int) := by omega
      have i3 : (t : Int) < (n : Int) := by omega
      have y0 := hP.c t htn
      have y1 := hP.fz t
      have hP2 := hP.set htn (.bool true)
      have HP2 : Hid (VP (wr.setCell ⟨w.heap.size, t, none⟩ (.bool true)) w.heap.size n (fun t => .bool (hadB g (k + 1) (t : Int)))) := ⟨hP2.lt, fun i hi => by rw [hP2.c i hi]; exact congrArg some (HS.out i), hP2.fz⟩
      have hB2 : Below w.heap.size w (wr.setCell ⟨w.heap.size, t, none⟩ (.bool true)) := hB.setCell (p := ⟨_, _, none⟩) (Nat.le_refl _) _
      clear hw1 g0 g1 ht HE HV hP hP2 HS
      generalize hadB g k (t : Int) = Q at *
      cases Q with
      | true =>
        have HV2 : Hid (whB n n g = false) := HN.out rfl
        clear HN HY
        go_wp2
        go_ret
        exact ⟨ret_bool HV2.out.symm, hB⟩
      | false =>
        have HV2 : Hid (whK n g (k + 1) = true) := HY.out rfl
        clear HN HY
        go_wp2
        exact ⟨⟨k + 1, by omega, by go_num, HV2, HP2.out, hB2⟩, by simp [intOf]; omega⟩
    · have hke : k = n := by omega
      subst hke
      have i1 : ¬ (k : Int) < (k : Int) := by omega
      clear hP
      go_wp2
      go_ret
      exact ⟨ret_bool (by rw [HV.out]; exact HE.out.symm), hB⟩
end Go.Proofs.Ytjmdghkhapajiaa
