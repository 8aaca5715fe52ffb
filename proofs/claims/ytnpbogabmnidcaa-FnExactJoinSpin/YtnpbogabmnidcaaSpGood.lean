/- Spins: what the program's own test for good spins answers, and the law on GoodSpin. -/
import Derived.Test.YtnpbogabmnidcaaSpBox
import Derived.ChangeKeysEq
namespace Go.Proofs.Ytnpbogabmnidcaa
open Go.RowKit

theorem inB_true {n : Int} (h : inB n = true) : ¬ n < -1000000 ∧ ¬ 1000000 < n := by unfold inB at h; simp at h; omega
theorem inB_false {n : Int} (h : inB n = false) : n < -1000000 ∨ (¬ n < -1000000 ∧ 1000000 < n) := by
  have : ¬ (inB n = true) := by rw [h]; simp
  unfold inB at this; simp at this; omega
def upB (a b c d : Int) (k : Nat) : Bool := ([a, b, c, d].take k).all inB

set_option maxHeartbeats 1000000 in
theorem fits_any (a b c d : Int) (w : World) :
    Calls Try.prog 24 #[sp a b c d] w fun e w' => e = .returned (.bool (fitB a b c d)) ∧ Below w.heap.size w w' := by
  have i0 : ∀ w : World, (Instr.index 34 (sp a b c d) (.int .i64 0)).run Try.prog w = .ok (.int .i64 a) w := fun _ => by kernel_rfl
  have i1 : ∀ w : World, (Instr.index 34 (sp a b c d) (.int .i64 1)).run Try.prog w = .ok (.int .i64 b) w := fun _ => by kernel_rfl
  have i2 : ∀ w : World, (Instr.index 34 (sp a b c d) (.int .i64 2)).run Try.prog w = .ok (.int .i64 c) w := fun _ => by kernel_rfl
  have i3 : ∀ w : World, (Instr.index 34 (sp a b c d) (.int .i64 3)).run Try.prog w = .ok (.int .i64 d) w := fun _ => by kernel_rfl
  go_enter Try.func24, Try.ntmps24
  go_wp2
  go_loop [6] (fun i => ∃ k : Nat, k ≤ 4 ∧ i = .int .i64 k ∧ upB a b c d k = true) (fun i => 4 - (intOf i).toNat)
  case atStart => exact ⟨0, Nat.zero_le _, rfl, rfl⟩
  case round =>
    obtain ⟨k, hk, rfl, hg⟩ := hrel
    have hk5 : k = 0 ∨ k = 1 ∨ k = 2 ∨ k = 3 ∨ k = 4 := by omega
    rcases hk5 with rfl | rfl | rfl | rfl | rfl
    · have HG : Hid (upB a b c d 0 = true) := hg
      clear hg
      cases hv : inB a
      · have hf : fitB a b c d = false := by simp [fitB, hv]
        rcases inB_false hv with h0 | ⟨h0, h1⟩
        · clear hv
          go_wp2
          go_ret
          refine ⟨rfl, ?_⟩
          repeat' (first | exact Below.refl _ _ | refine below_dr ?_ _ | refine Below.alloc ?_ (by simp <;> omega) _ | refine Below.setCell ?_ (by simp <;> omega) _)
        · clear hv
          go_wp2
          go_ret
          refine ⟨rfl, ?_⟩
          repeat' (first | exact Below.refl _ _ | refine below_dr ?_ _ | refine Below.alloc ?_ (by simp <;> omega) _ | refine Below.setCell ?_ (by simp <;> omega) _)
      · obtain ⟨h0, h1⟩ := inB_true hv
        have HV : Hid (inB a = true) := hv
        clear hv
        go_wp2
        go_round
        case rel => exact ⟨1, by omega, by go_num, by have := HG.out; have := HV.out; simp_all [upB]⟩
        case measure => simp [intOf]
    · have HG : Hid (upB a b c d 1 = true) := hg
      clear hg
      cases hv : inB b
      · have hf : fitB a b c d = false := by simp [fitB, hv]
        rcases inB_false hv with h0 | ⟨h0, h1⟩
        · clear hv
          go_wp2
          go_ret
          refine ⟨rfl, ?_⟩
          repeat' (first | exact Below.refl _ _ | refine below_dr ?_ _ | refine Below.alloc ?_ (by simp <;> omega) _ | refine Below.setCell ?_ (by simp <;> omega) _)
        · clear hv
          go_wp2
          go_ret
          refine ⟨rfl, ?_⟩
          repeat' (first | exact Below.refl _ _ | refine below_dr ?_ _ | refine Below.alloc ?_ (by simp <;> omega) _ | refine Below.setCell ?_ (by simp <;> omega) _)
      · obtain ⟨h0, h1⟩ := inB_true hv
        have HV : Hid (inB b = true) := hv
        clear hv
        go_wp2
        go_round
        case rel => exact ⟨2, by omega, by go_num, by have := HG.out; have := HV.out; simp_all [upB]⟩
        case measure => simp [intOf]
    · have HG : Hid (upB a b c d 2 = true) := hg
      clear hg
      cases hv : inB c
      · have hf : fitB a b c d = false := by simp [fitB, hv]
        rcases inB_false hv with h0 | ⟨h0, h1⟩
        · clear hv
          go_wp2
          go_ret
          refine ⟨rfl, ?_⟩
          repeat' (first | exact Below.refl _ _ | refine below_dr ?_ _ | refine Below.alloc ?_ (by simp <;> omega) _ | refine Below.setCell ?_ (by simp <;> omega) _)
        · clear hv
          go_wp2
          go_ret
          refine ⟨rfl, ?_⟩
          repeat' (first | exact Below.refl _ _ | refine below_dr ?_ _ | refine Below.alloc ?_ (by simp <;> omega) _ | refine Below.setCell ?_ (by simp <;> omega) _)
      · obtain ⟨h0, h1⟩ := inB_true hv
        have HV : Hid (inB c = true) := hv
        clear hv
        go_wp2
        go_round
        case rel => exact ⟨3, by omega, by go_num, by have := HG.out; have := HV.out; simp_all [upB]⟩
        case measure => simp [intOf]
    · have HG : Hid (upB a b c d 3 = true) := hg
      clear hg
      cases hv : inB d
      · have hf : fitB a b c d = false := by simp [fitB, hv]
        rcases inB_false hv with h0 | ⟨h0, h1⟩
        · clear hv
          go_wp2
          go_ret
          refine ⟨rfl, ?_⟩
          repeat' (first | exact Below.refl _ _ | refine below_dr ?_ _ | refine Below.alloc ?_ (by simp <;> omega) _ | refine Below.setCell ?_ (by simp <;> omega) _)
        · clear hv
          go_wp2
          go_ret
          refine ⟨rfl, ?_⟩
          repeat' (first | exact Below.refl _ _ | refine below_dr ?_ _ | refine Below.alloc ?_ (by simp <;> omega) _ | refine Below.setCell ?_ (by simp <;> omega) _)
      · obtain ⟨h0, h1⟩ := inB_true hv
        have HV : Hid (inB d = true) := hv
        clear hv
        go_wp2
        go_round
        case rel => exact ⟨4, by omega, by go_num, by have := HG.out; have := HV.out; simp_all [upB]⟩
        case measure => simp [intOf]
    · have hf : fitB a b c d = true := by simpa [upB, fitB, Bool.and_assoc] using hg
      clear hg
      go_wp2
      go_ret
      refine ⟨rfl, ?_⟩
      repeat' (first | exact Below.refl _ _ | refine below_dr ?_ _ | refine Below.alloc ?_ (by simp <;> omega) _ | refine Below.setCell ?_ (by simp <;> omega) _)

theorem eq_quat (a b c d : Int) (w : World) : (Op.equalIn 10000 34 (sp a b c d) (sp 0 0 0 0)).run Try.prog w = .ok (noughtB a b c d) w := by
  rw [run_equalIn_array (i := (Try.prog.info? 3).getD default) w 9999 (t := 34) (e := 3) (n := 4) _ _ Try.underlying34 (by kernel_rfl)]
  have hc : Try.prog.cellsOf 3 = 1 := by kernel_rfl
  rw [hc]
  have hr : List.range 4 = [0, 1, 2, 3] := by decide
  rw [hr]
  have hp : ∀ (xs : Array Value) (k : Nat) (v : Int), xs[k]? = some (.int .i64 v) → ∀ w, (part 3 xs (k * 1)).run Try.prog w = .ok (.int .i64 v) w := by
    intro xs k v h w
    simp [part, go_sem, h]
  have he : ∀ (x y : Int) (w : World), (Op.equalIn 9999 3 (.int .i64 x) (.int .i64 y)).run Try.prog w = .ok (x == y) w := fun x y w => run_equalIn_int w 9998 3 .i64 .i64 x y Try.underlying3
  have q0 := hp #[.int .i64 a, .int .i64 b, .int .i64 c, .int .i64 d] 0 a rfl
  have q1 := hp #[.int .i64 a, .int .i64 b, .int .i64 c, .int .i64 d] 1 b rfl
  have q2 := hp #[.int .i64 a, .int .i64 b, .int .i64 c, .int .i64 d] 2 c rfl
  have q3 := hp #[.int .i64 a, .int .i64 b, .int .i64 c, .int .i64 d] 3 d rfl
  have z0 := hp #[.int .i64 0, .int .i64 0, .int .i64 0, .int .i64 0] 0 0 rfl
  have z1 := hp #[.int .i64 0, .int .i64 0, .int .i64 0, .int .i64 0] 1 0 rfl
  have z2 := hp #[.int .i64 0, .int .i64 0, .int .i64 0, .int .i64 0] 2 0 rfl
  have z3 := hp #[.int .i64 0, .int .i64 0, .int .i64 0, .int .i64 0] 3 0 rfl
  simp only [Op.eqItems, Sem.run_bind, q0, q1, q2, q3, z0, z1, z2, z3, Result.andThen_ok, he, Sem.run_ite, Sem.run_pure]
  unfold noughtB
  by_cases ha : a = 0
  · by_cases hb : b = 0
    · by_cases hc : c = 0
      · by_cases hd : d = 0 <;> simp [ha, hb, hc, hd]
      · simp [ha, hb, hc]
    · simp [ha, hb]
  · simp [ha]

set_option maxHeartbeats 1000000 in
theorem readSpin_nought (w : World) :
    Calls Try.prog 18 #[sp 0 0 0 0] w fun e w' => e = .returned (.tuple #[sp 0 0 0 0, .bool false]) ∧ Below w.heap.size w w' := by
  have hq := eq_quat 0 0 0 0
  have hn : noughtB 0 0 0 0 = true := by decide
  rw [hn] at hq
  go_enter Try.func18, Try.ntmps18
  go_wp2
  go_returns
  refine ⟨rfl, ?_⟩
  repeat' (first | exact Below.refl _ _ | refine below_dr ?_ _ | refine Below.alloc ?_ (by simp <;> omega) _ | refine Below.setCell ?_ (by simp <;> omega) _)

set_option maxHeartbeats 1000000 in
theorem readSpin_good (a b c d : Int) (w : World) (hn : noughtB a b c d = false) (hf : fitB a b c d = true) :
    Calls Try.prog 18 #[sp a b c d] w fun e w' => e = .returned (.tuple #[sp a b c d, .bool true]) ∧ Below w.heap.size w w' := by
  have hq := eq_quat a b c d
  rw [hn] at hq
  have hfit := fits_any a b c d
  rw [hf] at hfit
  go_enter Try.func18, Try.ntmps18
  go_wp2_with fail
  refine (hfit _).mono ?_
  rintro e w1 ⟨rfl, hbn⟩
  obtain ⟨-, B1, B2, hB⟩ := boxes3 hbn
  clear hbn
  obtain ⟨k0, k1, k2, k3, k4, k5, k6, k7, k8⟩ := B1
  obtain ⟨j0, j1, j2, j3, j4, -, -, -, -⟩ := B2
  go_wp2
  (try simp only [Exit.inBlock, Exit.then])
  refine ret_box_tmp (Or.inr rfl) rfl rfl (Box.set ⟨k0, k1, k2, k3, k4, k5, k6, k7, k8⟩ a b c d) rfl ?_
  exact ⟨rfl, below_four hB (by omega) _ _ _ _⟩

set_option maxHeartbeats 1000000 in
theorem readSpin_beyond (a b c d : Int) (w : World) (hn : noughtB a b c d = false) (hf : fitB a b c d = false) :
    Calls Try.prog 18 #[sp a b c d] w fun e w' => e = .returned (.tuple #[sp 0 0 0 0, .bool false]) ∧ Below w.heap.size w w' := by
  have hq := eq_quat a b c d
  rw [hn] at hq
  have hfit := fits_any a b c d
  rw [hf] at hfit
  go_enter Try.func18, Try.ntmps18
  go_wp2_with fail
  refine (hfit _).mono ?_
  rintro e w1 ⟨rfl, hbn⟩
  obtain ⟨-, B1, B2, hB⟩ := boxes3 hbn
  clear hbn
  obtain ⟨k0, k1, k2, k3, k4, k5, k6, k7, k8⟩ := B1
  obtain ⟨j0, j1, j2, j3, j4, -, -, -, -⟩ := B2
  go_wp2
  (try simp only [Exit.inBlock, Exit.then])
  refine ret_box_tmp (Or.inr rfl) rfl rfl (Box.set ⟨k0, k1, k2, k3, k4, k5, k6, k7, k8⟩ 0 0 0 0) rfl ?_
  exact ⟨rfl, below_four hB (by omega) _ _ _ _⟩

/-- what readSpin answers -/
def rd (g : Bool) (n : Int) : Int := if g then n else 0
theorem readSpin_any (a b c d : Int) (w : World) :
    Calls Try.prog 18 #[sp a b c d] w fun e w' => e = .returned (.tuple #[sp (rd (goodS a b c d) a) (rd (goodS a b c d) b) (rd (goodS a b c d) c) (rd (goodS a b c d) d), .bool (goodS a b c d)]) ∧ Below w.heap.size w w' := by
  cases hn : noughtB a b c d
  · cases hf : fitB a b c d
    · have hg : goodS a b c d = false := by simp [goodS, hf]
      rw [hg]
      exact readSpin_beyond a b c d w hn hf
    · have hg : goodS a b c d = true := by simp [goodS, hf, hn]
      rw [hg]
      exact readSpin_good a b c d w hn hf
  · have hg : goodS a b c d = false := by simp [goodS, hn]
    rw [hg]
    have h4 : a = 0 ∧ b = 0 ∧ c = 0 ∧ d = 0 := by simpa [noughtB, and_assoc] using hn
    obtain ⟨rfl, rfl, rfl, rfl⟩ := h4
    exact readSpin_nought w

set_option maxHeartbeats 1000000 in
theorem implGood_any (a b c d : Int) (w : World) :
    Calls Try.prog 9 #[sp a b c d] w fun e w' => e = .returned (.bool (goodS a b c d)) ∧ Below w.heap.size w w' := by
  go_enter Try.func9, Try.ntmps9
  go_wp2_with fail
  refine (readSpin_any a b c d _).mono ?_
  rintro e w1 ⟨rfl, hbn⟩
  obtain ⟨-, hB⟩ := boxes1 hbn
  clear hbn
  go_wp2
  go_ret
  refine ⟨rfl, ?_⟩
  repeat' (first | exact hB | refine Below.alloc ?_ (by first | exact hB.size | (simp <;> omega)) _ | refine Below.setCell ?_ (by first | exact hB.size | (simp <;> omega)) _)

set_option maxHeartbeats 1000000 in
theorem goodLaw (a b c d : Int) (w : World) :
    Calls Try.prog 3 #[sp a b c d] w fun e w' => e = .returned (.bool true) ∧ Below w.heap.size w w' := by
  go_enter Try.func3, Try.ntmps3
  go_wp2_with fail
  refine (toSpin_any a b c d _).mono ?_
  rintro e w1 ⟨rfl, hb1⟩
  obtain ⟨B0, hB⟩ := boxes1 hb1
  clear hb1
  go_wp2_with fail
  refine (specGood_any a b c d _).mono ?_
  rintro e w2 ⟨rfl, hb2⟩
  have B0 := B0.on hb2
  have hB := below_on hB hb2
  clear hb2
  obtain ⟨k0, k1, k2, k3, k4, k5, k6, k7, k8⟩ := B0
  go_wp2_with fail
  refine (toSpin_any a b c d _).mono ?_
  rintro e w3 ⟨rfl, hb3⟩
  have hB := below_on hB hb3
  clear hb3
  go_wp2_with fail
  refine (implGood_any a b c d _).mono ?_
  rintro e w4 ⟨rfl, hb4⟩
  have hB := below_on hB hb4
  clear hb4
  go_wp2
  go_ret
  exact ⟨rfl, hB⟩
end Go.Proofs.Ytnpbogabmnidcaa
