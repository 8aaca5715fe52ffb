/- The contracts of the quotients of complex numbers and of points, and of both DivPoints functions. -/
import Derived.Test.YtgcnkecfdmafdaaPtMul
import Derived.Deep.CutRange
namespace Go.Proofs.Ytgcnkecfdmafdaa
open Go.RowKit

theorem noD_false {v : Nat} (h : noD v = false) : (FloatKind.f64.format.order v 0 == some .eq) = false ∧ nanB v = false ∧ infB v = false := by
  unfold noD at h
  simp only [Bool.or_eq_false_iff] at h
  exact h
theorem noD_true {v : Nat} (h : noD v = true) : (FloatKind.f64.format.order v 0 == some .eq) = true ∨ ((FloatKind.f64.format.order v 0 == some .eq) = false ∧ nanB v = true) ∨ ((FloatKind.f64.format.order v 0 == some .eq) = false ∧ nanB v = false ∧ infB v = true) := by
  unfold noD at h
  cases h1 : (FloatKind.f64.format.order v 0 == some .eq) <;> cases h2 : nanB v <;> simp_all

set_option maxHeartbeats 1000000 in
theorem divComplex_no (a b c d : Nat) (w : World) {oc od : Option Nat} (hc : Rep oc c) (hd : Rep od d) (hno : noDo (dD oc od) = true) :
    Calls Try.prog 41 #[cx a b, cx c d] w fun e w' => e = .returned (.tuple #[cx 0 0, .bool false]) ∧ ∃ n, w' = w.drewN n := by
  have hmul := fun v y w => run_fl (P := Try.prog) .mul (by simp) 22 v y w
  have hadd := fun v y w => run_fl (P := Try.prog) .add (by simp) 22 v y w
  have hsub := fun v y w => run_fl (P := Try.prog) .sub (by simp) 22 v y w
  have hquo := fun v y w => run_fl (P := Try.prog) .quo (by simp) 22 v y w
  go_enter Try.func41, Try.ntmps41
  go_upto_region 1 with fail
  go_cut [6] from 9 to 19 (fun s6 wx => ∃ v n, s6 = .float .f64 v ∧ Rep (dD oc od) v ∧ wx = w.drewN n)
  case first =>
    go_wp2_with fail
    go_meet
    case rel => exact ⟨_, _, rfl, rep_ob (rep_ob hc hc _) (rep_ob hd hd _) _, rfl⟩
  case rest =>
    obtain ⟨v, n, rfl, hrv, hwc⟩ := hcut
    rw [← noD_rep hrv] at hno
    have hv := hrv.1
    have HW : Hid (wc = w.drewN n) := hwc
    clear hwc
    clear hmul hadd hsub hquo hrv hc hd
    rcases noD_true hno with h1 | ⟨h1, h2⟩ | ⟨h1, h2, h3⟩
    all_goals
      clear hno
      go_wp2_with (first | (go_at_call 57; refine (isNaN_any v _).mono ?_; rintro e w' ⟨rfl, hw'⟩; have hs' := hw'.symm; clear hw'; subst hs') | (go_at_call 58; refine (isInf_any v _ hv).mono ?_; rintro e w' ⟨rfl, hw'⟩; have hs' := hw'.symm; clear hw'; subst hs'))
      go_ret2
      exact ⟨rfl, n, HW.out⟩

set_option maxHeartbeats 1000000 in
theorem divComplex_yes (a b c d : Nat) (w : World) {oa ob' oc od : Option Nat} (ha : Rep oa a) (hb : Rep ob' b) (hc : Rep oc c) (hd : Rep od d) (hno : noDo (dD oc od) = false) :
    Calls Try.prog 41 #[cx a b, cx c d] w fun e w' => ∃ r i, e = .returned (.tuple #[cx r i, .bool true]) ∧ Rep (dR oa ob' oc od) r ∧ Rep (dI oa ob' oc od) i ∧ ∃ n, w' = w.drewN n := by
  have hmul := fun v y w => run_fl (P := Try.prog) .mul (by simp) 22 v y w
  have hadd := fun v y w => run_fl (P := Try.prog) .add (by simp) 22 v y w
  have hsub := fun v y w => run_fl (P := Try.prog) .sub (by simp) 22 v y w
  have hquo := fun v y w => run_fl (P := Try.prog) .quo (by simp) 22 v y w
  go_enter Try.func41, Try.ntmps41
  go_upto_region 1 with fail
  go_cut [6] from 9 to 19 (fun s6 wx => ∃ v n, s6 = .float .f64 v ∧ Rep (dD oc od) v ∧ wx = w.drewN n)
  case first =>
    go_wp2_with fail
    go_meet
    case rel => exact ⟨_, _, rfl, rep_ob (rep_ob hc hc _) (rep_ob hd hd _) _, rfl⟩
  case rest =>
    obtain ⟨v, n, rfl, hrv, hwc⟩ := hcut
    rw [← noD_rep hrv] at hno
    have hv := hrv.1
    have HW : Hid (wc = w.drewN n) := hwc
    clear hwc
    obtain ⟨h1, h2, h3⟩ := noD_false hno
    clear hno
    go_wp2_with (first | (go_at_call 57; refine (isNaN_any v _).mono ?_; rintro e w' ⟨rfl, hw'⟩; have hs' := hw'.symm; clear hw'; subst hs') | (go_at_call 58; refine (isInf_any v _ hv).mono ?_; rintro e w' ⟨rfl, hw'⟩; have hs' := hw'.symm; clear hw'; subst hs'))
    go_ret2
    exact ⟨_, _, rfl, rep_ob (rep_ob (rep_ob ha hc _) (rep_ob hb hd _) _) hrv _, rep_ob (rep_ob (rep_ob hb hc _) (rep_ob ha hd _) _) hrv _, _, by rw [HW.out]; simp only [World.drewN_drewN]; rfl⟩

set_option maxHeartbeats 1000000 in
theorem l3Div_any (a b c d : Nat) (w : World) {oa ob' oc od : Option Nat} (ha : Rep oa a) (hb : Rep ob' b) (hc : Rep oc c) (hd : Rep od d) :
    Calls Try.prog 40 #[pt a b, pt c d] w fun e w' => ∃ r i, e = .returned (pt r i) ∧ Rep (dR oa ob' oc od) r ∧ Rep (dI oa ob' oc od) i ∧ Below w.heap.size w w' := by
  have hmul := fun v y w => run_fl (P := Try.prog) .mul (by simp) 22 v y w
  have hadd := fun v y w => run_fl (P := Try.prog) .add (by simp) 22 v y w
  have hsub := fun v y w => run_fl (P := Try.prog) .sub (by simp) 22 v y w
  have hquo := fun v y w => run_fl (P := Try.prog) .quo (by simp) 22 v y w
  go_enter Try.func40, Try.ntmps40
  go_wp2
  go_returns
  refine ⟨_, _, rfl, rep_ob (rep_ob (rep_ob ha hc _) (rep_ob hb hd _) _) (rep_ob (rep_ob hc hc _) (rep_ob hd hd _) _) _, rep_ob (rep_ob (rep_ob hb hc _) (rep_ob ha hd _) _) (rep_ob (rep_ob hc hc _) (rep_ob hd hd _) _) _, ?_⟩
  repeat' (first | exact Below.refl _ _ | refine below_dr ?_ _ | refine Below.alloc ?_ (by simp <;> omega) _ | refine Below.setCell ?_ (by simp <;> omega) _)
end Go.Proofs.Ytgcnkecfdmafdaa
