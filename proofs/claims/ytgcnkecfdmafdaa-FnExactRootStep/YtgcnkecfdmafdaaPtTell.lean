/- The contracts of: is a point good, what is told of a point, are two points the same. -/
import Derived.Test.YtgcnkecfdmafdaaPtBase
namespace Go.Proofs.Ytgcnkecfdmafdaa
open Go.RowKit

def tV (v u : Nat) : Nat := if toldT v && toldT u then toldV v else 0
def tW (v u : Nat) : Nat := if toldT v && toldT u then toldV u else 0

set_option maxHeartbeats 400000 in
theorem specGoodPt_any (x y : Nat) (w : World) (hx : x < 18446744073709551616) (hy : y < 18446744073709551616) :
    Calls Try.prog 31 #[pt x y] w fun e w' => e = .returned (.bool (goodB x && goodB y)) ∧ Below w.heap.size w w' := by
  by_cases hg : goodB x = true
  · rw [hg]
    go_enter Try.func31, Try.ntmps31
    go_wp2_with (first | (go_at_call_of 53 x; refine (specGood_any x _ hx).mono ?_; rintro e w' ⟨rfl, rfl⟩) | (go_at_call 53; refine (specGood_any y _ hy).mono ?_; rintro e w' ⟨rfl, rfl⟩))
    go_ret
    exact ⟨rfl, (Below.refl _ _).alloc (Nat.le_refl _) _⟩
  · have hg' : goodB x = false := by simpa using hg
    rw [hg']
    go_enter Try.func31, Try.ntmps31
    go_wp2_with (go_at_call 53; refine (specGood_any x _ hx).mono ?_; rintro e w' ⟨rfl, rfl⟩)
    go_ret
    exact ⟨rfl, (Below.refl _ _).alloc (Nat.le_refl _) _⟩

set_option maxHeartbeats 400000 in
theorem implGoodPt_any (x y : Nat) (w : World) (hx : x < 18446744073709551616) (hy : y < 18446744073709551616) :
    Calls Try.prog 34 #[pt x y] w fun e w' => e = .returned (.bool (goodB x && goodB y)) ∧ Below w.heap.size w w' := by
  by_cases hg : goodB x = true
  · rw [hg]
    go_enter Try.func34, Try.ntmps34
    go_wp2_with (first | (go_at_call_of 55 x; refine (implGood_any x _ hx).mono ?_; rintro e w' ⟨rfl, rfl⟩) | (go_at_call 55; refine (implGood_any y _ hy).mono ?_; rintro e w' ⟨rfl, rfl⟩))
    go_ret
    exact ⟨rfl, (Below.refl _ _).alloc (Nat.le_refl _) _⟩
  · have hg' : goodB x = false := by simpa using hg
    rw [hg']
    go_enter Try.func34, Try.ntmps34
    go_wp2_with (go_at_call 55; refine (implGood_any x _ hx).mono ?_; rintro e w' ⟨rfl, rfl⟩)
    go_ret
    exact ⟨rfl, (Below.refl _ _).alloc (Nat.le_refl _) _⟩

set_option maxHeartbeats 400000 in
theorem tellPoint_any (v u : Nat) (w : World) (hv : v < 18446744073709551616) (hu : u < 18446744073709551616) :
    Calls Try.prog 35 #[cx v u] w fun e w' => e = .returned (.tuple #[pt (tV v u) (tW v u), .bool (toldT v && toldT u)]) ∧ Below w.heap.size w w' := by
  unfold tV tW
  cases h1 : toldT v <;> cases h2 : toldT u <;> simp only [Bool.and_true, Bool.and_false, if_true, if_false, Bool.false_eq_true]
  all_goals
    go_enter Try.func35, Try.ntmps35
    go_wp2_with (first | (go_at_call_of 56 v; refine (finite_any v _ hv).mono ?_; rintro e w' ⟨rfl, rfl⟩) | (go_at_call 56; refine (finite_any u _ hu).mono ?_; rintro e w' ⟨rfl, rfl⟩))
    go_returns
    refine ⟨rfl, ?_⟩
    repeat' (first | exact Below.refl _ _ | refine below_dr ?_ _ | refine Below.alloc ?_ (by simp <;> omega) _ | refine Below.setCell ?_ (by simp <;> omega) _)

set_option maxHeartbeats 400000 in
theorem l3Told_no (v u : Nat) (w : World) (hv : v < 18446744073709551616) (hu : u < 18446744073709551616) (hf : (toldT v && toldT u) = false) :
    Calls Try.prog 32 #[pt v u] w fun e w' => e = .returned (.tuple #[pt 0 0, .bool false]) ∧ Below w.heap.size w w' := by
  have hb : ∀ x, (!nanB x && !infB x) = toldT x := fun x => by unfold toldT; cases nanB x <;> rfl
  cases h1 : toldT v with
  | false =>
    have e1 : (!nanB v && !infB v) = false := (hb v).trans h1
    go_enter Try.func32, Try.ntmps32
    go_wp2_with (go_at_call 39; refine (l2Finite_any v _ hv).mono ?_; rintro e w' ⟨rfl, rfl⟩)
    go_returns
    refine ⟨rfl, ?_⟩
    repeat' (first | exact Below.refl _ _ | refine below_dr ?_ _ | refine Below.alloc ?_ (by simp <;> omega) _ | refine Below.setCell ?_ (by simp <;> omega) _)
  | true =>
    have e1 : (!nanB v && !infB v) = true := (hb v).trans h1
    have e2 : (!nanB u && !infB u) = false := (hb u).trans (by rw [h1] at hf; simpa using hf)
    clear hb hf h1
    go_enter Try.func32, Try.ntmps32
    go_wp2_with (first | (go_at_call_of 39 v; refine (l2Finite_any v _ hv).mono ?_; rintro e w' ⟨rfl, rfl⟩) | (go_at_call 39; refine (l2Finite_any u _ hu).mono ?_; rintro e w' ⟨rfl, rfl⟩))
    go_returns
    refine ⟨rfl, ?_⟩
    repeat' (first | exact Below.refl _ _ | refine below_dr ?_ _ | refine Below.alloc ?_ (by simp <;> omega) _ | refine Below.setCell ?_ (by simp <;> omega) _)

set_option maxHeartbeats 400000 in
theorem l3Told_yes (v u : Nat) (w : World) (hv : v < 18446744073709551616) (hu : u < 18446744073709551616) (h1 : toldT v = true) (h2 : toldT u = true) :
    Calls Try.prog 32 #[pt v u] w fun e w' => e = .returned (.tuple #[pt (plain v) (plain u), .bool true]) ∧ Below w.heap.size w w' := by
  have hb : ∀ x, (!nanB x && !infB x) = toldT x := fun x => by unfold toldT; cases nanB x <;> rfl
  have e1 : (!nanB v && !infB v) = true := (hb v).trans h1
  have e2 : (!nanB u && !infB u) = true := (hb u).trans h2
  clear hb h1 h2
  go_enter Try.func32, Try.ntmps32
  go_wp2_with (first | (go_at_call_of 39 v; refine (l2Finite_any v _ hv).mono ?_; rintro e w' ⟨rfl, rfl⟩) | (go_at_call 39; refine (l2Finite_any u _ hu).mono ?_; rintro e w' ⟨rfl, rfl⟩))
  go_region_held3 (fun w' => w'.cell? ⟨w.heap.size, 0, none⟩ = some (.float .f64 v) ∧ w'.cell? ⟨w.heap.size, 1, none⟩ = some (.float .f64 u)) (go_keep) (first | (go_at_call_of 54 v; refine (l2Plain_any v _).mono ?_; rintro e w' ⟨rfl, rfl⟩) | (go_at_call 54; refine (l2Plain_any u _).mono ?_; rintro e w' ⟨rfl, rfl⟩))
  all_goals
    go_wp2
    go_returns
    refine ⟨rfl, ?_⟩
    repeat' (first | exact Below.refl _ _ | refine below_dr ?_ _ | refine Below.alloc ?_ (by simp <;> omega) _ | refine Below.setCell ?_ (by simp <;> omega) _)

theorem l3Told_any (v u : Nat) (w : World) (hv : v < 18446744073709551616) (hu : u < 18446744073709551616) :
    Calls Try.prog 32 #[pt v u] w fun e w' => e = .returned (.tuple #[pt (tV v u) (tW v u), .bool (toldT v && toldT u)]) ∧ Below w.heap.size w w' := by
  unfold tV tW
  cases hf : toldT v && toldT u with
  | false => simpa using l3Told_no v u w hv hu hf
  | true =>
    have h1 : toldT v = true := by cases e : toldT v <;> simp_all
    have h2 : toldT u = true := by cases e : toldT u <;> simp_all
    have p1 : toldV v = plain v := by unfold toldV; unfold toldT at h1; simp at h1; simp [h1]
    have p2 : toldV u = plain u := by unfold toldV; unfold toldT at h2; simp at h2; simp [h2]
    simpa [p1, p2] using l3Told_yes v u w hv hu h1 h2

set_option maxHeartbeats 400000 in
theorem eqPoint_any (x y : Nat) (w : World) (hx : x < 18446744073709551616) (hy : y < 18446744073709551616) :
    Calls Try.prog 12 #[pt x y, pt x y] w fun e w' => e = .returned (.bool true) ∧ Below w.heap.size w w' := by
  go_enter Try.func12, Try.ntmps12
  go_wp2_with (first | (go_at_call_of 38 x; refine (same_any x _ hx).mono ?_; rintro e w' ⟨rfl, hw'⟩; have hs := hw'.symm; clear hw'; subst hs) | (go_at_call 38; refine (same_any y _ hy).mono ?_; rintro e w' ⟨rfl, hw'⟩; have hs := hw'.symm; clear hw'; subst hs))
  go_ret
  refine ⟨rfl, ?_⟩
  repeat' (first | exact Below.refl _ _ | refine below_dr ?_ _ | refine Below.alloc ?_ (by simp <;> omega) _ | refine Below.setCell ?_ (by simp <;> omega) _)
end Go.Proofs.Ytgcnkecfdmafdaa
