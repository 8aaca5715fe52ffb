/- The contracts of the functions on one point or two: copies, products, what is told of them. -/
import Derived.Test.YtgcnkecfdmafdaaFlList
import Derived.Test.YtgcnkecfdmafdaaPtMath
import Derived.Deep.RegionHeld3
import Derived.Below
import Derived.Handy
namespace Go.Proofs.Ytgcnkecfdmafdaa
open Go.RowKit

/-- a point as a value, and a complex number -/
abbrev pt (x y : Nat) : Value := .agg #[.float .f64 x, .float .f64 y]
abbrev cx (x y : Nat) : Value := .complex .f64 x y

theorem below_dr {B : Nat} {a w : World} (h : Below B a w) (n : Nat) : Below B a (w.drewN n) := ⟨h.os, h.tape, h.output, h.size, h.block⟩

set_option maxHeartbeats 400000 in
theorem complexOf_any (x y : Nat) (w : World) :
    Calls Try.prog 37 #[pt x y] w fun e w' => e = .returned (cx x y) ∧ Below w.heap.size w w' := by
  go_enter Try.func37, Try.ntmps37
  go_wp2
  go_ret
  exact ⟨rfl, (Below.refl _ _).alloc (Nat.le_refl _) _⟩

set_option maxHeartbeats 400000 in
theorem mulComplex_any (a b c d : Nat) (w : World) :
    Calls Try.prog 36 #[cx a b, cx c d] w fun e w' => ∃ r i, e = .returned (cx r i) ∧ (∀ oa ob' oc od, Rep oa a → Rep ob' b → Rep oc c → Rep od d → Rep (mR oa ob' oc od) r ∧ Rep (mI oa ob' oc od) i) ∧ ∃ n, w' = w.drewN n := by
  have hmul := fun v y w => run_fl (P := Try.prog) .mul (by simp) 22 v y w
  have hadd := fun v y w => run_fl (P := Try.prog) .add (by simp) 22 v y w
  have hsub := fun v y w => run_fl (P := Try.prog) .sub (by simp) 22 v y w
  go_enter Try.func36, Try.ntmps36
  go_wp2
  go_ret
  exact ⟨_, _, rfl, fun oa ob' oc od ha hb hc hd => ⟨rep_ob (rep_ob ha hc _) (rep_ob hb hd _) _, rep_ob (rep_ob ha hd _) (rep_ob hb hc _) _⟩, _, rfl⟩

set_option maxHeartbeats 400000 in
theorem l3Mul_any (a b c d : Nat) (w : World) :
    Calls Try.prog 33 #[pt a b, pt c d] w fun e w' => ∃ r i, e = .returned (pt r i) ∧ (∀ oa ob' oc od, Rep oa a → Rep ob' b → Rep oc c → Rep od d → Rep (mR oa ob' oc od) r ∧ Rep (mI oa ob' oc od) i) ∧ Below w.heap.size w w' := by
  have hmul := fun v y w => run_fl (P := Try.prog) .mul (by simp) 22 v y w
  have hadd := fun v y w => run_fl (P := Try.prog) .add (by simp) 22 v y w
  have hsub := fun v y w => run_fl (P := Try.prog) .sub (by simp) 22 v y w
  go_enter Try.func33, Try.ntmps33
  go_wp2
  go_returns
  refine ⟨_, _, rfl, fun oa ob' oc od ha hb hc hd => ⟨rep_ob (rep_ob ha hc _) (rep_ob hb hd _) _, rep_ob (rep_ob ha hd _) (rep_ob hb hc _) _⟩, ?_⟩
  repeat' (first | exact Below.refl _ _ | refine below_dr ?_ _ | refine Below.alloc ?_ (by simp <;> omega) _ | refine Below.setCell ?_ (by simp <;> omega) _)

set_option maxHeartbeats 400000 in
theorem toPoint_any (x y : Nat) (w : World) :
    Calls Try.prog 10 #[pt x y] w fun e w' => e = .returned (pt x y) ∧ Below w.heap.size w w' := by
  go_enter Try.func10, Try.ntmps10
  go_wp2
  go_returns
  refine ⟨rfl, ?_⟩
  repeat' (first | exact Below.refl _ _ | refine below_dr ?_ _ | refine Below.alloc ?_ (by simp <;> omega) _ | refine Below.setCell ?_ (by simp <;> omega) _)
end Go.Proofs.Ytgcnkecfdmafdaa
