/- impl.SumReals of two floats: no goroutine is started. -/
import Derived.Test.YtlmbbolhcbccdaaRfLen
import Derived.Test.YtlmbbolhcbccdaaRfMath
import Derived.Test.YtlmbbolhcbccdaaFlGoI
import Derived.Test.YtlmbbolhcbccdaaFlFin
import Derived.Deep.QuietTactic
import Derived.BigQuiet
namespace Go.Proofs.Ytlmbbolhcbccdaa
open Go.RowKit

set_option maxHeartbeats 1000000 in
theorem half_one (b off cap : Nat) (x : Nat) (w : World) (h : w.cell? ⟨b, off, none⟩ = some (.float .f64 x)) :
    Calls Try.prog 30 #[.slice (some ⟨b, off, none⟩) 1 cap] w fun e w' => e = .returned (.float .f64 x) ∧ w' = w := by
  go_enter Try.func30, Try.ntmps30
  go_wp2
  go_ret
  exact ⟨rfl, rfl⟩

set_option maxHeartbeats 2000000 in
theorem half_two (b : Nat) (x y r : Nat) (w : World) (hx : w.cell? ⟨b, 0, none⟩ = some (.float .f64 x)) (hy : w.cell? ⟨b, 1, none⟩ = some (.float .f64 y)) (hr : floatBits .add .f64 x y = some r) :
    Calls Try.prog 30 #[.slice (some ⟨b, 0, none⟩) 2 2] w fun e w' => e = .returned (.float .f64 r) ∧ ∃ n, w' = w.drewN n := by
  have hadd : ∀ w, (binOp .add 23 (.float .f64 x) (.float .f64 y)).run Try.prog w = .ok (.float .f64 r) w := fun w => run_float_arith w .add 23 .f64 _ _ _ hr
  have c1 := fun c n => half_one b 0 c x (w.drewN n) hx
  have c2 := fun c n => half_one b 1 c y (w.drewN n) hy
  go_enter Try.func30, Try.ntmps30
  go_wp2_with (go_at_call 47; refine (len_one _).mono ?_; rintro e w' ⟨rfl, hw'⟩; have hs := hw'.symm; clear hw'; subst hs)
  go_quiet (first | (go_at_call 30; with_reducible exact Calls.quiet_of_same (c1 _ _)) | (go_at_call 30; with_reducible exact Calls.quiet_of_same (c2 _ _)))
  go_wp2
  go_ret
  exact ⟨rfl, _, rfl⟩

def sumOk (x y : Nat) : Bool := goodB x && goodB y && toldOk (ob .add (some x) (some y))
def sumV (x y : Nat) : Nat := if goodB x && goodB y then told (ob .add (some x) (some y)) else 0
theorem two_goods (x y : Nat) : goodsB (fun i => if i = 0 then x else y) 2 = (goodB x && goodB y) := by
  simp [goodsB, allG]

set_option maxHeartbeats 2000000 in
theorem sumTwo (b : Nat) (x y : Nat) (w : World) (hb : b < w.heap.size) (lx : x < 18446744073709551616) (ly : y < 18446744073709551616) (hx : w.cell? ⟨b, 0, none⟩ = some (.float .f64 x)) (hy : w.cell? ⟨b, 1, none⟩ = some (.float .f64 y)) :
    Calls Try.prog 11 #[.slice (some ⟨b, 0, none⟩) 2 2] w fun e w' => e = .returned (.tuple #[.float .f64 (sumV x y), .bool (sumOk x y)]) ∧ ∃ n, w' = w.drewN n := by
  have hF : FS w (some ⟨b, 0, none⟩) 2 (fun i => if i = 0 then x else y) := by
    refine ⟨by decide, fun i _ => by show (if i = 0 then x else y) < _; split <;> assumption, fun _ => ⟨b, 0, rfl, hb, fun i hi => ?_⟩⟩
    have : i = 0 ∨ i = 1 := by omega
    rcases this with rfl | rfl
    · exact hx
    · exact hy
  have cg := implGoods_any (some ⟨b, 0, none⟩) 2 2 _ w hF
  rw [two_goods] at cg
  clear hF
  unfold sumV sumOk
  cases hg : (goodB x && goodB y) with
  | false =>
    rw [hg] at cg
    clear hg
    go_enter Try.func11, Try.ntmps11
    go_wp2_with (go_at_call 29; refine cg.mono ?_; rintro e w' ⟨rfl, hw'⟩; have hs := hw'.symm; clear hw'; subst hs)
    go_ret2
    exact ⟨rfl, 0, rfl⟩
  | true =>
    rw [hg] at cg
    have hg' : goodB x = true ∧ goodB y = true := by simpa using hg
    obtain ⟨r, hr, lr⟩ := add_some hg'.1 hg'.2
    have e : ob .add (some x) (some y) = some r := hr
    rw [e]
    have ch := half_two b x y r w hx hy hr
    have cf := fun w => finite_any r w lr
    have e1 : told (some r) = toldV r := rfl
    have e2 : (true && toldOk (some r)) = toldT r := rfl
    rw [if_pos rfl, e1, e2]
    clear hg hg' hr lr e e1 e2 hx hy
    go_enter Try.func11, Try.ntmps11
    go_wp2_with (go_at_call 29; refine cg.mono ?_; rintro e w' ⟨rfl, hw'⟩; have hs := hw'.symm; clear hw'; subst hs)
    refine ch.mono ?_
    rintro e w1 ⟨rfl, m1⟩
    clear ch cg
    go_wp2_with (go_at_call 28; refine (cf _).mono ?_; rintro e w' ⟨rfl, hw'⟩; have hs := hw'.symm; clear hw'; subst hs)
    go_ret2
    exact ⟨rfl, m1⟩

theorem turned_any (x : Nat) (w : World) (hx : x < 18446744073709551616) :
    Calls Try.prog 12 #[.float .f64 x] w fun e w' => e = .returned (.float .f64 (plain (negF x))) ∧ w' = w := by
  have hn : ∀ w, (Op.unary .neg (.float .f64 x)).run Try.prog w = .ok (.float .f64 (negF x)) w := fun w => by rw [run_neg, negF_xor hx]
  go_enter Try.func12, Try.ntmps12
  go_wp2_with (go_at_call 31; refine (l2Plain_any _ _).mono ?_; rintro e w' ⟨rfl, rfl⟩)
  go_ret
  exact ⟨rfl, rfl⟩
end Go.Proofs.Ytlmbbolhcbccdaa
