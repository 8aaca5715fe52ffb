/- impl.realCost's good, pullAndShare and round. -/
import Derived.Test.YtlmbbolhcbccdaaCoBox
import Derived.Test.YtlmbbolhcbccdaaCoRoundS
import Derived.Deep.Cut
import Derived.OwnWalk
namespace Go.Proofs.Ytlmbbolhcbccdaa
open Go.RowKit

set_option maxHeartbeats 1000000 in
theorem askI_any (a b q r : Nat) (w : World) (ha : a < 18446744073709551616) (hb : b < 18446744073709551616) (hq : q < 18446744073709551616) (hr : r < 18446744073709551616) :
    Calls Try.prog 23 #[rc a b q r] w fun e w' => e = .returned (.bool (askB a b q r)) ∧ Below w.heap.size w w' := by
  have ca := fun w => implGood_any a w ha
  have cb := fun w => implGood_any b w hb
  have cq := fun w => implGood_any q w hq
  have cr := fun w => implGood_any r w hr
  have hz := zero_ord_ne b
  have h1 := pos_ord q
  have h2 := pos_ord r
  unfold askB g4
  generalize goodB a = ga at *
  generalize goodB b = gb at *
  generalize goodB q = gq at *
  generalize goodB r = gr at *
  generalize zeroB b = zb at *
  generalize posB q = pq at *
  generalize posB r = pr at *
  clear ha hb hq hr
  cases ga
  · go_enter Try.func23, Try.ntmps23
    go_wp2_with (first | (go_at_call 27; with_reducible refine (ca _).mono ?_; rintro e w' ⟨rfl, hw'⟩; have hs := hw'.symm; clear hw'; subst hs) | (go_at_call 27; with_reducible refine (cb _).mono ?_; rintro e w' ⟨rfl, hw'⟩; have hs := hw'.symm; clear hw'; subst hs) | (go_at_call 27; with_reducible refine (cq _).mono ?_; rintro e w' ⟨rfl, hw'⟩; have hs := hw'.symm; clear hw'; subst hs) | (go_at_call 27; with_reducible refine (cr _).mono ?_; rintro e w' ⟨rfl, hw'⟩; have hs := hw'.symm; clear hw'; subst hs))
    go_ret
    exact ⟨rfl, (Below.refl _ _).alloc (Nat.le_refl _) _⟩
  cases gb
  · go_enter Try.func23, Try.ntmps23
    go_wp2_with (first | (go_at_call 27; with_reducible refine (ca _).mono ?_; rintro e w' ⟨rfl, hw'⟩; have hs := hw'.symm; clear hw'; subst hs) | (go_at_call 27; with_reducible refine (cb _).mono ?_; rintro e w' ⟨rfl, hw'⟩; have hs := hw'.symm; clear hw'; subst hs) | (go_at_call 27; with_reducible refine (cq _).mono ?_; rintro e w' ⟨rfl, hw'⟩; have hs := hw'.symm; clear hw'; subst hs) | (go_at_call 27; with_reducible refine (cr _).mono ?_; rintro e w' ⟨rfl, hw'⟩; have hs := hw'.symm; clear hw'; subst hs))
    go_ret
    exact ⟨rfl, (Below.refl _ _).alloc (Nat.le_refl _) _⟩
  cases gq
  · go_enter Try.func23, Try.ntmps23
    go_wp2_with (first | (go_at_call 27; with_reducible refine (ca _).mono ?_; rintro e w' ⟨rfl, hw'⟩; have hs := hw'.symm; clear hw'; subst hs) | (go_at_call 27; with_reducible refine (cb _).mono ?_; rintro e w' ⟨rfl, hw'⟩; have hs := hw'.symm; clear hw'; subst hs) | (go_at_call 27; with_reducible refine (cq _).mono ?_; rintro e w' ⟨rfl, hw'⟩; have hs := hw'.symm; clear hw'; subst hs) | (go_at_call 27; with_reducible refine (cr _).mono ?_; rintro e w' ⟨rfl, hw'⟩; have hs := hw'.symm; clear hw'; subst hs))
    go_ret
    exact ⟨rfl, (Below.refl _ _).alloc (Nat.le_refl _) _⟩
  cases gr
  · go_enter Try.func23, Try.ntmps23
    go_wp2_with (first | (go_at_call 27; with_reducible refine (ca _).mono ?_; rintro e w' ⟨rfl, hw'⟩; have hs := hw'.symm; clear hw'; subst hs) | (go_at_call 27; with_reducible refine (cb _).mono ?_; rintro e w' ⟨rfl, hw'⟩; have hs := hw'.symm; clear hw'; subst hs) | (go_at_call 27; with_reducible refine (cq _).mono ?_; rintro e w' ⟨rfl, hw'⟩; have hs := hw'.symm; clear hw'; subst hs) | (go_at_call 27; with_reducible refine (cr _).mono ?_; rintro e w' ⟨rfl, hw'⟩; have hs := hw'.symm; clear hw'; subst hs))
    go_ret
    exact ⟨rfl, (Below.refl _ _).alloc (Nat.le_refl _) _⟩
  cases zb
  rotate_left
  · go_enter Try.func23, Try.ntmps23
    go_wp2_with (first | (go_at_call 27; with_reducible refine (ca _).mono ?_; rintro e w' ⟨rfl, hw'⟩; have hs := hw'.symm; clear hw'; subst hs) | (go_at_call 27; with_reducible refine (cb _).mono ?_; rintro e w' ⟨rfl, hw'⟩; have hs := hw'.symm; clear hw'; subst hs) | (go_at_call 27; with_reducible refine (cq _).mono ?_; rintro e w' ⟨rfl, hw'⟩; have hs := hw'.symm; clear hw'; subst hs) | (go_at_call 27; with_reducible refine (cr _).mono ?_; rintro e w' ⟨rfl, hw'⟩; have hs := hw'.symm; clear hw'; subst hs))
    go_ret
    exact ⟨rfl, (Below.refl _ _).alloc (Nat.le_refl _) _⟩
  cases pq
  · go_enter Try.func23, Try.ntmps23
    go_wp2_with (first | (go_at_call 27; with_reducible refine (ca _).mono ?_; rintro e w' ⟨rfl, hw'⟩; have hs := hw'.symm; clear hw'; subst hs) | (go_at_call 27; with_reducible refine (cb _).mono ?_; rintro e w' ⟨rfl, hw'⟩; have hs := hw'.symm; clear hw'; subst hs) | (go_at_call 27; with_reducible refine (cq _).mono ?_; rintro e w' ⟨rfl, hw'⟩; have hs := hw'.symm; clear hw'; subst hs) | (go_at_call 27; with_reducible refine (cr _).mono ?_; rintro e w' ⟨rfl, hw'⟩; have hs := hw'.symm; clear hw'; subst hs))
    go_ret
    exact ⟨rfl, (Below.refl _ _).alloc (Nat.le_refl _) _⟩
  cases pr
  · go_enter Try.func23, Try.ntmps23
    go_wp2_with (first | (go_at_call 27; with_reducible refine (ca _).mono ?_; rintro e w' ⟨rfl, hw'⟩; have hs := hw'.symm; clear hw'; subst hs) | (go_at_call 27; with_reducible refine (cb _).mono ?_; rintro e w' ⟨rfl, hw'⟩; have hs := hw'.symm; clear hw'; subst hs) | (go_at_call 27; with_reducible refine (cq _).mono ?_; rintro e w' ⟨rfl, hw'⟩; have hs := hw'.symm; clear hw'; subst hs) | (go_at_call 27; with_reducible refine (cr _).mono ?_; rintro e w' ⟨rfl, hw'⟩; have hs := hw'.symm; clear hw'; subst hs))
    go_ret
    exact ⟨rfl, (Below.refl _ _).alloc (Nat.le_refl _) _⟩
  go_enter Try.func23, Try.ntmps23
  go_wp2_with (first | (go_at_call 27; with_reducible refine (ca _).mono ?_; rintro e w' ⟨rfl, hw'⟩; have hs := hw'.symm; clear hw'; subst hs) | (go_at_call 27; with_reducible refine (cb _).mono ?_; rintro e w' ⟨rfl, hw'⟩; have hs := hw'.symm; clear hw'; subst hs) | (go_at_call 27; with_reducible refine (cq _).mono ?_; rintro e w' ⟨rfl, hw'⟩; have hs := hw'.symm; clear hw'; subst hs) | (go_at_call 27; with_reducible refine (cr _).mono ?_; rintro e w' ⟨rfl, hw'⟩; have hs := hw'.symm; clear hw'; subst hs))
  go_ret
  exact ⟨rfl, (Below.refl _ _).alloc (Nat.le_refl _) _⟩

theorem rep_told {o : Option Nat} {v : Nat} (h : Rep o v) : Rep (some (told o)) (toldV v) := by
  rw [(told_rep h).1]; exact rep_of (told_lt h)

set_option maxHeartbeats 2000000 in
theorem pull_any (a b q r p : Nat) (w : World) (ha : a < 18446744073709551616) (hb : b < 18446744073709551616) (hq : q < 18446744073709551616) (hr : r < 18446744073709551616) (hp : p < 18446744073709551616) :
    Calls Try.prog 35 #[rc a b q r, .float .f64 p] w fun e w' => ∃ vn vd, e = .returned (.tuple #[.float .f64 vn, .float .f64 vd, .bool (toldOk (dO b r p))]) ∧ Rep (nO a b p) vn ∧ Rep (dP b r p) vd ∧ Below w.heap.size w w' := by
  have hra := rep_of ha
  have hrb := rep_of hb
  have hrq := rep_of hq
  have hrr := rep_of hr
  have hrp := rep_of hp
  clear ha hb hq hr hp
  go_enter Try.func35, Try.ntmps35
  go_upto_region 1 with fail
  have B0 := box_new w a b q r 48
  have L0 : Below w.heap.size w (w.alloc (four a b q r 48)) := (Below.refl _ _).alloc (Nat.le_refl _) _
  generalize w.alloc (four a b q r 48) = w0 at *
  obtain ⟨v1, w1, k1, r1, m1⟩ := run_rep (P := Try.prog) .mul (by simp) hrb hrb 23 w0
  obtain ⟨v2, w2, k2, r2, m2⟩ := run_rep (P := Try.prog) .mul (by simp) r1 hrp 23 w1
  obtain ⟨v3, w3, k3, r3, m3⟩ := run_rep (P := Try.prog) .add (by simp) hrr r2 23 w2
  obtain ⟨v4, w4, k4, r4, m4⟩ := run_rep (P := Try.prog) .mul (by simp) hra hrb 23 w3
  obtain ⟨v5, w5, k5, r5, m5⟩ := run_rep (P := Try.prog) .mul (by simp) r4 hrp 23 w4
  have M3 := more_drew (more_drew m1 m2) m3
  have L3 := below_drew L0 M3
  have B3 : Box w3 w.heap.size a b q r := B0.on (below_drew (Below.refl _ _) M3)
  have L5 := below_drew L3 (more_drew m4 m5)
  obtain ⟨b0, p0, p1, p2, p3, -, -, -, -⟩ := B0
  obtain ⟨b1, q0, q1, q2, q3, -, -, -, -⟩ := B3
  clear hra hrb hrq hrr hrp r1 r2 r4 m1 m2 m3 m4 m5 M3 L3 L0
  have e3 : Rep (dO b r p) v3 := r3
  have e5 : Rep (nO a b p) v5 := r5
  clear r3 r5
  have c3 := fun w => finite_any v3 w e3.1
  rw [(told_rep e3).2] at c3
  go_wp2_with (first | (go_at_call 28; with_reducible refine (c3 _).mono ?_; rintro e w' ⟨rfl, hw'⟩; have hs := hw'.symm; clear hw'; subst hs))
  go_ret3
  exact ⟨v5, toldV v3, rfl, e5, rep_told e3, L5⟩

set_option maxHeartbeats 2000000 in
theorem roundI_any (a b q r p : Nat) (w : World) (ha : a < 18446744073709551616) (hb : b < 18446744073709551616) (hq : q < 18446744073709551616) (hr : r < 18446744073709551616) (hp : p < 18446744073709551616) :
    Calls Try.prog 24 #[rc a b q r, .float .f64 p] w fun e w' => e = .returned (.tuple #[.float .f64 (rdV a b q r p), .bool (rdOk a b q r p)]) ∧ Below w.heap.size w w' := by
  have cp := fun w => pull_any a b q r p w ha hb hq hr hp
  have hra := rep_of ha
  have hrb := rep_of hb
  have hrq := rep_of hq
  have hrr := rep_of hr
  have hrp := rep_of hp
  clear ha hb hq hr hp
  cases hd : toldOk (dO b r p) with
  | false =>
    rw [(round_none hd).1, (round_none hd).2]
    simp only [hd] at cp
    clear hd
    go_enter Try.func24, Try.ntmps24
    go_upto_region 1 with fail
    have B0 := box_new w a b q r 48
    have L0 : Below w.heap.size w (w.alloc (four a b q r 48)) := (Below.refl _ _).alloc (Nat.le_refl _) _
    generalize w.alloc (four a b q r 48) = w0 at *
    have B0' := B0
    obtain ⟨b0, p0, p1, p2, p3, -, -, -, -⟩ := B0'
    go_wp2_with fail
    refine (cp w0).mono ?_
    rintro e w1 ⟨vn, vd, rfl, en, ed, hb1⟩
    have B1 := B0.on hb1
    have L1 := L0.trans (hb1.mono L0.size)
    clear cp B0 L0 b0 p0 p1 p2 p3 hb1
    go_wp2
    go_ret2
    exact ⟨rfl, L1⟩
  | true =>
    rw [← (round_some hd).1, ← (round_some hd).2]
    simp only [hd] at cp
    clear hd
    go_enter Try.func24, Try.ntmps24
    go_upto_region 1 with fail
    have B0 := box_new w a b q r 48
    have L0 : Below w.heap.size w (w.alloc (four a b q r 48)) := (Below.refl _ _).alloc (Nat.le_refl _) _
    generalize w.alloc (four a b q r 48) = w0 at *
    have B0' := B0
    obtain ⟨b0, p0, p1, p2, p3, -, -, -, -⟩ := B0'
    go_wp2_with fail
    refine (cp w0).mono ?_
    rintro e w1 ⟨vn, vd, rfl, en, ed, hb1⟩
    have B1 := B0.on hb1
    have L1 := L0.trans (hb1.mono L0.size)
    clear cp B0 L0 b0 p0 p1 p2 p3 hb1
    obtain ⟨b1, q0, q1, q2, q3, -, -, -, -⟩ := B1
    obtain ⟨v2, w2, k2, r2, m2⟩ := run_rep (P := Try.prog) .mul (by simp) hra hra 23 w1
    obtain ⟨v3, w3, k3, r3, m3⟩ := run_rep (P := Try.prog) .mul (by simp) r2 hrp 23 w2
    obtain ⟨v4, w4, k4, r4, m4⟩ := run_rep (P := Try.prog) .add (by simp) hrq r3 23 w3
    obtain ⟨v5, w5, k5, r5, m5⟩ := run_rep (P := Try.prog) .mul (by simp) en en 23 w4
    obtain ⟨v6, w6, k6, r6, m6⟩ := run_rep (P := Try.prog) .quo (by simp) r5 ed 23 w5
    obtain ⟨v7, w7, k7, r7, m7⟩ := run_rep (P := Try.prog) .sub (by simp) r4 r6 23 w6
    clear hra hrb hrq hrr hrp r2 r3 r4 r5 r6
    have e7 : Rep (xP a b q r p) v7 := r7
    have L7 := below_drew L1 (more_drew (more_drew (more_drew (more_drew (more_drew m2 m3) m4) m5) m6) m7)
    clear m2 m3 m4 m5 m6 m7 r7 L1
    have c7 := fun w => finite_any v7 w e7.1
    rw [(told_rep e7).1, (told_rep e7).2] at c7
    clear en ed e7
    go_wp2_with (first | (go_at_call 28; with_reducible refine (c7 _).mono ?_; rintro e w' ⟨rfl, hw'⟩; have hs := hw'.symm; clear hw'; subst hs))
    go_ret2
    exact ⟨rfl, L7⟩
end Go.Proofs.Ytlmbbolhcbccdaa
