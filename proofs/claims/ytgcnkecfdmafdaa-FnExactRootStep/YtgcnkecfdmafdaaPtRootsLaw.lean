/- The walk of the law on RootsOf. -/
import Derived.Test.YtgcnkecfdmafdaaPtRoots
import Derived.Test.YtgcnkecfdmafdaaPtCopyR
namespace Go.Proofs.Ytgcnkecfdmafdaa
open Go.RowKit

theorem row_only {w w' : World} {b b' n : Nat} {t : TypeId} {f : Nat → Value} (h : w.rowIs b t n f) (k : Only b' w w') (hn : b ≠ b') : w'.rowIs b t n f := h.of_block (k.block b hn)

set_option maxHeartbeats 4000000 in
theorem rootsLaw_some (a : Option Addr) (len cap : Nat) (f : Nat → Nat) (s : Int) (w : World) (hL : len ≤ 1048576) (h : FS w a len f) (z : (Nat → Nat) × (Nat → Nat)) (hz : rootsA f len s = some z) (hl : len ≤ 11) :
    Calls Try.prog 8 #[.slice a len cap, .int .i64 s] w fun e w' => e = .returned (.bool true) ∧ Below w.heap.size w w' := by
  have hf := h.2.1
  have HN : len - 1 ≤ 1048576 := by omega
  go_enter Try.func8, Try.ntmps8
  go_wp2_with fail
  refine (copyR_any a len cap f w h).mono ?_
  rintro e w1 ⟨v1, rfl, rfl, hr1, hB1⟩
  go_wp2_with fail
  refine (specRoots_any _ len len f s w1 (row_fs hr1 hL hf)).mono ?_
  rintro e w2 ⟨hA, hb2⟩
  rw [hz] at hA
  rcases hA with ⟨hA, -⟩ | ⟨z', g, gc, hzz, rfl, hg, hP, hzb⟩
  · cases hA
  cases hzz
  have hB2 := hB1.trans (hb2.mono hB1.size)
  have hgw : w.heap.size ≤ g := Nat.le_trans hB1.size hg
  clear hr1 hB1 hb2 hg
  go_wp2_with fail
  refine (copyR_any a len cap f w2 (h.below hB2)).mono ?_
  rintro e w3 ⟨v3, rfl, rfl, hx3, hb3⟩
  have hP3 := hP.below hb3 hP.lt
  have hgx : g < w2.heap.size := hP.lt
  have hxw : w.heap.size ≤ w2.heap.size := hB2.size
  have hB3 := hB2.trans (hb3.mono hB2.size)
  clear hP hb3 hB2
  go_wp2_with fail
  refine (implRoots_any _ len len f s w3 (row_fs hx3 hL hf)).mono ?_
  rintro e w4 ⟨hA, hb4⟩
  rw [hz] at hA
  rcases hA with ⟨hA, -⟩ | ⟨z', b, bc, hzz, rfl, hb, hQ, -⟩
  · cases hA
  cases hzz
  have hP4 := hP3.below hb4 hP3.lt
  have hx4 := rowIs_below hx3 hb4 hx3.lt
  have hxb : w2.heap.size < b := Nat.lt_of_lt_of_le hx3.lt hb
  have hB4 := hB3.trans (hb4.mono hB3.size)
  clear hP3 hx3 hb4 hB3 hb
  go_wp2_with fail
  refine (eqPoints_any _ _ (len - 1) _ _ z.1 z.2 _ HN (fun _ => ⟨b, rfl, hQ⟩) (fun _ => ⟨g, rfl, hP4⟩) hzb).mono ?_
  rintro e w5 ⟨rfl, hb5⟩
  have hP5 := hP4.below hb5 hP4.lt
  have hQ5 := hQ.below hb5 hQ.lt
  have hx5 := rowIs_below hx4 hb5 hx4.lt
  have hB5 := hB4.trans (hb5.mono hB4.size)
  clear hP4 hQ hx4 hb5 hB4
  go_wp2_with fail
  refine (copyR_any a len cap f w5 (h.below hB5)).mono ?_
  rintro e w6 ⟨v6, rfl, rfl, hy6, hb6⟩
  have hP6 := hP5.below hb6 hP5.lt
  have hQ6 := hQ5.below hb6 hQ5.lt
  have hx6 := rowIs_below hx5 hb6 hx5.lt
  have hB6 := hB5.trans (hb6.mono hB5.size)
  clear hP5 hQ5 hx5 hb6 hB5
  go_wp2_with fail
  refine (eqs_any _ _ len len len f w6 (row_fs hx6 hL hf) (row_fs hy6 hL hf)).mono ?_
  rintro e w7 ⟨rfl, n7, hn7⟩
  have hb7 := below_of hn7
  have hP7 := hP6.below hb7 hP6.lt
  have hQ7 := hQ6.below hb7 hQ6.lt
  have hx7 := rowIs_below hx6 hb7 hx6.lt
  have hB7 := hB6.trans (hb7.mono hB6.size)
  clear hP6 hQ6 hx6 hb7 hB6 hy6 hn7
  go_wp2_with fail
  refine (markFloats_any _ len _ 1 _ w7 hL (by omega) hx7).mono ?_
  rintro e w8 ⟨rfl, hO8⟩
  have hP8 := hP7.only hO8 (Nat.ne_of_lt hgx)
  have hQ8 := hQ7.only hO8 (Nat.ne_of_gt hxb)
  have hB8 := hB7.trans (hO8.below.mono hxw)
  clear hP7 hQ7 hx7 hB7 hO8
  have k8 : ¬ (1 : Int) + (len : Int) < 0 := by omega
  go_wp2_with fail
  refine (eqPoints_any _ _ (len - 1) _ _ z.1 z.2 _ HN (fun _ => ⟨b, rfl, hQ8⟩) (fun _ => ⟨g, rfl, hP8⟩) hzb).mono ?_
  rintro e w9 ⟨rfl, hb9⟩
  have hP9 := hP8.below hb9 hP8.lt
  have hQ9 := hQ8.below hb9 hQ8.lt
  have hB9 := hB8.trans (hb9.mono hB8.size)
  clear hP8 hQ8 hB8 hb9
  go_wp2_with fail
  refine (markPoints_any b (len - 1) _ 1 z.1 z.2 _ HN (by omega) hQ9).mono ?_
  rintro e w10 ⟨rfl, hQ10, hO10⟩
  have hP10 := hP9.only hO10 (Nat.ne_of_lt (Nat.lt_trans hgx hxb))
  have hB10 := hB9.trans (hO10.below.mono (Nat.le_trans hxw (Nat.le_of_lt hxb)))
  clear hP9 hQ9 hB9 hO10
  go_wp2_with fail
  refine (heldPoints_any b (len - 1) _ 1 _ HN (by omega) hQ10).mono ?_
  rintro e w11 ⟨rfl, hw11⟩
  have hs11 := hw11.symm
  clear hw11
  subst hs11
  have k10 : ¬ (1 : Int) + 2 * ((len - 1 : Nat) : Int) < 0 := by omega
  go_wp2_with fail
  refine (copyR_any a len cap f _ (h.below hB10)).mono ?_
  rintro e w12 ⟨v12, rfl, rfl, hy12, hb12⟩
  have hP12 := hP10.below hb12 hP10.lt
  have hQ12 := hQ10.below hb12 hQ10.lt
  have hB12 := hB10.trans (hb12.mono hB10.size)
  clear hP10 hQ10 hB10 hb12
  go_wp2_with fail
  refine (implRoots_any _ len len f s w12 (row_fs hy12 hL hf)).mono ?_
  rintro e w13 ⟨hA, hb13⟩
  rw [hz] at hA
  rcases hA with ⟨hA, -⟩ | ⟨z', b2, bc2, hzz, rfl, hb2, hR, -⟩
  · cases hA
  cases hzz
  have hP13 := hP12.below hb13 hP12.lt
  have hQ13 := hQ12.below hb13 hQ12.lt
  have hB13 := hB12.trans (hb13.mono hB12.size)
  clear hP12 hQ12 hB12 hb13 hy12 hb2
  go_wp2_with fail
  refine (eqPoints_any _ _ (len - 1) _ _ z.1 z.2 _ HN (fun _ => ⟨b2, rfl, hR⟩) (fun _ => ⟨g, rfl, hP13⟩) hzb).mono ?_
  rintro e w14 ⟨rfl, hb14⟩
  have hQ14 := hQ13.below hb14 hQ13.lt
  have hB14 := hB13.trans (hb14.mono hB13.size)
  clear hP13 hQ13 hB13 hR hb14
  go_wp2_with fail
  refine (heldPoints_any b (len - 1) _ 1 _ HN (by omega) hQ14).mono ?_
  rintro e w15 ⟨rfl, hw15⟩
  have hs15 := hw15.symm
  clear hw15
  subst hs15
  clear hQ14
  go_wp2
  go_ret
  exact ⟨rfl, hB14⟩

set_option maxHeartbeats 4000000 in
theorem rootsLaw_none (a : Option Addr) (len cap : Nat) (f : Nat → Nat) (s : Int) (w : World) (hL : len ≤ 1048576) (h : FS w a len f) (hz : rootsA f len s = none) :
    Calls Try.prog 8 #[.slice a len cap, .int .i64 s] w fun e w' => e = .returned (.bool true) ∧ Below w.heap.size w w' := by
  have hf := h.2.1
  have nl : ∀ w, PL w none 0 gX gY := fun w h => absurd h (Nat.lt_irrefl _)
  have nb : ∀ i, i < 0 → gX i < 18446744073709551616 ∧ gY i < 18446744073709551616 := fun i h => absurd h (Nat.not_lt_zero _)
  go_enter Try.func8, Try.ntmps8
  go_wp2_with fail
  refine (copyR_any a len cap f w h).mono ?_
  rintro e w1 ⟨v1, rfl, rfl, hr1, hB1⟩
  go_wp2_with fail
  refine (specRoots_any _ len len f s w1 (row_fs hr1 hL hf)).mono ?_
  rintro e w2 ⟨hA, hb2⟩
  rw [hz] at hA
  rcases hA with ⟨-, rfl⟩ | ⟨z', g, gc, hzz, -⟩
  rotate_left
  · cases hzz
  have hB2 := hB1.trans (hb2.mono hB1.size)
  clear hr1 hB1 hb2
  go_wp2_with fail
  refine (copyR_any a len cap f w2 (h.below hB2)).mono ?_
  rintro e w3 ⟨v3, rfl, rfl, hx3, hb3⟩
  have hxw : w.heap.size ≤ w2.heap.size := hB2.size
  have hB3 := hB2.trans (hb3.mono hB2.size)
  clear hb3 hB2
  go_wp2_with fail
  refine (implRoots_any _ len len f s w3 (row_fs hx3 hL hf)).mono ?_
  rintro e w4 ⟨hA, hb4⟩
  rw [hz] at hA
  rcases hA with ⟨-, rfl⟩ | ⟨z', g, gc, hzz, -⟩
  rotate_left
  · cases hzz
  have hx4 := rowIs_below hx3 hb4 hx3.lt
  have hB4 := hB3.trans (hb4.mono hB3.size)
  clear hx3 hb4 hB3
  go_wp2_with fail
  refine (eqPoints_any _ _ 0 _ _ gX gY _ (by omega) (nl _) (nl _) nb).mono ?_
  rintro e w5 ⟨rfl, hb5⟩
  have hx5 := rowIs_below hx4 hb5 hx4.lt
  have hB5 := hB4.trans (hb5.mono hB4.size)
  clear hx4 hb5 hB4
  go_wp2_with fail
  refine (copyR_any a len cap f w5 (h.below hB5)).mono ?_
  rintro e w6 ⟨v6, rfl, rfl, hy6, hb6⟩
  have hx6 := rowIs_below hx5 hb6 hx5.lt
  have hB6 := hB5.trans (hb6.mono hB5.size)
  clear hx5 hb6 hB5
  go_wp2_with fail
  refine (eqs_any _ _ len len len f w6 (row_fs hx6 hL hf) (row_fs hy6 hL hf)).mono ?_
  rintro e w7 ⟨rfl, n7, hn7⟩
  have hb7 := below_of hn7
  have hx7 := rowIs_below hx6 hb7 hx6.lt
  have hB7 := hB6.trans (hb7.mono hB6.size)
  clear hx6 hb7 hB6 hy6 hn7
  go_wp2_with fail
  refine (markFloats_any _ len _ 1 _ w7 hL (by omega) hx7).mono ?_
  rintro e w8 ⟨rfl, hO8⟩
  have hB8 := hB7.trans (hO8.below.mono hxw)
  clear hx7 hB7 hO8
  have k8 : ¬ (1 : Int) + (len : Int) < 0 := by omega
  go_wp2_with fail
  refine (eqPoints_any _ _ 0 _ _ gX gY _ (by omega) (nl _) (nl _) nb).mono ?_
  rintro e w9 ⟨rfl, hb9⟩
  have hB9 := hB8.trans (hb9.mono hB8.size)
  clear hB8 hb9
  go_wp2_with fail
  refine (mark_zero _ _ 1 _).mono ?_
  rintro e w10 ⟨rfl, hw10⟩
  have hs10 := hw10.symm
  clear hw10
  subst hs10
  go_wp2_with fail
  refine (held_zero _ _ 1 _).mono ?_
  rintro e w11 ⟨rfl, hw11⟩
  have hs11 := hw11.symm
  clear hw11
  subst hs11
  go_wp2_with fail
  refine (copyR_any a len cap f _ (h.below hB9)).mono ?_
  rintro e w12 ⟨v12, rfl, rfl, hy12, hb12⟩
  have hB12 := hB9.trans (hb12.mono hB9.size)
  clear hB9 hb12
  go_wp2_with fail
  refine (implRoots_any _ len len f s w12 (row_fs hy12 hL hf)).mono ?_
  rintro e w13 ⟨hA, hb13⟩
  rw [hz] at hA
  rcases hA with ⟨-, rfl⟩ | ⟨z', g, gc, hzz, -⟩
  rotate_left
  · cases hzz
  have hB13 := hB12.trans (hb13.mono hB12.size)
  clear hB12 hb13 hy12
  go_wp2_with fail
  refine (eqPoints_any _ _ 0 _ _ gX gY _ (by omega) (nl _) (nl _) nb).mono ?_
  rintro e w14 ⟨rfl, hb14⟩
  have hB14 := hB13.trans (hb14.mono hB13.size)
  clear hB13 hb14
  go_wp2_with fail
  refine (held_zero _ _ 1 _).mono ?_
  rintro e w15 ⟨rfl, hw15⟩
  have hs15 := hw15.symm
  clear hw15
  subst hs15
  go_wp2
  go_ret
  exact ⟨rfl, hB14⟩

theorem roots_len {f : Nat → Nat} {len : Nat} {s : Int} {z : (Nat → Nat) × (Nat → Nat)} (h : rootsA f len s = some z) : len ≤ 11 := by
  unfold rootsA at h
  split at h
  · rename_i hc; exact (monic_len hc.1).2
  · cases h
theorem rootsLaw (a : Option Addr) (len cap : Nat) (f : Nat → Nat) (s : Int) (w : World) (hL : len ≤ 1048576) (h : FS w a len f) :
    Calls Try.prog 8 #[.slice a len cap, .int .i64 s] w fun e w' => e = .returned (.bool true) ∧ Below w.heap.size w w' := by
  cases hz : rootsA f len s with
  | none => exact rootsLaw_none a len cap f s w hL h hz
  | some z => exact rootsLaw_some a len cap f s w hL h z hz (roots_len hz)
set_option maxHeartbeats 400000 in
theorem rootsLaw_long (a : Option Addr) (len cap : Nat) (s : Int) (w : World) (hL : 1048576 < len) (hm : len ≤ 9223372036854775807) :
    Calls Try.prog 8 #[.slice a len cap, .int .i64 s] w fun e w' => e = .returned (.bool true) ∧ Below w.heap.size w w' := by
  go_enter Try.func8, Try.ntmps8
  go_wp2
  go_ret
  exact ⟨rfl, Below.refl _ _⟩
end Go.Proofs.Ytgcnkecfdmafdaa
