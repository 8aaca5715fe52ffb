/- The walk of the law on UnwrapCounts. -/
import Derived.Test.YtlianbeogmefhaaUnSpec
namespace Go.Proofs.Ytlianbeogmefhaa
open Go.RowKit

theorem ansU_t {w w' : World} {e : Ending} {f : Nat → Int} {s : Int} {len : Nat} (h : AnsU w w' e f s len) (k : okU f s len = true) : ∃ g cap, e = .returned (.tuple #[.slice (some ⟨g, 0, none⟩) len cap, .bool true]) ∧ w.heap.size ≤ g ∧ IP w' g len (un f s) := by
  rcases h with ⟨h, _⟩ | ⟨_, h⟩
  · rw [k] at h; cases h
  · exact h
theorem ansU_f {w w' : World} {e : Ending} {f : Nat → Int} {s : Int} {len : Nat} (h : AnsU w w' e f s len) (k : okU f s len = false) : e = .returned (.tuple #[.slice none 0 0, .bool false]) := by
  rcases h with ⟨_, h⟩ | ⟨h, _⟩
  · exact h
  · rw [k] at h; cases h

set_option maxHeartbeats 4000000 in
theorem unLaw_some (a : Option Addr) (len cap : Nat) (f : Nat → Int) (s : Int) (w : World) (hL : len ≤ 1048576) (h : IL w a len f) (hz : okU f s len = true) :
    Calls Try.prog 5 #[.slice a len cap, .int .i64 s] w fun e w' => e = .returned (.bool true) ∧ Below w.heap.size w w' := by
  go_enter Try.func5, Try.ntmps5
  go_wp2_with fail
  refine (copyI_any a len cap f w hL h).mono ?_
  rintro e w1 ⟨v1, rfl, rfl, hr1, hB1⟩
  go_wp2_with fail
  refine (specUn_any _ len len f s w1 hL (row_il hr1)).mono ?_
  rintro e w2 ⟨hA, hb2⟩
  obtain ⟨g, gc, rfl, hg, hP⟩ := ansU_t hA hz
  have hB2 := stepA hB1 hb2
  have hgw : w.heap.size ≤ g := Nat.le_trans hB1.size hg
  clear hr1 hB1 hb2 hg hA
  go_wp2_with fail
  refine (copyI_any a len cap f w2 hL (h.below hB2)).mono ?_
  rintro e w3 ⟨v3, rfl, rfl, hx3, hb3⟩
  have hP3 := hP.below hb3 hP.lt
  have hgx : g < w2.heap.size := hP.lt
  have hxw : w.heap.size ≤ w2.heap.size := hB2.size
  have hB3 := stepA hB2 hb3
  clear hP hb3 hB2
  go_wp2_with fail
  refine (implUn_any _ len len f s w3 hL (row_il hx3)).mono ?_
  rintro e w4 ⟨hA, hb4⟩
  obtain ⟨b, bc, rfl, hb, hQ⟩ := ansU_t hA hz
  have hP4 := hP3.below hb4 hP3.lt
  have hx4 := rowIs_below hx3 hb4 hx3.lt
  have hxb : w2.heap.size < b := Nat.lt_of_lt_of_le hx3.lt hb
  have hB4 := stepA hB3 hb4
  clear hP3 hx3 hb4 hB3 hb hA
  go_wp2_with fail
  refine (eqI_any _ _ len _ _ (un f s) _ hL hQ.il hP4.il).mono ?_
  rintro e w5 ⟨rfl, hb5⟩
  have hP5 := hP4.below hb5 hP4.lt
  have hQ5 := hQ.below hb5 hQ.lt
  have hx5 := rowIs_below hx4 hb5 hx4.lt
  have hB5 := stepA hB4 hb5
  clear hP4 hQ hx4 hb5 hB4
  go_wp2_with fail
  refine (copyI_any a len cap f w5 hL (h.below hB5)).mono ?_
  rintro e w6 ⟨v6, rfl, rfl, hy6, hb6⟩
  have hP6 := hP5.below hb6 hP5.lt
  have hQ6 := hQ5.below hb6 hQ5.lt
  have hx6 := rowIs_below hx5 hb6 hx5.lt
  have hB6 := stepA hB5 hb6
  clear hP5 hQ5 hx5 hb6 hB5
  go_wp2_with fail
  refine (eqI_any _ _ len len len f w6 hL (row_il hx6) (row_il hy6)).mono ?_
  rintro e w7 ⟨rfl, hb7⟩
  have hP7 := hP6.below hb7 hP6.lt
  have hQ7 := hQ6.below hb7 hQ6.lt
  have hx7 := rowIs_below hx6 hb7 hx6.lt
  have hB7 := stepA hB6 hb7
  clear hP6 hQ6 hx6 hb7 hB6 hy6
  go_wp2_with fail
  refine (markP_any _ len _ 1 _ w7 hL (by omega) (row_ip hx7)).mono ?_
  rintro e w8 ⟨rfl, -, hO8⟩
  have hP8 := hP7.only hO8 (Nat.ne_of_lt hgx)
  have hQ8 := hQ7.only hO8 (Nat.ne_of_gt hxb)
  have hB8 := hB7.trans (hO8.below.mono hxw)
  clear hP7 hQ7 hx7 hB7 hO8
  have k8 : ¬ (1 : Int) + (len : Int) < 0 := by omega
  go_wp2_with fail
  refine (eqI_any _ _ len _ _ (un f s) _ hL hQ8.il hP8.il).mono ?_
  rintro e w9 ⟨rfl, hb9⟩
  have hP9 := hP8.below hb9 hP8.lt
  have hQ9 := hQ8.below hb9 hQ8.lt
  have hB9 := stepA hB8 hb9
  clear hP8 hQ8 hB8 hb9
  go_wp2_with fail
  refine (markP_any b len _ 1 _ _ hL (by omega) hQ9).mono ?_
  rintro e w10 ⟨rfl, hQ10, hO10⟩
  have hP10 := hP9.only hO10 (Nat.ne_of_lt (Nat.lt_trans hgx hxb))
  have hB10 := hB9.trans (hO10.below.mono (Nat.le_trans hxw (Nat.le_of_lt hxb)))
  clear hP9 hQ9 hB9 hO10
  go_wp2_with fail
  refine (heldP_any b len _ 1 _ hL (by omega) hQ10).mono ?_
  rintro e w11 ⟨rfl, hw11⟩
  have hs11 := hw11.symm
  clear hw11
  subst hs11
  go_wp2_with fail
  refine (copyI_any a len cap f _ hL (h.below hB10)).mono ?_
  rintro e w12 ⟨v12, rfl, rfl, hy12, hb12⟩
  have hP12 := hP10.below hb12 hP10.lt
  have hQ12 := hQ10.below hb12 hQ10.lt
  have hB12 := stepA hB10 hb12
  clear hP10 hQ10 hB10 hb12
  go_wp2_with fail
  refine (implUn_any _ len len f s w12 hL (row_il hy12)).mono ?_
  rintro e w13 ⟨hA, hb13⟩
  obtain ⟨b2, bc2, rfl, hb2, hR⟩ := ansU_t hA hz
  have hP13 := hP12.below hb13 hP12.lt
  have hQ13 := hQ12.below hb13 hQ12.lt
  have hB13 := stepA hB12 hb13
  clear hP12 hQ12 hB12 hb13 hy12 hb2 hA
  go_wp2_with fail
  refine (eqI_any _ _ len _ _ (un f s) _ hL hR.il hP13.il).mono ?_
  rintro e w14 ⟨rfl, hb14⟩
  have hQ14 := hQ13.below hb14 hQ13.lt
  have hB14 := stepA hB13 hb14
  clear hP13 hQ13 hB13 hR hb14
  go_wp2_with fail
  refine (heldP_any b len _ 1 _ hL (by omega) hQ14).mono ?_
  rintro e w15 ⟨rfl, hw15⟩
  have hs15 := hw15.symm
  clear hw15
  subst hs15
  clear hQ14
  go_wp2
  go_ret
  exact ⟨rfl, hB14⟩

set_option maxHeartbeats 4000000 in
theorem unLaw_none (a : Option Addr) (len cap : Nat) (f : Nat → Int) (s : Int) (w : World) (hL : len ≤ 1048576) (h : IL w a len f) (hz : okU f s len = false) :
    Calls Try.prog 5 #[.slice a len cap, .int .i64 s] w fun e w' => e = .returned (.bool true) ∧ Below w.heap.size w w' := by
  go_enter Try.func5, Try.ntmps5
  go_wp2_with fail
  refine (copyI_any a len cap f w hL h).mono ?_
  rintro e w1 ⟨v1, rfl, rfl, hr1, hB1⟩
  go_wp2_with fail
  refine (specUn_any _ len len f s w1 hL (row_il hr1)).mono ?_
  rintro e w2 ⟨hA, hb2⟩
  obtain rfl := ansU_f hA hz
  have hB2 := stepA hB1 hb2
  clear hr1 hB1 hb2 hA
  go_wp2_with fail
  refine (copyI_any a len cap f w2 hL (h.below hB2)).mono ?_
  rintro e w3 ⟨v3, rfl, rfl, hx3, hb3⟩
  have hxw : w.heap.size ≤ w2.heap.size := hB2.size
  have hB3 := stepA hB2 hb3
  clear hb3 hB2
  go_wp2_with fail
  refine (implUn_any _ len len f s w3 hL (row_il hx3)).mono ?_
  rintro e w4 ⟨hA, hb4⟩
  obtain rfl := ansU_f hA hz
  have hx4 := rowIs_below hx3 hb4 hx3.lt
  have hB4 := stepA hB3 hb4
  clear hx3 hb4 hB3 hA
  go_wp2_with fail
  refine (eqI_any _ _ 0 _ _ f _ (by omega) (IL.none _ _) (IL.none _ _)).mono ?_
  rintro e w5 ⟨rfl, hb5⟩
  have hx5 := rowIs_below hx4 hb5 hx4.lt
  have hB5 := stepA hB4 hb5
  clear hx4 hb5 hB4
  go_wp2_with fail
  refine (copyI_any a len cap f w5 hL (h.below hB5)).mono ?_
  rintro e w6 ⟨v6, rfl, rfl, hy6, hb6⟩
  have hx6 := rowIs_below hx5 hb6 hx5.lt
  have hB6 := stepA hB5 hb6
  clear hx5 hb6 hB5
  go_wp2_with fail
  refine (eqI_any _ _ len len len f w6 hL (row_il hx6) (row_il hy6)).mono ?_
  rintro e w7 ⟨rfl, hb7⟩
  have hx7 := rowIs_below hx6 hb7 hx6.lt
  have hB7 := stepA hB6 hb7
  clear hx6 hb7 hB6 hy6
  go_wp2_with fail
  refine (markP_any _ len _ 1 _ w7 hL (by omega) (row_ip hx7)).mono ?_
  rintro e w8 ⟨rfl, -, hO8⟩
  have hB8 := hB7.trans (hO8.below.mono hxw)
  clear hx7 hB7 hO8
  have k8 : ¬ (1 : Int) + (len : Int) < 0 := by omega
  go_wp2_with fail
  refine (eqI_any _ _ 0 _ _ f _ (by omega) (IL.none _ _) (IL.none _ _)).mono ?_
  rintro e w9 ⟨rfl, hb9⟩
  have hB9 := stepA hB8 hb9
  clear hB8 hb9
  go_wp2_with fail
  refine (markI_zero _ _ 1 _).mono ?_
  rintro e w10 ⟨rfl, hw10⟩
  have hs10 := hw10.symm
  clear hw10
  subst hs10
  go_wp2_with fail
  refine (heldI_zero _ _ 1 _).mono ?_
  rintro e w11 ⟨rfl, hw11⟩
  have hs11 := hw11.symm
  clear hw11
  subst hs11
  go_wp2_with fail
  refine (copyI_any a len cap f _ hL (h.below hB9)).mono ?_
  rintro e w12 ⟨v12, rfl, rfl, hy12, hb12⟩
  have hB12 := stepA hB9 hb12
  clear hB9 hb12
  go_wp2_with fail
  refine (implUn_any _ len len f s w12 hL (row_il hy12)).mono ?_
  rintro e w13 ⟨hA, hb13⟩
  obtain rfl := ansU_f hA hz
  have hB13 := stepA hB12 hb13
  clear hB12 hb13 hy12 hA
  go_wp2_with fail
  refine (eqI_any _ _ 0 _ _ f _ (by omega) (IL.none _ _) (IL.none _ _)).mono ?_
  rintro e w14 ⟨rfl, hb14⟩
  have hB14 := stepA hB13 hb14
  clear hB13 hb14
  go_wp2_with fail
  refine (heldI_zero _ _ 1 _).mono ?_
  rintro e w15 ⟨rfl, hw15⟩
  have hs15 := hw15.symm
  clear hw15
  subst hs15
  go_wp2
  go_ret
  exact ⟨rfl, hB14⟩

theorem unLaw (a : Option Addr) (len cap : Nat) (f : Nat → Int) (s : Int) (w : World) (hL : len ≤ 1048576) (h : IL w a len f) :
    Calls Try.prog 5 #[.slice a len cap, .int .i64 s] w fun e w' => e = .returned (.bool true) ∧ Below w.heap.size w w' := by
  cases hz : okU f s len with
  | false => exact unLaw_none a len cap f s w hL h hz
  | true => exact unLaw_some a len cap f s w hL h hz
set_option maxHeartbeats 400000 in
theorem unLaw_long (a : Option Addr) (len cap : Nat) (s : Int) (w : World) (hL : 1048576 < len) (hm : len ≤ 9223372036854775807) :
    Calls Try.prog 5 #[.slice a len cap, .int .i64 s] w fun e w' => e = .returned (.bool true) ∧ Below w.heap.size w w' := by
  go_enter Try.func5, Try.ntmps5
  go_wp2
  go_ret
  exact ⟨rfl, Below.refl _ _⟩
end Go.Proofs.Ytlianbeogmefhaa
