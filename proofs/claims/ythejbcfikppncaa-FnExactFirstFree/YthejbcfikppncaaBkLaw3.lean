/- The walk of the law on FirstFree (tools/gen_bklaw.py). -/
import Derived.Test.YthejbcfikppncaaBkFfI
import Derived.Test.YthejbcfikppncaaBkFfS
import Derived.Test.YthejbcfikppncaaFkBk
namespace Go.Proofs.Ythejbcfikppncaa
open Go.RowKit
set_option maxRecDepth 20000 in
set_option maxHeartbeats 4000000 in
theorem freeLaw (a : Option Addr) (n c : Nat) (F : Nat → Int) (lane from_ long : Int) (w : World) (hn : n ≤ 1048576) (hf : IL w a (n * 4) F) (V : Bool) (R : Int) (hS : ∀ b c w, IL w b (n * 4) F → Calls Try.prog 14 #[.slice b n c, .int .i64 lane, .int .i64 from_, .int .i64 long] w fun e w' => e = .returned (.tuple #[.int .i64 R, .bool V]) ∧ Below w.heap.size w w') (hI : ∀ b c w, IL w b (n * 4) F → Calls Try.prog 13 #[.slice b n c, .int .i64 lane, .int .i64 from_, .int .i64 long] w fun e w' => e = .returned (.tuple #[.int .i64 R, .bool V]) ∧ Below w.heap.size w w') :
    Calls Try.prog 6 #[.slice a n c, .int .i64 lane, .int .i64 from_, .int .i64 long] w fun e w' => e = .returned (.bool true) ∧ Below w.heap.size w w' := by
  have j9 : (V != V) = false := by simp
  have j8 : (R != R) = false := by simp
  have j0 : ¬ (1048576 : Int) - (n : Int) < 0 := by omega
  go_enter Try.func6, Try.ntmps6
  have hB0 := Below.refl w.heap.size w
  go_wp2_with fail
  refine (szBooked_in a n c 1048576 _ (by omega) (by omega)).mono ?_
  rintro e w1 ⟨rfl, hb2⟩
  have hs' := hb2.symm
  clear hb2
  subst hs'
  go_wp2_with fail
  refine (toBookedS_any a n c F _ hn (hf.below hB0)).mono ?_
  rintro e w3 ⟨rfl, hQ2, hQ2s, hb4⟩
  have hs5 := hb4.size
  have hB6 := stepA hB0 hb4
  clear hB0 hb4
  try simp only [size_al] at hs5
  try simp only [size_al] at hQ2 hQ2s
  go_wp2_with fail
  refine (hS _ _ _ hQ2.il).mono ?_
  rintro e w7 ⟨rfl, hb8⟩
  have hs9 := hb8.size
  have z10 := hQ2.on hb8
  clear hQ2
  have hB11 := stepA hB6 hb8
  clear hB6 hb8
  try simp only [size_al] at hs9
  clear z10
  go_wp2_with fail
  refine (toBookedS_any a n c F _ hn (hf.below hB11)).mono ?_
  rintro e w12 ⟨rfl, hQ4, hQ4s, hb13⟩
  have hs14 := hb13.size
  have hB15 := stepA hB11 hb13
  clear hB11 hb13
  try simp only [size_al] at hs14
  try simp only [size_al] at hQ4 hQ4s
  go_wp2_with fail
  refine (hI _ _ _ hQ4.il).mono ?_
  rintro e w16 ⟨rfl, hb17⟩
  have hs18 := hb17.size
  have z19 := hQ4.on hb17
  clear hQ4
  have hB20 := stepA hB15 hb17
  clear hB15 hb17
  try simp only [size_al] at hs18
  go_wp2_with fail
  refine (toBookedS_any a n c F _ hn (hf.below hB20)).mono ?_
  rintro e w21 ⟨rfl, hQ6, hQ6s, hb22⟩
  have hs23 := hb22.size
  have z24 := z19.on hb22
  clear z19
  have hB25 := stepA hB20 hb22
  clear hB20 hb22
  try simp only [size_al] at hs23
  try simp only [size_al] at hQ6 hQ6s
  go_wp2_with fail
  refine (eqBookedS_any (some ⟨w7.heap.size, 0, none⟩) (some ⟨w16.heap.size, 0, none⟩) n n n F _ hn z24.il hQ6.il).mono ?_
  rintro e w26 ⟨rfl, hb27⟩
  have hs28 := hb27.size
  have z29 := z24.on hb27
  have z30 := hQ6.on hb27
  clear z24 hQ6
  have hB31 := stepA hB25 hb27
  clear hB25 hb27
  try simp only [size_al] at hs28
  clear z29
  clear z30
  go_wp2
  go_ret
  exact ⟨rfl, hB31⟩
set_option maxHeartbeats 400000 in
theorem freeLong (a : Option Addr) (n c : Nat) (lane from_ long : Int) (w : World) (h : 1048576 < n) (hm : n ≤ 9223372036854775807) :
    Calls Try.prog 6 #[.slice a n c, .int .i64 lane, .int .i64 from_, .int .i64 long] w fun e w' => e = .returned (.bool true) ∧ Below w.heap.size w w' := by
  go_enter Try.func6, Try.ntmps6
  go_wp2_with fail
  refine (szBooked_out a n c 1048576 _ (by omega) (by omega) (by omega) hm).mono ?_
  rintro e w' ⟨rfl, hw⟩
  have hs := hw.symm
  clear hw
  subst hs
  go_wp2
  go_ret
  exact ⟨rfl, Below.refl _ _⟩
theorem freeAll (a : Option Addr) (n c : Nat) (F : Nat → Int) (lane from_ long : Int) (w : World) (hm : n ≤ 9223372036854775807) (hf : IL w a (n * 4) F) :
    Calls Try.prog 6 #[.slice a n c, .int .i64 lane, .int .i64 from_, .int .i64 long] w fun e w' => e = .returned (.bool true) ∧ Below w.heap.size w w' := by
  by_cases h : n ≤ 1048576
  · cases e : ffO n F lane from_ long with
    | false => exact freeLaw a n c F lane from_ long w h hf false 0 (fun b c w hf => sFree_no b n c F lane from_ long w h hf e) (fun b c w hf => iFree_no b n c F lane from_ long w h hf e)
    | true => exact freeLaw a n c F lane from_ long w h hf _ _ (fun b c w hf => sFree_in b n c F lane from_ long w h hf e) (fun b c w hf => iFree_in b n c F lane from_ long w h hf e)
  · exact freeLong a n c lane from_ long w (by omega) hm
end Go.Proofs.Ythejbcfikppncaa
