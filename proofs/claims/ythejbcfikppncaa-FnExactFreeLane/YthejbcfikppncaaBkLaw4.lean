/- The walk of the law on FreeLane (tools/gen_bklaw.py). -/
import Derived.Test.YthejbcfikppncaaBkFrI
import Derived.Test.YthejbcfikppncaaBkFrS
import Derived.Test.YthejbcfikppncaaBkMk
namespace Go.Proofs.Ythejbcfikppncaa
open Go.RowKit
set_option maxRecDepth 20000 in
set_option maxHeartbeats 4000000 in
theorem giveLaw (a : Option Addr) (n c : Nat) (F : Nat → Int) (who at_ : Int) (w : World) (hn : n ≤ 1048576) (hf : IL w a (n * 4) F) (N : Nat) (G : Nat → Int) (q : Bool) (hN : N ≤ 1000) (hS : ∀ b c w, IL w b (n * 4) F → Calls Try.prog 24 #[.slice b n c, .int .i64 who, .int .i64 at_] w fun e w' => AnsBk w w' e N G q ∧ Below w.heap.size w w') (hI : ∀ b c w, IL w b (n * 4) F → Calls Try.prog 15 #[.slice b n c, .int .i64 who, .int .i64 at_] w fun e w' => AnsBk w w' e N G q ∧ Below w.heap.size w w') :
    Calls Try.prog 7 #[.slice a n c, .int .i64 who, .int .i64 at_] w fun e w' => e = .returned (.bool true) ∧ Below w.heap.size w w' := by
  obtain ⟨Kx, hKx⟩ : ∃ K : Int, K = 1 + ((n * 4 : Nat) : Int) := ⟨_, rfl⟩
  obtain ⟨Kg, hKg⟩ : ∃ K : Int, K = 1 + ((N * 4 : Nat) : Int) := ⟨_, rfl⟩
  have j1 : ¬ Kx < 0 := by omega
  have j2 : ¬ Kg < 0 := by omega
  have j3 : (Kg != Kg) = false := by simp
  have j4 : (q != q) = false := by simp
  have HKx : Hid (Kx = 1 + ((n * 4 : Nat) : Int)) := hKx
  have HKg : Hid (Kg = 1 + ((N * 4 : Nat) : Int)) := hKg
  clear hKx hKg
  have j0 : ¬ (1048576 : Int) - (n : Int) < 0 := by omega
  have hB0 := Below.refl w.heap.size w
  go_enter Try.func7, Try.ntmps7
  go_wp2_with fail
  refine (szBooked_in a n c 1048576 _ (by omega) (by omega)).mono ?_
  rintro e w1 ⟨rfl, hb2⟩
  have hs' := hb2.symm
  clear hb2
  subst hs'
  go_wp2_with fail
  refine (toBookedS_any a n c F _ hn (hf.below hB0)).mono ?_
  rintro e w3 ⟨rfl, hQ2, hQ2s, hb4⟩
  have hs5 := hb4.size
  have hB6 := stepA hB0 hb4
  clear hB0 hb4
  try simp only [size_al] at hs5
  try simp only [size_al] at hQ2 hQ2s
  go_wp2_with fail
  refine (hS _ _ _ hQ2.il).mono ?_
  rintro e w7 ⟨⟨as0, cs0, rfl, vs0⟩, hb8⟩
  have hs9 := hb8.size
  have z10 := hQ2.on hb8
  clear hQ2
  have hB11 := stepA hB6 hb8
  clear hB6 hb8
  try simp only [size_al] at hs9
  clear z10
  go_wp2_with fail
  refine (toBookedS_any a n c F _ hn (hf.below hB11)).mono ?_
  rintro e w12 ⟨rfl, hQ4, hQ4s, hb13⟩
  have hs14 := hb13.size
  have z15 := vs0.on hb13
  clear vs0
  have hB16 := stepA hB11 hb13
  clear hB11 hb13
  try simp only [size_al] at hs14
  try simp only [size_al] at hQ4 hQ4s
  go_wp2_with fail
  refine (hI _ _ _ hQ4.il).mono ?_
  rintro e w17 ⟨⟨ag0, cg0, rfl, vg0⟩, hb18⟩
  have hs19 := hb18.size
  have z20 := z15.on hb18
  have z21 := hQ4.on hb18
  clear z15 hQ4
  have hB22 := stepA hB16 hb18
  clear hB16 hb18
  try simp only [size_al] at hs19
  go_wp2_with fail
  refine (eqBookedS_any ag0 as0 N cg0 cs0 G _ (by omega) vg0.il z20.il).mono ?_
  rintro e w23 ⟨rfl, hb24⟩
  have hs25 := hb24.size
  have z26 := z20.on hb24
  have z27 := z21.on hb24
  have z28 := vg0.on hb24
  clear z20 z21 vg0
  have hB29 := stepA hB22 hb24
  clear hB22 hb24
  try simp only [size_al] at hs25
  go_wp2_with fail
  refine (toBookedS_any a n c F _ hn (hf.below hB29)).mono ?_
  rintro e w30 ⟨rfl, hQ6, hQ6s, hb31⟩
  have hs32 := hb31.size
  have z33 := z26.on hb31
  have z34 := z27.on hb31
  have z35 := z28.on hb31
  clear z26 z27 z28
  have hB36 := stepA hB29 hb31
  clear hB29 hb31
  try simp only [size_al] at hs32
  try simp only [size_al] at hQ6 hQ6s
  go_wp2_with fail
  refine (eqBookedS_any (some ⟨w7.heap.size, 0, none⟩) (some ⟨w23.heap.size, 0, none⟩) n n n F _ hn z34.il hQ6.il).mono ?_
  rintro e w37 ⟨rfl, hb38⟩
  have hs39 := hb38.size
  have z40 := z33.on hb38
  have z41 := z34.on hb38
  have z42 := z35.on hb38
  have z43 := hQ6.on hb38
  clear z33 z34 z35 hQ6
  have hB44 := stepA hB36 hb38
  clear hB36 hb38
  try simp only [size_al] at hs39
  clear z43
  go_wp2_with fail
  refine (markB1 (some ⟨w7.heap.size, 0, none⟩) n n Kx _ _ F _ hn HKx.out z41).mono ?_
  rintro e w45 ⟨rfl, z47, ht46⟩
  have hs48 := ht46.size
  try simp only [size_al] at hs48
  have z49 := z40.turns ht46 (by first | omega | (simp only [size_al]; omega))
  have z50 := z42.turns ht46 (by first | omega | (simp only [size_al]; omega))
  clear z40 z42
  have hB51 := hB44.trans (ht46.below (by omega) (by first | omega | (simp only [size_al]; omega)))
  clear hB44 ht46 z41
  go_wp2_with fail
  refine (eqBookedS_any ag0 as0 N cg0 cs0 G _ (by omega) z50.il z49.il).mono ?_
  rintro e w52 ⟨rfl, hb53⟩
  have hs54 := hb53.size
  have z55 := z49.on hb53
  have z56 := z50.on hb53
  have z57 := z47.on hb53
  clear z49 z50 z47
  have hB58 := stepA hB51 hb53
  clear hB51 hb53
  try simp only [size_al] at hs54
  clear z57
  go_wp2_with fail
  refine (markB1 ag0 N cg0 Kg _ _ G _ (by omega) HKg.out z56).mono ?_
  rintro e w59 ⟨rfl, z61, ht60⟩
  have hs62 := ht60.size
  try simp only [size_al] at hs62
  have z63 := z55.turns ht60 (by first | omega | (simp only [size_al]; omega))
  clear z55
  have hB64 := hB58.trans (ht60.below (by omega) (by first | omega | (simp only [size_al]; omega)))
  clear hB58 ht60 z56
  go_wp2_with fail
  refine (heldB1 ag0 N cg0 Kg _ _ _ (by omega) HKg.out z61).mono ?_
  rintro e w65 ⟨rfl, hb66⟩
  have hs' := hb66.symm
  clear hb66
  subst hs'
  go_wp2_with fail
  refine (toBookedS_any a n c F _ hn (hf.below hB64)).mono ?_
  rintro e w67 ⟨rfl, hQ8, hQ8s, hb68⟩
  have hs69 := hb68.size
  have z70 := z63.on hb68
  have z71 := z61.on hb68
  clear z63 z61
  have hB72 := stepA hB64 hb68
  clear hB64 hb68
  try simp only [size_al] at hs69
  try simp only [size_al] at hQ8 hQ8s
  go_wp2_with fail
  refine (hI _ _ _ hQ8.il).mono ?_
  rintro e w73 ⟨⟨ah0, ch0, rfl, vh0⟩, hb74⟩
  have hs75 := hb74.size
  have z76 := z70.on hb74
  have z77 := z71.on hb74
  have z78 := hQ8.on hb74
  clear z70 z71 hQ8
  have hB79 := stepA hB72 hb74
  clear hB72 hb74
  try simp only [size_al] at hs75
  clear z78
  go_wp2_with fail
  refine (eqBookedS_any ah0 as0 N ch0 cs0 G _ (by omega) vh0.il z76.il).mono ?_
  rintro e w80 ⟨rfl, hb81⟩
  have hs82 := hb81.size
  have z83 := z76.on hb81
  have z84 := z77.on hb81
  have z85 := vh0.on hb81
  clear z76 z77 vh0
  have hB86 := stepA hB79 hb81
  clear hB79 hb81
  try simp only [size_al] at hs82
  go_wp2_with fail
  refine (heldB1 ag0 N cg0 Kg _ _ _ (by omega) HKg.out z84).mono ?_
  rintro e w87 ⟨rfl, hb88⟩
  have hs' := hb88.symm
  clear hb88
  subst hs'
  clear z83
  clear z84
  clear z85
  go_wp2
  go_ret
  exact ⟨rfl, hB86⟩
set_option maxHeartbeats 400000 in
theorem giveLong (a : Option Addr) (n c : Nat) (who at_ : Int) (w : World) (h : 1048576 < n) (hm : n ≤ 9223372036854775807) :
    Calls Try.prog 7 #[.slice a n c, .int .i64 who, .int .i64 at_] w fun e w' => e = .returned (.bool true) ∧ Below w.heap.size w w' := by
  go_enter Try.func7, Try.ntmps7
  go_wp2_with fail
  refine (szBooked_out a n c 1048576 _ (by omega) (by omega) (by omega) hm).mono ?_
  rintro e w' ⟨rfl, hw⟩
  have hs := hw.symm
  clear hw
  subst hs
  go_wp2
  go_ret
  exact ⟨rfl, Below.refl _ _⟩
theorem giveAll (a : Option Addr) (n c : Nat) (F : Nat → Int) (who at_ : Int) (w : World) (hm : n ≤ 9223372036854775807) (hf : IL w a (n * 4) F) :
    Calls Try.prog 7 #[.slice a n c, .int .i64 who, .int .i64 at_] w fun e w' => e = .returned (.bool true) ∧ Below w.heap.size w w' := by
  by_cases h : n ≤ 1048576
  · cases e : bsB n F with
    | false => exact giveLaw a n c F who at_ w h hf 0 (fun _ => 0) false (by omega) (fun b c w hf => sGive_no b n c F who at_ w h hf e) (fun b c w hf => iGive_no b n c F who at_ w h hf e)
    | true =>
      obtain ⟨N, hN⟩ : ∃ N, N = (frL F who at_ n).length / 4 := ⟨_, rfl⟩
      have h40 := (bsB_t e).1
      by_cases h4 : N ≤ 1000
      · exact giveLaw a n c F who at_ w h hf N (fun i => (frL F who at_ n).getD i 0) true h4
          (fun b c w hf => (sGive_in b n c F who at_ w h hf e).mono fun e w' ⟨⟨m, _, h5, h6⟩, h7⟩ => ⟨(show m = N by omega) ▸ h6, h7⟩)
          (fun b c w hf => (iGive_in b n c F who at_ w h hf e).mono fun e w' ⟨⟨m, _, h5, h6⟩, h7⟩ => ⟨(show m = N by omega) ▸ h6, h7⟩)
      · exact absurd (frL_len F who at_ n) (by omega)
  · exact giveLong a n c who at_ w (by omega) hm
end Go.Proofs.Ythejbcfikppncaa
