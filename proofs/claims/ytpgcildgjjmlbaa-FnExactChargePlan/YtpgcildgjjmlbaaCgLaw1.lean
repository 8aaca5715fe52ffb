/- The walk of the law on ChargePlan (tools/gen_cg3.py). -/
import Derived.Test.YtpgcildgjjmlbaaCgMk
import Derived.Test.YtpgcildgjjmlbaaCgPlI
import Derived.Test.YtpgcildgjjmlbaaCgPlS
namespace Go.Proofs.Ytpgcildgjjmlbaa
open Go.RowKit
set_option maxRecDepth 20000 in
set_option maxHeartbeats 4000000 in
theorem planLaw (c : Cg) (t : Int) (N : Nat) (B : Nat → Bool) (q : Bool) (w : World) (hN : N ≤ 200)
    (hS : ∀ w, Calls Try.prog 7 #[cgv c, .int .i64 t] w fun e w' => AnsBb w w' e N B q ∧ Below w.heap.size w w')
    (hI : ∀ w, Calls Try.prog 6 #[cgv c, .int .i64 t] w fun e w' => AnsBb w w' e N B q ∧ Below w.heap.size w w') :
    Calls Try.prog 4 #[cgv c, .int .i64 t] w fun e w' => e = .returned (.bool true) ∧ Below w.heap.size w w' := by
  have j0 : ¬ (1 + (N : Int)) < 0 := by omega
  have j1 : ((1 + (N : Int)) != (1 + (N : Int))) = false := by simp
  have j2 : (q != q) = false := by simp
  have hB0 := Below.refl w.heap.size w
  have z1 := bx_new (b := w.heap.size) (w := w) (cgs c) 32 (by first | rfl | simp only [size_al])
  have hx2 : Below w.heap.size w (w.alloc (.cells #[.int .i64 c.L, .int .i64 c.U, .int .i64 c.G, .int .i64 c.F] 32)) := (Below.refl _ _).alloc (Nat.le_refl _) _
  have hB3 := stepA hB0 hx2
  clear hB0 hx2
  go_enter Try.func4, Try.ntmps4
  obtain ⟨x4, x5, x6, x7⟩ := charge_at z1
  go_wp2_with fail
  refine (toCharge_any c _).mono ?_
  rintro e w8 ⟨rfl, hb9⟩
  have hs10 := hb9.size
  have z11 := z1.on hb9
  clear z1
  have hB12 := stepA hB3 hb9
  clear hB3 hb9
  try simp only [size_al] at hs10
  clear x4 x5 x6 x7
  obtain ⟨x13, x14, x15, x16⟩ := charge_at z11
  go_wp2_with fail
  refine (hS _).mono ?_
  rintro e w17 ⟨⟨ap, cp, rfl, vs0⟩, hb18⟩
  have hs19 := hb18.size
  have z20 := z11.on hb18
  clear z11
  have hB21 := stepA hB12 hb18
  clear hB12 hb18
  try simp only [size_al] at hs19
  clear x13 x14 x15 x16
  obtain ⟨x22, x23, x24, x25⟩ := charge_at z20
  go_wp2_with fail
  refine (toCharge_any c _).mono ?_
  rintro e w26 ⟨rfl, hb27⟩
  have hs28 := hb27.size
  have z29 := z20.on hb27
  have z30 := vs0.on hb27
  clear z20 vs0
  have hB31 := stepA hB21 hb27
  clear hB21 hb27
  try simp only [size_al] at hs28
  clear x22 x23 x24 x25
  obtain ⟨x32, x33, x34, x35⟩ := charge_at z29
  go_wp2_with fail
  refine (hI _).mono ?_
  rintro e w36 ⟨⟨ag, cg, rfl, vg0⟩, hb37⟩
  have hs38 := hb37.size
  have z39 := z29.on hb37
  have z40 := z30.on hb37
  clear z29 z30
  have hB41 := stepA hB31 hb37
  clear hB31 hb37
  try simp only [size_al] at hs38
  clear x32 x33 x34 x35
  obtain ⟨x42, x43, x44, x45⟩ := charge_at z39
  go_wp2_with fail
  refine (eqBl ag ap N cg cp B _ (by omega) vg0.bl z40.bl).mono ?_
  rintro e w46 ⟨rfl, hb47⟩
  have hs48 := hb47.size
  have z49 := z39.on hb47
  have z50 := z40.on hb47
  have z51 := vg0.on hb47
  clear z39 z40 vg0
  have hB52 := stepA hB41 hb47
  clear hB41 hb47
  try simp only [size_al] at hs48
  clear x42 x43 x44 x45
  obtain ⟨x53, x54, x55, x56⟩ := charge_at z49
  go_wp2_with fail
  refine (markBl1 ag N cg _ _ B _ (by omega) z51).mono ?_
  rintro e w57 ⟨rfl, z59, ht58⟩
  have hs60 := ht58.size
  try simp only [size_al] at hs60
  have z61 := z49.turns ht58 (by first | omega | (simp only [size_al]; omega))
  have z62 := z50.turns ht58 (by first | omega | (simp only [size_al]; omega))
  clear z49 z50
  have hB63 := hB52.trans (ht58.below (by omega) (by first | omega | (simp only [size_al]; omega)))
  clear hB52 ht58 z51
  clear x53 x54 x55 x56
  obtain ⟨x64, x65, x66, x67⟩ := charge_at z61
  go_wp2_with fail
  refine (heldBl1 ag N cg _ _ _ (by omega) z59).mono ?_
  rintro e w68 ⟨rfl, hb69⟩
  have hs' := hb69.symm
  clear hb69
  subst hs'
  clear x64 x65 x66 x67
  obtain ⟨x70, x71, x72, x73⟩ := charge_at z61
  go_wp2_with fail
  refine (toCharge_any c _).mono ?_
  rintro e w74 ⟨rfl, hb75⟩
  have hs76 := hb75.size
  have z77 := z61.on hb75
  have z78 := z62.on hb75
  have z79 := z59.on hb75
  clear z61 z62 z59
  have hB80 := stepA hB63 hb75
  clear hB63 hb75
  try simp only [size_al] at hs76
  clear x70 x71 x72 x73
  obtain ⟨x81, x82, x83, x84⟩ := charge_at z77
  go_wp2_with fail
  refine (hI _).mono ?_
  rintro e w85 ⟨⟨ah, ch, rfl, vh0⟩, hb86⟩
  have hs87 := hb86.size
  have z88 := z77.on hb86
  have z89 := z78.on hb86
  have z90 := z79.on hb86
  clear z77 z78 z79
  have hB91 := stepA hB80 hb86
  clear hB80 hb86
  try simp only [size_al] at hs87
  clear x81 x82 x83 x84
  obtain ⟨x92, x93, x94, x95⟩ := charge_at z88
  go_wp2_with fail
  refine (eqBl ah ap N ch cp B _ (by omega) vh0.bl z89.bl).mono ?_
  rintro e w96 ⟨rfl, hb97⟩
  have hs98 := hb97.size
  have z99 := z88.on hb97
  have z100 := z89.on hb97
  have z101 := z90.on hb97
  have z102 := vh0.on hb97
  clear z88 z89 z90 vh0
  have hB103 := stepA hB91 hb97
  clear hB91 hb97
  try simp only [size_al] at hs98
  clear x92 x93 x94 x95
  obtain ⟨x104, x105, x106, x107⟩ := charge_at z99
  go_wp2_with fail
  refine (heldBl1 ag N cg _ _ _ (by omega) z101).mono ?_
  rintro e w108 ⟨rfl, hb109⟩
  have hs' := hb109.symm
  clear hb109
  subst hs'
  clear x104 x105 x106 x107
  clear z99
  clear z100
  clear z101
  clear z102
  go_wp2
  go_ret
  exact ⟨rfl, hB103⟩
theorem planAll (c : Cg) (t : Int) (w : World) :
    Calls Try.prog 4 #[cgv c, .int .i64 t] w fun e w' => e = .returned (.bool true) ∧ Below w.heap.size w w' := by
  cases e : okC c t with
  | false => exact planLaw c t 0 (plB c) false w (by omega) (fun w => sPlan_no c t w e) (fun w => iPlan_no c t w e)
  | true =>
    have h1 : goodC c = true := by unfold okC at e; simp at e; exact e.1
    have h2 : 0 ≤ t ∧ t ≤ 200 := by unfold okC at e; simp at e; exact e.2
    obtain ⟨n, rfl⟩ : ∃ n : Nat, t = (n : Int) := ⟨t.toNat, by omega⟩
    exact planLaw c n n (plB c) true w (by omega) (fun w => sPlan_in c n w h1 (by omega)) (fun w => iPlan_in c n w h1 (by omega))
end Go.Proofs.Ytpgcildgjjmlbaa
