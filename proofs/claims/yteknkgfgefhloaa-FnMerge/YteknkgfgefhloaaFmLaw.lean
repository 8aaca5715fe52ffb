/- The walk of the law on merges of drawn words. -/
import Derived.Test.YteknkgfgefhloaaFmDr
import Derived.Test.YteknkgfgefhloaaFmM
import Derived.Test.YteknkgfgefhloaaMgY
import Derived.BigRegion
namespace Go.Proofs.Yteknkgfgefhloaa
open Go.RowKit
def AnsDm (w w' : World) (e : Ending) : Prop := ∃ a n c F b m d G, e = .returned (.tuple #[.slice a n c, .slice b m d]) ∧ n ≤ 7 ∧ m ≤ 7 ∧ ((a = none ∧ n = 0 ∧ c = 0) ∨ ∃ x o, a = some ⟨x, o, none⟩) ∧ ((b = none ∧ m = 0 ∧ d = 0) ∨ ∃ x o, b = some ⟨x, o, none⟩) ∧ IL w' a (n * 3) F ∧ IL w' b (m * 3) G ∧ Below w.heap.size w w'
set_option maxRecDepth 20000 in
set_option maxHeartbeats 4000000 in
theorem drawMerge (a : Option Addr) (len cap : Nat) (w : World) (hl : len ≤ 1048576) (hb : 0 < len → ∃ b off, a = some ⟨b, off, none⟩ ∧ b < w.heap.size ∧ ∀ i, i < len → ∃ v : Int, w.cell? ⟨b, off + i, none⟩ = some (.int .u8 v) ∧ 0 ≤ v ∧ v ≤ 255) :
    Calls Try.prog 8 #[.slice a len cap] w fun e w' => AnsDm w w' e := by
  have hc0 := cur_new w a len cap hl hb
  have hB0 : Below w.heap.size w (w.alloc (.cells #[.slice a len cap, .int .i64 0, .int .u64 0] 69)) := (Below.refl _ _).alloc (Nat.le_refl _) _
  clear hb
  go_enter Try.func8, Try.ntmps8
  go_wp2_with fail
  have hs0 : (w.alloc (.cells #[.slice a len cap, .int .i64 0, .int .u64 0] 69)).heap.size = w.heap.size + 1 := size_al _ _
  refine (stamped_any w.heap.size a len cap _ _ hc0 (by omega)).mono ?_
  rintro e w1 ⟨v1, k1, F, n1, rfl, ho1, h71, m1, hc1, ht1⟩
  rw [hs0] at ho1
  have hB1 := hB0.trans (ht1.below (Nat.le_refl _) (by rw [hs0]; omega))
  clear hc0 hB0 ht1 hs0
  obtain ⟨sa, sc, hv1, hs1, hi1⟩ := ho1.il
  subst hv1
  have HO1 : Hid (OwnS w1 (w.heap.size + 1) (.slice sa k1 sc) k1 F) := ho1
  clear ho1 hi1
  go_wp2_with fail
  refine (stamped_any w.heap.size a len cap _ _ hc1 (by omega)).mono ?_
  rintro e w2 ⟨v2, k2, G, n2, rfl, ho2, h72, m2, hc2, ht2⟩
  have ho1 := HO1.out.same (w' := w2) fun q hq => ht2.block q (HO1.out.ge q hq).2 (by have := (HO1.out.ge q hq).1; omega)
  have hB2 := hB1.trans (ht2.below (Nat.le_refl _) hB1.size)
  obtain ⟨sa', sc', e1, -, hi1⟩ := ho1.il
  cases e1
  obtain ⟨sb, sd, hv2, hs2, hi2⟩ := ho2.il
  subst hv2
  have HI1 : Hid (IL w2 sa (k1 * 3) F) := hi1
  have HI2 : Hid (IL w2 sb (k2 * 3) G) := hi2
  clear HO1 ho1 ho2 hc1 hc2 ht2 hB1 hi1 hi2
  go_wp2
  go_ret2
  exact ⟨sa, k1, sc, F, sb, k2, sd, G, rfl, h71, h72, hs1, hs2, HI1.out, HI2.out, hB2⟩
set_option maxRecDepth 20000 in
set_option maxHeartbeats 4000000 in
theorem mergeFn (a : Option Addr) (len cap : Nat) (w : World) (hl : len ≤ 1048576) (hb : 0 < len → ∃ b off, a = some ⟨b, off, none⟩ ∧ b < w.heap.size ∧ ∀ i, i < len → ∃ v : Int, w.cell? ⟨b, off + i, none⟩ = some (.int .u8 v) ∧ 0 ≤ v ∧ v ≤ 255) :
    Calls Try.prog 3 #[.slice a len cap] w fun e w' => e = .returned (.bool true) ∧ Below w.heap.size w w' := by
  have j : ¬ (1048576 : Int) < (len : Int) := by omega
  go_enter Try.func3, Try.ntmps3
  go_wp2_with fail
  refine (drawMerge a len cap w hl hb).mono ?_
  rintro e w1 ⟨a1, n, c1, F, b1, m, d1, G, rfl, hn7, hm7, k1, k2, hA, hB, hb1⟩
  clear hb
  have kI := iMergeA a1 b1 n c1 m d1 F G w1 (by omega) (by omega) k1 k2 hA hB
  have kJ := fun w2 (h : Below w1.heap.size w1 w2) => iMergeA b1 a1 m d1 n c1 G F w2 (by omega) (by omega) k2 k1 (hB.below h) (hA.below h)
  have kS := fun w2 (h : Below w1.heap.size w1 w2) => sMerge a1 b1 n c1 m d1 F G w2 (by omega) (by omega) (hA.below h) (hB.below h)
  rw [okM_comm G m F n] at kJ
  have hN := omN_le F n G m
  have HH : Hid (∀ z, okM F n G m = some z → (∀ i, i < n → swF F i ∈ z) ∧ (∀ i, i < m → swF G i ∈ z)) := fun z h => okM_has h
  clear k1 k2
  cases hR : okM F n G m with
  | none =>
    rw [hR] at kI kJ kS
    go_wp2_with fail
    refine kI.mono ?_
    rintro e w2 ⟨hx, hb2⟩
    obtain rfl : e = _ := hx
    go_wp2_with fail
    refine (kJ w2 hb2).mono ?_
    rintro e w3 ⟨hx, hb3⟩
    obtain rfl : e = _ := hx
    have hb23 := stepA hb2 hb3
    go_wp2_with fail
    refine (kS w3 hb23).mono ?_
    rintro e w4 ⟨hx, hb4⟩
    obtain rfl : e = _ := hx
    have hB4 := stepA hb1 (stepA hb23 hb4)
    clear kI kJ kS hb1 hb2 hb3 hb4 hb23 HH hR hA hB
    go_upto_region 10 with fail
    go_loopw [55] (fun i wr => i = .int .i64 0 ∧ wr = w4) (fun _ _ => 0)
    case atStart => exact ⟨rfl, rfl⟩
    case round =>
      obtain ⟨rfl, rfl⟩ := hrel
      go_wp2
      go_ret
      exact ⟨rfl, hB4⟩
  | some z =>
    rw [hR] at kI kJ kS hN
    have hz : z.length ≤ 80 := hN
    obtain ⟨q1, q2⟩ := HH.out z hR
    have HA : Hid (∀ i, i < n → hsW (flS z) (swF F i) z.length = true) := fun i hi => hsW_mem (q1 i hi)
    have HB : Hid (∀ i, i < m → hsW (flS z) (swF G i) z.length = true) := fun i hi => hsW_mem (q2 i hi)
    clear HH hR hN q1 q2
    go_wp2_with fail
    refine kI.mono ?_
    rintro e w2 ⟨⟨xa, xc, rfl, hX⟩, hb2⟩
    go_wp2_with fail
    refine (kJ w2 hb2).mono ?_
    rintro e w3 ⟨⟨ya, yc, rfl, hY⟩, hb3⟩
    have hb23 := stepA hb2 hb3
    go_wp2_with fail
    refine (kS w3 hb23).mono ?_
    rintro e w4 ⟨⟨ta, tc, rfl, -⟩, hb4⟩
    have hX4 := hX.il.below (stepA hb3 hb4)
    have hY4 := hY.il.below hb4
    have hb24 := stepA hb23 hb4
    have hB4 := stepA hb1 hb24
    have jn : ((z.length : Int) != (z.length : Int)) = false := by simp
    clear kI kJ kS hX hY hb2 hb3 hb4 hb23 hb1
    generalize hM : z.length = M at *
    generalize flS z = Z at *
    clear hM
    go_upto_region 10 with fail
    go_loopw [55] (fun i wr => ∃ q : Nat, q ≤ M ∧ i = .int .i64 (q : Int) ∧ Below w4.heap.size w4 wr) (fun i _ => M - (intOf i).toNat)
    case atStart => exact ⟨0, Nat.zero_le _, rfl, Below.refl _ _⟩
    case round =>
      obtain ⟨q, hq, rfl, hBr⟩ := hrel
      by_cases hlt : q < M
      · obtain ⟨xb, xo, ex, xl, x0, x1, x2⟩ := il_three (hX4.below hBr) hlt
        obtain ⟨yb, yo, ey, yl, y0, y1, y2⟩ := il_three (hY4.below hBr) hlt
        have i0 : (0 : Int) ≤ (q : Int) := by omega
        have i1 : (q : Int) < (M : Int) := by omega
        have heq := fun w => eq_stamp (Z (q * 3)) (Z (q * 3 + 1)) (Z (q * 3 + 2)) (Z (q * 3)) (Z (q * 3 + 1)) (Z (q * 3 + 2)) w
        rw [decide_eq_true rfl] at heq
        subst ex
        subst ey
        clear HA HB
        generalize Z (q * 3) = A at *
        generalize Z (q * 3 + 1) = B at *
        generalize Z (q * 3 + 2) = C at *
        go_wp2_with fail
        go_region
        go_wp2
        go_roundw
        case rel => exact ⟨q + 1, by omega, by go_num, hBr.drew⟩
        case measure => simp [intOf]; omega
      · have e : q = M := by omega
        subst e
        have i1 : ¬ (q : Int) < (q : Int) := by omega
        have hb2r := stepA hb24 hBr
        have kH1 := sHas xa a1 q xc n c1 Z F wr (by omega) (by omega) (hX4.below hBr) (hA.below hb2r) HA.out
        have kH2 := fun w9 (h : Below wr.heap.size wr w9) => sHas xa b1 q xc m d1 Z G w9 (by omega) (by omega) ((hX4.below hBr).below h) (hB.below (stepA hb2r h)) HB.out
        have hBr2 := stepA hB4 hBr
        clear HA HB
        go_wp2_with fail
        refine kH1.mono ?_
        rintro e w8 ⟨rfl, hb8⟩
        go_wp2_with fail
        refine (kH2 w8 hb8).mono ?_
        rintro e w9 ⟨rfl, hb9⟩
        have hBx := stepA (stepA hBr2 hb8) hb9
        clear kH1 kH2 hb8 hb9
        go_wp2
        go_ret
        exact ⟨rfl, hBx⟩
set_option maxHeartbeats 400000 in
theorem mergeFn_long (a : Option Addr) (len cap : Nat) (w : World) (h : 1048576 < len) :
    Calls Try.prog 3 #[.slice a len cap] w fun e w' => e = .returned (.bool true) ∧ Below w.heap.size w w' := by
  have j : (1048576 : Int) < (len : Int) := by omega
  go_enter Try.func3, Try.ntmps3
  go_wp2
  go_ret
  exact ⟨rfl, Below.refl _ _⟩
theorem mergeFnAll (a : Option Addr) (len cap : Nat) (w : World) (hb : 0 < len → ∃ b off, a = some ⟨b, off, none⟩ ∧ b < w.heap.size ∧ ∀ i, i < len → ∃ v : Int, w.cell? ⟨b, off + i, none⟩ = some (.int .u8 v) ∧ 0 ≤ v ∧ v ≤ 255) :
    Calls Try.prog 3 #[.slice a len cap] w fun e w' => e = .returned (.bool true) ∧ Below w.heap.size w w' := by
  by_cases h : len ≤ 1048576
  · exact mergeFn a len cap w h hb
  · exact mergeFn_long a len cap w (by omega)
end Go.Proofs.Yteknkgfgefhloaa
