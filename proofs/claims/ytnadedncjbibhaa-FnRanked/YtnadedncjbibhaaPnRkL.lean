/- The walk of the law on plays by rank. -/
import Derived.Test.YtnadedncjbibhaaPnFine
import Derived.Test.YtnadedncjbibhaaPnDrR
import Derived.Test.YtnadedncjbibhaaPnRunT
import Derived.Test.YtnadedncjbibhaaPnPlayA
import Derived.Test.YtnadedncjbibhaaPnAtI
namespace Go.Proofs.Ytnadedncjbibhaa
open Go.RowKit
theorem at_here {F : Nat → Int} {i : Nat} (h1 : 1 ≤ F (i * 3 + 1)) : ∀ (d : Nat) (r : Int), F (i * 3 + 1) ≤ r → F (i * 3 + 2) + 1 - r ≤ (d : Int) → NoAt F i r → ∃ v, AtIs F i v
  | 0, r, h0, hd, hn => ⟨-1, atIs_none hn (by omega)⟩
  | d + 1, r, h0, hd, hn => by
    by_cases hr : r ≤ F (i * 3 + 2)
    · by_cases e : asK F i r = r
      · exact ⟨r, atIs_told hn h1 h0 hr e⟩
      · exact at_here h1 d (r + 1) (by omega) (by omega) (noAt_next hn e)
    · exact ⟨-1, atIs_none hn (by omega)⟩
theorem atV_is {F : Nat → Int} {n i : Nat} (g : Gc n F) (hi : i < n) : AtIs F i (atV F i) := by
  obtain ⟨v, hv⟩ := at_here (g.n1 i hi) (F (i * 3 + 2) + 1 - F (i * 3 + 1)).toNat (F (i * 3 + 1)) (Int.le_refl _) (by omega) (noAt_start F i)
  rw [← atV_of hv]
  exact hv
theorem wo_le {F f : Nat → Int} {n i t : Nat} (g : Gc n F) (hf : gfK f n = true) (hi : i < n) (h0 : 0 ≤ atV F i) : (ruP false n F f t).wo i ≤ atV F i := by
  obtain ⟨h1, h2, h3, _⟩ := (atV_is g hi).told (by omega)
  exact wo_rank g hf hi h1 (Int.le_trans h2 (g.d2 i hi)) h3 t
set_option maxRecDepth 20000 in
set_option maxHeartbeats 4000000 in
theorem rankFn (a : Option Addr) (len cap : Nat) (w : World) (hl : len ≤ 1048576) (hb : 0 < len → ∃ b off, a = some ⟨b, off, none⟩ ∧ b < w.heap.size ∧ ∀ i, i < len → ∃ v : Int, w.cell? ⟨b, off + i, none⟩ = some (.int .u8 v) ∧ 0 ≤ v ∧ v ≤ 255) :
    Calls Try.prog 3 #[.slice a len cap] w fun e w' => e = .returned (.bool true) ∧ Below w.heap.size w w' := by
  have j : ¬ (1048576 : Int) < (len : Int) := by omega
  go_enter Try.func3, Try.ntmps3
  go_wp2_with fail
  refine (drawRank a len cap w hl hb).mono ?_
  rintro e w1 ⟨a1, k, c1, F, b1, m, d1, f, u, rfl, hk7, hkc, hm9, hA, hB, hb1⟩
  clear hb
  have kI := iRunRanked a1 b1 k c1 m d1 F f u w1 hA hB
  have kS := fun w2 (h : Below w1.heap.size w1 w2) => sRunRanked a1 b1 k c1 m d1 F f u w2 (by omega) (hA.below h) (hB.below h)
  unfold AnsPy at kI kS
  cases hok : okR k F m f u with
  | false =>
    rw [hok] at kI kS
    go_wp2_with fail
    refine kI.mono ?_
    rintro e w2 ⟨⟨sa, sc, la, lc, X, rfl, -⟩, hb2⟩
    go_wp2_with fail
    refine (kS w2 hb2).mono ?_
    rintro e w3 ⟨⟨ta, tc, qa, qc, Y, rfl, -⟩, hb3⟩
    have hb4 := stepA (stepA hb1 hb2) hb3
    clear kI kS hb1 hb2 hb3
    go_wp2
    go_ret
    exact ⟨rfl, hb4⟩
  | true =>
    have hok' := hok
    unfold okR at hok'
    simp only [Bool.and_eq_true, decide_eq_true_eq] at hok'
    obtain ⟨g1, g2, g3, g4, g5⟩ := hok'
    have HG : Hid (Gc k F) := gcV_gc g1
    have HV : Hid (gcV k F = true) := g1
    have hn6 := HG.out.six
    obtain ⟨U, hU⟩ : ∃ U : Nat, (U : Int) = u := ⟨u.toNat, by omega⟩
    subst hU
    have eM : rnM false k F m f (U : Int) = (ruP false k F f U).m := by unfold rnM; rw [hok]; rfl
    have eN : rnN k F m f (U : Int) = k := by unfold rnN; rw [hok]; rfl
    have eG : rnG false k F f (U : Int) = (ruP false k F f U).G := rfl
    have eW : rnW false k F f (U : Int) = (ruP false k F f U).wo := rfl
    rw [hok, eM, eN, eG, eW] at kI kS
    subst g2
    have Hf : Hid (gfK f m = true) := g3
    have hmt := (pk_run false HG.out Hf.out U (by omega)).mt
    have hC := cov_run (ur := false) (n := m) (F := F) (f := f) U
    have HC : Hid (Cov false m F f (ruP false m F f U).m (ruP false m F f U).G U) := hC
    have HW : Hid (∀ i, i < m → 0 ≤ atV F i → (ruP false m F f U).wo i ≤ atV F i) := fun i hi h0 => wo_le HG.out Hf.out hi h0
    have eA : atN m F = m := by unfold atN; rw [HV.out]; rfl
    clear hok g1 g3 eM eN eG eW hC
    generalize (ruP false m F f U).m = M at *
    generalize (ruP false m F f U).G = G at *
    generalize (ruP false m F f U).wo = WO at *
    go_wp2_with fail
    refine kI.mono ?_
    rintro e w2 ⟨⟨sa, sc, la, lc, X, rfl, -, -, hS, hL⟩, hb2⟩
    go_wp2_with fail
    refine (kS w2 hb2).mono ?_
    rintro e w3 ⟨⟨ta, tc, qa, qc, Y, rfl, -⟩, hb3⟩
    have hb23 := stepA hb2 hb3
    have jn : ((m : Int) != (m : Int)) = false := by simp
    clear kI kS
    go_wp2_with fail
    refine (sFine false a1 b1 sa m c1 d1 M sc F f G U w3 HG.out Hf.out (by omega) (by omega) HC.out (hA.below hb23) (hB.below hb23) (hS.il.below hb3)).mono ?_
    rintro e w4 ⟨rfl, hb4⟩
    have hb24 := stepA hb23 hb4
    have kT := iTimes a1 m c1 F w4 hkc (hA.below hb24)
    rw [HV.out, eA] at kT
    go_wp2_with fail
    refine kT.mono ?_
    rintro e w5 ⟨⟨ra, rc, rfl, hR⟩, hb5⟩
    have hLw := hL.il.below (stepA hb3 (stepA hb4 hb5))
    have hRw := hR.il
    have hB5 := stepA (stepA hb1 hb24) hb5
    clear kT hS hL hR hA hB hb1 hb2 hb3 hb4 hb5 hb23 hb24 HC HG HV Hf eA
    go_upto_region 14 with fail
    go_loopw [65] (fun i wr => ∃ q : Nat, q ≤ m ∧ i = .int .i64 (q : Int) ∧ Below w5.heap.size w5 wr) (fun i _ => m - (intOf i).toNat)
    case atStart => exact ⟨0, Nat.zero_le _, rfl, Below.refl _ _⟩
    case round =>
      obtain ⟨q, hq, rfl, hBr⟩ := hrel
      by_cases hlt : q < m
      · obtain ⟨lb, lo, el, ll, hcl⟩ := (hLw.below hBr) (by omega)
        obtain ⟨rb, ro, er, rl, hcr⟩ := (hRw.below hBr) (by omega)
        have x0 := hcl q hlt
        have y0 := hcr q hlt
        have i0 : (0 : Int) ≤ (q : Int) := by omega
        have i1 : (q : Int) < (m : Int) := by omega
        have i2 : ¬ (m : Int) ≤ (q : Int) := by omega
        have HWq : Hid (0 ≤ atV F q → WO q ≤ atV F q) := HW.out q hlt
        have hBw := stepA hB5 hBr
        subst el
        subst er
        clear hcl hcr HW
        generalize atV F q = R at *
        generalize WO q = L at *
        by_cases h0 : R < 0
        · have je : ((m : Int) == (m : Int)) = true := by simp
          go_wp2
          go_ret
          exact ⟨by first | rfl | exact ret_bool (by simp), hBw⟩
        · have h1 : ¬ R < L := by have := HWq.out (by omega); omega
          go_wp2_with fail
          go_region
          go_wp2
          go_roundw
          case rel => exact ⟨q + 1, by omega, by go_num, hBr.drew⟩
          case measure => simp [intOf]; omega
      · have e : q = m := by omega
        subst e
        have i1 : ¬ (q : Int) < (q : Int) := by omega
        have hBw := stepA hB5 hBr
        clear HW
        go_wp2
        go_ret
        exact ⟨rfl, hBw⟩
set_option maxHeartbeats 400000 in
theorem rankFn_long (a : Option Addr) (len cap : Nat) (w : World) (h : 1048576 < len) :
    Calls Try.prog 3 #[.slice a len cap] w fun e w' => e = .returned (.bool true) ∧ Below w.heap.size w w' := by
  have j : (1048576 : Int) < (len : Int) := by omega
  go_enter Try.func3, Try.ntmps3
  go_wp2
  go_ret
  exact ⟨rfl, Below.refl _ _⟩
theorem rankFnAll (a : Option Addr) (len cap : Nat) (w : World) (hb : 0 < len → ∃ b off, a = some ⟨b, off, none⟩ ∧ b < w.heap.size ∧ ∀ i, i < len → ∃ v : Int, w.cell? ⟨b, off + i, none⟩ = some (.int .u8 v) ∧ 0 ≤ v ∧ v ≤ 255) :
    Calls Try.prog 3 #[.slice a len cap] w fun e w' => e = .returned (.bool true) ∧ Below w.heap.size w w' := by
  by_cases h : len ≤ 1048576
  · exact rankFn a len cap w h hb
  · exact rankFn_long a len cap w (by omega)
end Go.Proofs.Ytnadedncjbibhaa
