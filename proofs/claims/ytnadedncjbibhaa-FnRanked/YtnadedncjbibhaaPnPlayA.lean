/- Chores played, as the program plays them: every argument (tools/gen_pn8.py). -/
import Derived.Test.YtnadedncjbibhaaPnPlay
import Derived.Laws.EntriesVeiled
namespace Go.Proofs.Ytnadedncjbibhaa
open Go.RowKit
set_option maxRecDepth 20000 in
set_option maxHeartbeats 4000000 in
theorem iPlayR (a b : Option Addr) (n c m d : Nat) (F f : Nat → Int) (u : Int) (w : World) (h : IL w a (n * 3) F) (h2 : IL w b m f) :
    Calls Try.prog 37 #[.slice a n c, .slice b m d, .int .i64 u, .agg #[.func (.func 36) #[] #[]]] w fun e w' => AnsPy false n F m f u w w' e ∧ Below w.heap.size w w' := by
  have hb0 : Below w.heap.size w (w.alloc (.cells #[.func (.func 36) #[] #[]] 62)) := (Below.refl _ _).alloc (Nat.le_refl _) _
  cases hv : gcV n F with
  | false =>
    have HV : Hid (gcV n F = false) := hv
    have HB : Hid (okR n F m f u = false) := okR_no (by rw [hv]; simp)
    clear hv
    go_enter Try.func37, Try.ntmps37
    go_wp2_with fail
    generalize w.alloc (.cells #[.func (.func 36) #[] #[]] 62) = w0 at *
    refine (iGoodC a n c F w0 (h.below hb0)).mono ?_
    rintro e w1 ⟨rfl, hb1⟩
    rw [HV.out]
    go_wp2
    go_ret3
    exact ⟨ansPy_no HB.out (Nat.le_trans hb0.size hb1.size), stepA hb0 hb1⟩
  | true =>
    have HV : Hid (gcV n F = true) := hv
    have hn6 := (gcV_gc hv).six
    cases hg : gfB m n f with
    | false =>
      have HF : Hid (gfB m n f = false) := hg
      have HB : Hid (okR n F m f u = false) := okR_no (by rintro ⟨_, e1, e2, _⟩; unfold gfB at hg; rw [decide_eq_true e1, e2] at hg; cases hg)
      clear hv hg
      go_enter Try.func37, Try.ntmps37
      go_wp2_with fail
      generalize w.alloc (.cells #[.func (.func 36) #[] #[]] 62) = w0 at *
      refine (iGoodC a n c F w0 (h.below hb0)).mono ?_
      rintro e w1 ⟨rfl, hb1⟩
      rw [HV.out]
      go_wp2_with fail
      refine (iFirsts b m d n f w1 hn6 (h2.below (stepA hb0 hb1))).mono ?_
      rintro e w1' ⟨rfl, hw1⟩
      have hs' := hw1.symm
      clear hw1
      subst hs'
      rw [HF.out]
      go_wp2
      go_ret3
      exact ⟨ansPy_no HB.out (Nat.le_trans hb0.size hb1.size), stepA hb0 hb1⟩
    | true =>
      have HF : Hid (gfB m n f = true) := hg
      by_cases h0 : u < 0
      · have HB : Hid (okR n F m f u = false) := okR_no (by omega)
        clear hv hg
        go_enter Try.func37, Try.ntmps37
        go_wp2_with fail
        generalize w.alloc (.cells #[.func (.func 36) #[] #[]] 62) = w0 at *
        refine (iGoodC a n c F w0 (h.below hb0)).mono ?_
        rintro e w1 ⟨rfl, hb1⟩
        rw [HV.out]
        go_wp2_with fail
        refine (iFirsts b m d n f w1 hn6 (h2.below (stepA hb0 hb1))).mono ?_
        rintro e w1' ⟨rfl, hw1⟩
        have hs' := hw1.symm
        clear hw1
        subst hs'
        rw [HF.out]
        go_wp2
        go_ret3
        exact ⟨ansPy_no HB.out (Nat.le_trans hb0.size hb1.size), stepA hb0 hb1⟩
      by_cases h1 : 2000 < u
      · have HB : Hid (okR n F m f u = false) := okR_no (by omega)
        have h0' : ¬ u < 0 := h0
        clear hv hg
        go_enter Try.func37, Try.ntmps37
        go_wp2_with fail
        generalize w.alloc (.cells #[.func (.func 36) #[] #[]] 62) = w0 at *
        refine (iGoodC a n c F w0 (h.below hb0)).mono ?_
        rintro e w1 ⟨rfl, hb1⟩
        rw [HV.out]
        go_wp2_with fail
        refine (iFirsts b m d n f w1 hn6 (h2.below (stepA hb0 hb1))).mono ?_
        rintro e w1' ⟨rfl, hw1⟩
        have hs' := hw1.symm
        clear hw1
        subst hs'
        rw [HF.out]
        go_wp2
        go_ret3
        exact ⟨ansPy_no HB.out (Nat.le_trans hb0.size hb1.size), stepA hb0 hb1⟩
      unfold gfB at hg
      rw [Bool.and_eq_true, decide_eq_true_eq] at hg
      obtain ⟨e, hf⟩ := hg
      have ok : okR n F m f u = true := okR_yes hv e hf (by omega) (by omega)
      subst e
      have k := iPlayInR a b m c d F f u.toNat w hv hf (by omega) h h2
      rw [Int.toNat_of_nonneg (by omega)] at k
      refine k.mono fun e w' ⟨h3, h4⟩ => ⟨?_, h4⟩
      unfold AnsPy rnM rnN rnG rnW
      rw [ok]
      exact h3
set_option maxRecDepth 20000 in
set_option maxHeartbeats 4000000 in
theorem iPlayU (a b : Option Addr) (n c m d : Nat) (F f : Nat → Int) (u : Int) (w : World) (pp : Nat) (hp : w.cell? ⟨pp, 0, none⟩ = some (.slice a n c)) (hpl : pp < w.heap.size) (h : IL w a (n * 3) F) (h2 : IL w b m f) :
    Calls Try.prog 37 #[.slice a n c, .slice b m d, .int .i64 u, .agg #[.func (.func 47) #[] #[.pointer (some ⟨pp, 0, none⟩)]]] w fun e w' => AnsPy true n F m f u w w' e ∧ Below w.heap.size w w' := by
  have hb0 : Below w.heap.size w (w.alloc (.cells #[.func (.func 47) #[] #[.pointer (some ⟨pp, 0, none⟩)]] 62)) := (Below.refl _ _).alloc (Nat.le_refl _) _
  cases hv : gcV n F with
  | false =>
    have HV : Hid (gcV n F = false) := hv
    have HB : Hid (okR n F m f u = false) := okR_no (by rw [hv]; simp)
    clear hv
    go_enter Try.func37, Try.ntmps37
    go_wp2_with fail
    generalize w.alloc (.cells #[.func (.func 47) #[] #[.pointer (some ⟨pp, 0, none⟩)]] 62) = w0 at *
    refine (iGoodC a n c F w0 (h.below hb0)).mono ?_
    rintro e w1 ⟨rfl, hb1⟩
    rw [HV.out]
    go_wp2
    go_ret3
    exact ⟨ansPy_no HB.out (Nat.le_trans hb0.size hb1.size), stepA hb0 hb1⟩
  | true =>
    have HV : Hid (gcV n F = true) := hv
    have hn6 := (gcV_gc hv).six
    cases hg : gfB m n f with
    | false =>
      have HF : Hid (gfB m n f = false) := hg
      have HB : Hid (okR n F m f u = false) := okR_no (by rintro ⟨_, e1, e2, _⟩; unfold gfB at hg; rw [decide_eq_true e1, e2] at hg; cases hg)
      clear hv hg
      go_enter Try.func37, Try.ntmps37
      go_wp2_with fail
      generalize w.alloc (.cells #[.func (.func 47) #[] #[.pointer (some ⟨pp, 0, none⟩)]] 62) = w0 at *
      refine (iGoodC a n c F w0 (h.below hb0)).mono ?_
      rintro e w1 ⟨rfl, hb1⟩
      rw [HV.out]
      go_wp2_with fail
      refine (iFirsts b m d n f w1 hn6 (h2.below (stepA hb0 hb1))).mono ?_
      rintro e w1' ⟨rfl, hw1⟩
      have hs' := hw1.symm
      clear hw1
      subst hs'
      rw [HF.out]
      go_wp2
      go_ret3
      exact ⟨ansPy_no HB.out (Nat.le_trans hb0.size hb1.size), stepA hb0 hb1⟩
    | true =>
      have HF : Hid (gfB m n f = true) := hg
      by_cases h0 : u < 0
      · have HB : Hid (okR n F m f u = false) := okR_no (by omega)
        clear hv hg
        go_enter Try.func37, Try.ntmps37
        go_wp2_with fail
        generalize w.alloc (.cells #[.func (.func 47) #[] #[.pointer (some ⟨pp, 0, none⟩)]] 62) = w0 at *
        refine (iGoodC a n c F w0 (h.below hb0)).mono ?_
        rintro e w1 ⟨rfl, hb1⟩
        rw [HV.out]
        go_wp2_with fail
        refine (iFirsts b m d n f w1 hn6 (h2.below (stepA hb0 hb1))).mono ?_
        rintro e w1' ⟨rfl, hw1⟩
        have hs' := hw1.symm
        clear hw1
        subst hs'
        rw [HF.out]
        go_wp2
        go_ret3
        exact ⟨ansPy_no HB.out (Nat.le_trans hb0.size hb1.size), stepA hb0 hb1⟩
      by_cases h1 : 2000 < u
      · have HB : Hid (okR n F m f u = false) := okR_no (by omega)
        have h0' : ¬ u < 0 := h0
        clear hv hg
        go_enter Try.func37, Try.ntmps37
        go_wp2_with fail
        generalize w.alloc (.cells #[.func (.func 47) #[] #[.pointer (some ⟨pp, 0, none⟩)]] 62) = w0 at *
        refine (iGoodC a n c F w0 (h.below hb0)).mono ?_
        rintro e w1 ⟨rfl, hb1⟩
        rw [HV.out]
        go_wp2_with fail
        refine (iFirsts b m d n f w1 hn6 (h2.below (stepA hb0 hb1))).mono ?_
        rintro e w1' ⟨rfl, hw1⟩
        have hs' := hw1.symm
        clear hw1
        subst hs'
        rw [HF.out]
        go_wp2
        go_ret3
        exact ⟨ansPy_no HB.out (Nat.le_trans hb0.size hb1.size), stepA hb0 hb1⟩
      unfold gfB at hg
      rw [Bool.and_eq_true, decide_eq_true_eq] at hg
      obtain ⟨e, hf⟩ := hg
      have ok : okR n F m f u = true := okR_yes hv e hf (by omega) (by omega)
      subst e
      have k := iPlayInU a b m c d F f u.toNat w pp hp hpl hv hf (by omega) h h2
      rw [Int.toNat_of_nonneg (by omega)] at k
      refine k.mono fun e w' ⟨h3, h4⟩ => ⟨?_, h4⟩
      unfold AnsPy rnM rnN rnG rnW
      rw [ok]
      exact h3
set_option maxHeartbeats 2000000 in
theorem iRunRanked (a b : Option Addr) (n c m d : Nat) (F f : Nat → Int) (u : Int) (w : World) (h : IL w a (n * 3) F) (h2 : IL w b m f) :
    Calls Try.prog 10 #[.slice a n c, .slice b m d, .int .i64 u] w fun e w' => AnsPy false n F m f u w w' e ∧ Below w.heap.size w w' := by
  have hb0 : Below w.heap.size w (w.alloc (.cells #[.func (.func 36) #[] #[]] 62)) := (Below.refl _ _).alloc (Nat.le_refl _) _
  have b0 := bx_new (w := w) [.func (.func 36) #[] #[]] 62 rfl
  have c0 := b0.c0
  clear b0
  go_enter Try.func10, Try.ntmps10
  go_wp2_with fail
  generalize w.alloc (.cells #[.func (.func 36) #[] #[]] 62) = w0 at *
  refine (iPlayR a b n c m d F f u w0 (h.below hb0) (h2.below hb0)).mono ?_
  rintro e w1 ⟨⟨a1, c1, a2, c2, X, rfl, hX, hX2, h3, h4⟩, hb1⟩
  go_wp2
  go_ret3
  exact ⟨⟨a1, c1, a2, c2, X, rfl, Nat.le_trans hb0.size hX, hX2, h3, h4.wide hb0.size (Nat.le_refl _)⟩, stepA hb0 hb1⟩
set_option maxHeartbeats 2000000 in
theorem iRunUrgent (a b : Option Addr) (n c m d : Nat) (F f : Nat → Int) (u : Int) (w : World) (h : IL w a (n * 3) F) (h2 : IL w b m f) :
    Calls Try.prog 31 #[.slice a n c, .slice b m d, .int .i64 u] w fun e w' => AnsPy true n F m f u w w' e ∧ Below w.heap.size w w' := by
  have hba : Below w.heap.size w (w.alloc (.cells #[.slice a n c] 23)) := (Below.refl _ _).alloc (Nat.le_refl _) _
  have ba := bx_new (w := w) [.slice a n c] 23 rfl
  have hbb : Below (w.alloc (.cells #[.slice a n c] 23)).heap.size (w.alloc (.cells #[.slice a n c] 23)) ((w.alloc (.cells #[.slice a n c] 23)).alloc (.cells #[.func (.func 47) #[] #[.pointer (some ⟨w.heap.size, 0, none⟩)]] 62)) := (Below.refl _ _).alloc (Nat.le_refl _) _
  have bb := bx_new (w := w.alloc (.cells #[.slice a n c] 23)) (b := w.heap.size + 1) [.func (.func 47) #[] #[.pointer (some ⟨w.heap.size, 0, none⟩)]] 62 (by rw [size_al])
  have bc := ba.on hbb
  have hb0 := stepA hba hbb
  have c0 := bb.c0
  have c1 := bc.c0
  have cl := bc.lt
  clear ba bb hba hbb bc
  go_enter Try.func31, Try.ntmps31
  go_wp2_with fail
  generalize (w.alloc (.cells #[.slice a n c] 23)).alloc (.cells #[.func (.func 47) #[] #[.pointer (some ⟨w.heap.size, 0, none⟩)]] 62) = w0 at *
  refine (iPlayU a b n c m d F f u w0 w.heap.size c1 cl (h.below hb0) (h2.below hb0)).mono ?_
  rintro e w1 ⟨⟨a1, c1, a2, c2, X, rfl, hX, hX2, h3, h4⟩, hb1⟩
  go_wp2
  go_ret3
  exact ⟨⟨a1, c1, a2, c2, X, rfl, Nat.le_trans hb0.size hX, hX2, h3, h4.wide hb0.size (Nat.le_refl _)⟩, stepA hb0 hb1⟩
end Go.Proofs.Ytnadedncjbibhaa
