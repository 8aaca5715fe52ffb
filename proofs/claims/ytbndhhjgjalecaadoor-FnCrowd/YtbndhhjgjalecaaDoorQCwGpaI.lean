/- Whether a path is one of a trip, as the program tells it. -/
import Derived.Test.YtbndhhjgjalecaaDoorQCwLfI
import Derived.Test.YtbndhhjgjalecaaDoorQCwRsI
import Derived.Test.YtbndhhjgjalecaaDoorQCwGpM
import Derived.Test.YtbndhhjgjalecaaDoorQCwRows
import Derived.Test.YtbndhhjgjalecaaDoorQCwTrip1
namespace Go.Proofs.YtbndhhjgjalecaaDoor
open Go.RowKit

structure RwP (W : Int) (n : Nat) (f : Nat → Int) (S T : Int) (K : Nat) (F : Nat → Int) : Prop where
  some : 1 ≤ K
  beg : F 0 = S
  fin : F (K - 1) = T
  step : ∀ k, 1 ≤ k → k < K → F k ∈ nbL W n f (F (k - 1)).toNat
/-- what Index tells -/
def IdxC (l : List Int) (x : Int) (e : Ending) : Prop := ∃ d : Int, e = .returned (.int .i64 d) ∧ decide (0 ≤ d) = inK l x l.length
theorem inK_mono {l : List Int} {x : Int} {k m : Nat} (h : inK l x k = true) (hk : k ≤ m) : inK l x m = true := by
  induction m with
  | zero =>
    obtain rfl : k = 0 := by omega
    exact h
  | succ m ih =>
    by_cases e : k = m + 1
    · subst e; exact h
    · simp [inK, ih (by omega)]
set_option maxHeartbeats 1000000 in
theorem index_any (a : Option Addr) (c : Nat) (l : List Int) (x : Int) (w : World) (hn : l.length ≤ 1048576) (hf : IL w a l.length (gl l)) :
    Calls Tryd.prog 90 #[.slice a l.length c, .int .i64 x] w fun e w' => IdxC l x e ∧ w' = w := by
  go_enter Tryd.func90, Tryd.ntmps90
  go_wp2
  go_loopw [8] (fun i wr => ∃ k : Nat, k ≤ l.length ∧ i = .int .i64 k ∧ inK l x k = false ∧ wr = w) (fun i _ => l.length - (intOf i).toNat)
  case atStart => exact ⟨0, Nat.zero_le _, rfl, rfl, rfl⟩
  case round =>
    obtain ⟨k, hk, rfl, hT, hw⟩ := hrel
    have hw' := hw.symm
    clear hw
    subst hw'
    by_cases hlt : k < l.length
    · obtain ⟨b, off, rfl, hb, hc⟩ := hf (by omega)
      have x0 := hc k hlt
      have j0 : (0 : Int) ≤ (k : Int) := by omega
      have j1 : (k : Int) < (l.length : Int) := by omega
      have HE : Hid ((gl l k == x) = false → inK l x (k + 1) = false) := fun h => by simp only [inK, hT, h]; rfl
      have HN : Hid ((gl l k == x) = true → inK l x l.length = true) := fun h => inK_mono (k := k + 1) (by simp only [inK, h, Bool.or_true]) (by omega)
      clear hc hf
      generalize gl l k = X at x0 HE HN
      cases r : (x == X) with
      | true =>
        have hr := HN.out (beq_iff_eq.2 (beq_iff_eq.1 r).symm)
        have HR : Hid (IdxC l x (.returned (.int .i64 (k : Int)))) := ⟨(k : Int), rfl, by rw [hr]; simp⟩
        clear HN HE hr
        go_wp2
        go_ret
        exact ⟨HR.out, by first | trivial | rfl⟩
      | false =>
        have HR : Hid (inK l x (k + 1) = false) := HE.out (beq_eq_false_iff_ne.2 (fun e => by rw [e] at r; simp at r))
        clear HN HE
        go_wp2
        exact ⟨⟨k + 1, by omega, by go_num, HR.out, by first | trivial | rfl⟩, by simp [intOf]; omega⟩
    · have hke : k = l.length := by omega
      subst hke
      have HR : Hid (IdxC l x (.returned (.int .i64 (-1)))) := ⟨-1, rfl, by rw [hT]; rfl⟩
      clear hT
      go_wp2
      go_ret
      exact ⟨HR.out, rfl⟩
set_option maxHeartbeats 1000000 in
theorem contains_any (a : Option Addr) (c : Nat) (l : List Int) (x : Int) (w : World) (hn : l.length ≤ 1048576) (hf : IL w a l.length (gl l)) :
    Calls Tryd.prog 72 #[.slice a l.length c, .int .i64 x] w fun e w' => e = .returned (.bool (inK l x l.length)) ∧ w' = w := by
  have hI := index_any a c l x w hn hf
  go_enter Tryd.func72, Tryd.ntmps72
  go_wp2_with fail
  refine hI.mono ?_
  rintro e w1 ⟨⟨d, rfl, hd⟩, hw1⟩
  have hs' := hw1.symm
  clear hw1 hI
  subst hs'
  have HD : Hid (decide (0 ≤ d) = inK l x l.length) := hd
  clear hd
  go_wp2
  go_ret
  exact ⟨ret_bool HD.out, rfl⟩
theorem says_yes {p : Prop} (h : p) : Says true p := ⟨fun _ => h, fun _ => rfl⟩
def AnsQ (P : Prop) (e : Ending) : Prop := ∃ q, e = .returned (.bool q) ∧ Says q P
theorem keep5 {w w' : World} {b r o : Nat} {u v x y : Value} (h : Bx w b [u, v, x]) (hy : w.cell? ⟨r, o, none⟩ = some y) (hr : r < w.heap.size) (k : Below w.heap.size w w') :
    w'.cell? ⟨b, 0, none⟩ = some u ∧ w'.cell? ⟨b, 1, none⟩ = some v ∧ w'.cell? ⟨b, 2, none⟩ = some x ∧ w'.cell? ⟨r, o, none⟩ = some y :=
  ⟨(h.on k).c0, (h.on k).c1, (h.on k).c2, (k.cell (p := ⟨r, o, none⟩) hr).trans hy⟩
set_option maxRecDepth 20000 in
set_option maxHeartbeats 4000000 in
theorem goodPath_any (W : Int) (a : Option Addr) (n c : Nat) (f : Nat → Int) (S T : Int) (A : Option Addr) (K C : Nat) (F : Nat → Int) (w : World) (hs : sizedB W n = true) (hS : 0 ≤ S ∧ S < (n : Int)) (hK : K ≤ 1048576) (hKC : K ≤ C) (hf : IL w a n f) (hF : IL w A K F) (hT : Tab w) :
    Calls Tryd.prog 42 #[gr W (hgt W n) a n c, tpv S T, .slice A K C] w fun e w' => AnsQ (RwP W n f S T K F) e ∧ Below w.heap.size w w' := by
  obtain ⟨H, eH⟩ : ∃ H, hgt W n = H := ⟨_, rfl⟩
  have HH : Hid (hgt W n = H) := eH
  rw [eH]
  clear eH
  have b0 := (bx_new (w := w) [.int .i64 W, .int .i64 H, .slice a n c] 68 rfl).alloc (.cells #[.int .i64 S, .int .i64 T] 34)
  have b1 := bx_new (w := w.alloc (.cells #[.int .i64 W, .int .i64 H, .slice a n c] 68)) (b := w.heap.size + 1) [.int .i64 S, .int .i64 T] 34 (by simp)
  have hb1 : Below w.heap.size w ((w.alloc (.cells #[.int .i64 W, .int .i64 H, .slice a n c] 68)).alloc (.cells #[.int .i64 S, .int .i64 T] 34)) := ((Below.refl _ _).alloc (Nat.le_refl _) _).alloc (by simp) _
  go_enter Tryd.func42, Tryd.ntmps42
  go_upto_region 1 with fail
  generalize (w.alloc (.cells #[.int .i64 W, .int .i64 H, .slice a n c] 68)).alloc (.cells #[.int .i64 S, .int .i64 T] 34) = w1 at *
  by_cases h0 : K = 0
  · subst h0
    have HNO : Hid (¬ RwP W n f S T 0 F) := fun h => by have := h.some; omega
    have y0 := b1.c0
    have y1 := b1.c1
    go_quiet (fail)
    go_wp2
    go_ret
    exact ⟨⟨_, rfl, says_no HNO.out⟩, below_dr hb1 _⟩
  · have hF1 := hF.below hb1
    obtain ⟨rb, ro, rfl, lrb, hrc⟩ := hF1 (by omega)
    have z0 := hrc 0 (by omega)
    have z1 := hrc (K - 1) (by omega)
    simp only [Nat.add_zero] at z0
    have HRC : Hid (∀ i, i < K → w1.cell? ⟨rb, ro + i, none⟩ = some (.int .i64 (F i))) := hrc
    have y0 := b1.c0
    have y1 := b1.c1
    have j0 : ((K : Int) == 0) = false := by simpa using h0
    have j3 : (0 : Int) < (K : Int) := by omega
    have j4 : (0 : Int) ≤ (K : Int) - 1 := by omega
    have j5 : (K : Int) - 1 < (K : Int) := by omega
    clear hrc
    cases r2 : (F 0 != S) with
    | true =>
      have HNO : Hid (¬ RwP W n f S T K F) := fun h => by rw [h.beg] at r2; simp at r2
      clear HRC
      generalize F 0 = X0 at *
      go_quiet (fail)
      go_wp2
      go_ret
      exact ⟨⟨_, rfl, says_no HNO.out⟩, below_dr hb1 _⟩
    | false =>
      have e2 : F 0 = S := by simpa using r2
      cases r3 : (F (K - 1) != T) with
      | true =>
        have HNO : Hid (¬ RwP W n f S T K F) := fun h => by rw [h.fin] at r3; simp at r3
        clear HRC e2
        generalize F 0 = X0 at *
        generalize F (K - 1) = X1 at *
        go_quiet (fail)
        go_wp2
        go_ret
        exact ⟨⟨_, rfl, says_no HNO.out⟩, below_dr hb1 _⟩
      | false =>
        have e3 : F (K - 1) = T := by simpa using r3
        have HMK : Hid ((∀ k, 1 ≤ k → k < K → F k ∈ nbL W n f (F (k - 1)).toNat) → RwP W n f S T K F) := fun h => ⟨by omega, e2, e3, h⟩
        have HNK : Hid (∀ k, 1 ≤ k → k < K → ¬ F k ∈ nbL W n f (F (k - 1)).toNat → ¬ RwP W n f S T K F) := fun k h1 h2 h3 h => h3 (h.step k h1 h2)
        have HIN : Hid (∀ q, (∀ r, 1 ≤ r → r < q → F r ∈ nbL W n f (F (r - 1)).toNat) → ∀ r, r < q → 0 ≤ F r ∧ F r < (n : Int)) := fun q h => row_in hs (by rw [e2]; exact hS) h
        obtain ⟨X0, hX0⟩ : ∃ X, F 0 = X := ⟨_, rfl⟩
        obtain ⟨X1, hX1⟩ : ∃ X, F (K - 1) = X := ⟨_, rfl⟩
        rw [hX0] at z0 r2
        rw [hX1] at z1 r3
        obtain ⟨i0, hi, hzz⟩ := Option.map_eq_some_iff.1 infoI
        simp only [Prod.mk.injEq] at hzz
        obtain ⟨hz0, hz1, hz2⟩ := hzz
        have hrc := fun w => run_cut 23 3 i0 1 Tryd.underlying23 hi hz1 (some ⟨rb, ro, none⟩) K C (by omega) hKC w
        obtain ⟨v2, hv2, hv3⟩ : ∃ v2 : Option Addr, v2 = (if C - 1 = 0 then (some ⟨rb, ro, none⟩ : Option Addr) else (some ⟨rb, ro, none⟩ : Option Addr).map (·.add (1 * 1))) ∧ (1 < K → v2 = some ⟨rb, ro + 1, none⟩) := ⟨_, rfl, fun h => by rw [if_neg (by omega)]; simp [Addr.add_lit]⟩
        rw [← hv2] at hrc
        have HV3 : Hid (1 < K → v2 = some ⟨rb, ro + 1, none⟩) := hv3
        obtain ⟨K1, hK1⟩ : ∃ K1, K - 1 = K1 := ⟨K - 1, rfl⟩
        have HK1 : Hid (K = K1 + 1) := by show K = K1 + 1; omega
        rw [hK1] at hrc
        clear hK1
        generalize C - 1 = C1 at *
        clear hX0 hX1 e2 e3 hv2 hv3 hi hz0 hz1 hz2
        go_quiet (fail)
        go_wp2
        clear hrc
        generalize hnq : w1.drewN _ = wq at *
        have hBq : Below w1.heap.size w1 wq := by rw [← hnq]; exact below_dr (Below.refl _ _) _
        clear hnq z0 z1 y0 y1
        go_loopw [34] (fun i wr => ∃ q : Nat, q ≤ K1 ∧ i = .int .i64 q ∧ (∀ r, 1 ≤ r → r < q + 1 → F r ∈ nbL W n f (F (r - 1)).toNat) ∧ Below w1.heap.size w1 wr) (fun i _ => K1 - (intOf i).toNat)
        case atStart => exact ⟨0, Nat.zero_le _, rfl, fun r h1 h2 => absurd h2 (by omega), hBq⟩
        case round =>
          obtain ⟨q, hq, rfl, hSt, hBr⟩ := hrel
          have HS : Hid (∀ r, 1 ≤ r → r < q + 1 → F r ∈ nbL W n f (F (r - 1)).toNat) := hSt
          have hBw := stepA hb1 hBr
          clear hSt
          by_cases hlt : q < K1
          · obtain ⟨u0, u1⟩ := HIN.out (q + 1) HS.out q (by omega)
            obtain ⟨P, hP⟩ : ∃ P : Nat, F q = (P : Int) := ⟨(F q).toNat, by omega⟩
            have hPn : P < n := by omega
            have z0 := (hBr.cell (p := ⟨rb, ro + q, none⟩) lrb).trans (HRC.out q (by have := HK1.out; omega))
            have z1 := (hBr.cell (p := ⟨rb, ro + (q + 1), none⟩) lrb).trans (HRC.out (q + 1) (by have := HK1.out; omega))
            rw [show ro + (q + 1) = ro + 1 + q by omega] at z1
            rw [hP] at z0
            have hv := HV3.out (by have := HK1.out; omega)
            subst hv
            have lrr : rb < wr.heap.size := Nat.lt_of_lt_of_le lrb hBr.size
            have bG := b0.on hBr
            have g0 := bG.c0
            have g1 := bG.c1
            have g2 := bG.c2
            have k0 : (0 : Int) ≤ (q : Int) := by omega
            have hKe := HK1.out
            have k1 : (q : Int) < (K : Int) := by omega
            clear hKe
            have k2 : (q : Int) < (K1 : Int) := by omega
            have hw0 := Below.refl wr.heap.size wr
            have kL := fun w h hT => later_any W a n c f P w h hs hPn hT
            rw [HH.out] at kL
            have hlen := nbL_len W n f P
            have HY : Hid (inK (nbL W n f P) (F (q + 1)) (nbL W n f P).length = true → ∀ r, 1 ≤ r → r < q + 1 + 1 → F r ∈ nbL W n f (F (r - 1)).toNat) := fun h r h1 h2 => by
              by_cases e : r = q + 1
              · subst e
                simp only [Nat.add_sub_cancel]
                rw [hP, Int.toNat_natCast]; exact inK_mem.1 h
              · exact HS.out r h1 (by omega)
            have HN : Hid (inK (nbL W n f P) (F (q + 1)) (nbL W n f P).length = false → ¬ RwP W n f S T K F) := fun h => HNK.out (q + 1) (by omega) (by have := HK1.out; omega) (fun h2 => by
              simp only [Nat.add_sub_cancel] at h2
              rw [hP, Int.toNat_natCast] at h2
              rw [inK_mem.2 h2] at h; cases h)
            have hfr := hf.below hBw
            have hTr := hT.on hBw
            have kC := fun a c w h => contains_any a c (nbL W n f P) (F (q + 1)) w (by omega) h
            generalize inK (nbL W n f P) (F (q + 1)) (nbL W n f P).length = R at kC HY HN
            generalize nbL W n f P = l at kL kC hlen
            generalize F (q + 1) = X at *
            clear HMK HNK HIN HRC HS HV3 hP u0 u1 bG
            cases R with
            | true =>
              have HR : Hid (∀ r, 1 ≤ r → r < q + 1 + 1 → F r ∈ nbL W n f (F (r - 1)).toNat) := HY.out rfl
              clear HY HN
              go_wp2_with fail
              go_region_held3 (fun w' => w'.cell? ⟨w.heap.size, 0, none⟩ = some (.int .i64 W) ∧ w'.cell? ⟨w.heap.size, 1, none⟩ = some (.int .i64 H) ∧ w'.cell? ⟨w.heap.size, 2, none⟩ = some (.slice a n c) ∧ w'.cell? ⟨rb, ro + q, none⟩ = some (.int .i64 (P : Int)))
                (first | (exact keep5 (b0.on hBr) z0 lrr hw0.drew) | (exact keep5 (b0.on hBr) z0 lrr hw1) | (exact keep5 (b0.on hBr) z0 lrr hw2) | (fail))
                (first | (go_at_call 47; refine (kL _ (hfr.below hw0.drew) (hTr.on hw0.drew)).mono ?_; rintro e w8 ⟨⟨a8, c8, rfl, hL8⟩, hb8⟩; have hw1 := stepA hw0.drew hb8) | (go_at_call 72; refine (kC a8 c8 _ hL8.il).mono ?_; rintro e w9 ⟨rfl, hw9⟩; have hs' := hw9.symm; clear hw9; subst hs'; have hw2 := hw1) | (fail))
              go_wp2
              exact ⟨⟨q + 1, by omega, by go_num, HR.out, stepA hBr hw1⟩, by simp [intOf]; omega⟩
            | false =>
              have HR : Hid (¬ RwP W n f S T K F) := HN.out rfl
              clear HY HN
              go_wp2_with fail
              go_region_held3 (fun w' => w'.cell? ⟨w.heap.size, 0, none⟩ = some (.int .i64 W) ∧ w'.cell? ⟨w.heap.size, 1, none⟩ = some (.int .i64 H) ∧ w'.cell? ⟨w.heap.size, 2, none⟩ = some (.slice a n c) ∧ w'.cell? ⟨rb, ro + q, none⟩ = some (.int .i64 (P : Int)))
                (first | (exact keep5 (b0.on hBr) z0 lrr hw0.drew) | (exact keep5 (b0.on hBr) z0 lrr hw1) | (exact keep5 (b0.on hBr) z0 lrr hw2) | (fail))
                (first | (go_at_call 47; refine (kL _ (hfr.below hw0.drew) (hTr.on hw0.drew)).mono ?_; rintro e w8 ⟨⟨a8, c8, rfl, hL8⟩, hb8⟩; have hw1 := stepA hw0.drew hb8) | (go_at_call 72; refine (kC a8 c8 _ hL8.il).mono ?_; rintro e w9 ⟨rfl, hw9⟩; have hs' := hw9.symm; clear hw9; subst hs'; have hw2 := hw1) | (fail))
              go_wp2
              go_ret
              exact ⟨⟨_, rfl, says_no HR.out⟩, stepA hBw hw1⟩
          · have hqe : q = K1 := by omega
            have HR : Hid (RwP W n f S T K F) := HMK.out (fun k h1 h2 => HS.out k h1 (by have := HK1.out; omega))
            subst hqe
            clear HMK HNK HIN HRC HS
            go_wp2
            go_ret
            exact ⟨⟨_, rfl, says_yes HR.out⟩, hBw⟩
end Go.Proofs.YtbndhhjgjalecaaDoor
