/- Where all places are behind a step, as the program tells it. -/
import Derived.Test.YtipopglbpfdcmaaDoorStSpec
import Derived.Test.YtipopglbpfdcmaaDoorStPut
namespace Go.Proofs.YtipopglbpfdcmaaDoor
open Go.RowKit

set_option maxHeartbeats 4000000 in
theorem implStp_no (W : Int) (a b : Option Addr) (n c m d : Nat) (f g : Nat → Int) (v : Int) (w : World) (hn : n ≤ 1048576) (hm : m ≤ 1048576) (hf : IL w a n f) (hg : IL w b m g) (hq : seeQ W n f m g v = false) :
    Calls Tryd.prog 7 #[cel W a n c, .slice b m d, .int .i64 v] w fun e w' => e = .returned (.tuple #[.slice none 0 0, .bool false]) ∧ Below w.heap.size w w' := by
  have hb0 : Below w.heap.size w (w.alloc (celO W a n c 25)) := (Below.refl _ _).alloc (Nat.le_refl _) _
  have hgd := under_any W a b n c m d f g (w.alloc (celO W a n c 25)) hn hm (hf.alloc _) (hg.alloc _)
  obtain ⟨u0, u1, u2, u3, u4, hx⟩ := gof_gr W a n c (undB W n f m g)
  rw [hx] at hgd
  cases hu : undB W n f m g with
  | false =>
    rw [hu] at hgd
    go_enter Tryd.func7, Tryd.ntmps7
    go_wp2_with fail
    refine hgd.mono ?_
    rintro e w1 ⟨rfl, hb1⟩
    have hB1 := stepA hb0 hb1
    clear hgd hb0 hb1 hx
    go_wp2
    go_ret2
    exact ⟨rfl, hB1.alloc hB1.size _⟩
  | true =>
    have hv : wayB v = false := by simpa [seeQ, hu] using hq
    rw [hu] at hgd
    go_enter Tryd.func7, Tryd.ntmps7
    go_wp2_with fail
    refine hgd.mono ?_
    rintro e w1 ⟨rfl, hb1⟩
    have hB1 := stepA hb0 hb1
    clear hgd hb0 hb1 hx
    go_wp2_with fail
    refine (iway_any v _).mono ?_
    rw [hv]
    rintro e w3 ⟨rfl, hw3⟩
    have hs3 := hw3.symm
    clear hw3
    subst hs3
    go_wp2
    go_ret2
    exact ⟨rfl, hB1.alloc hB1.size _⟩
set_option maxHeartbeats 1000000 in
theorem implStp_yes (W : Int) (a b : Option Addr) (n c m d : Nat) (f g : Nat → Int) (v : Nat) (w : World) (hn : n ≤ 1048576) (hm : m ≤ 1048576) (hf : IL w a n f) (hg : IL w b m g) (hT : Tab w) (hu : undB W n f m g = true) (hv : v < 4) :
    Calls Tryd.prog 7 #[cel W a n c, .slice b m d, .int .i64 (v : Int)] w fun e w' => AnsB w w' e (ord (mkd (fun p => stN W (hgt W n) f v p.toNat) g m) n) true ∧ Below w.heap.size w w' := by
  obtain ⟨i0, hi, hzz⟩ := Option.map_eq_some_iff.1 infoI
  simp only [Prod.mk.injEq] at hzz
  obtain ⟨hz0, hz1, hz2⟩ := hzz
  have hb0 : Below w.heap.size w (w.alloc (celO W a n c 25)) := (Below.refl _ _).alloc (Nat.le_refl _) _
  have hgd := under_any W a b n c m d f g (w.alloc (celO W a n c 25)) hn hm (hf.alloc _) (hg.alloc _)
  rw [hu] at hgd
  have hg' : Calls Tryd.prog 12 #[cel W a n c, .slice b m d] (w.alloc (celO W a n c 25)) fun e w' => e = .returned (.tuple #[gr W (hgt W n) a n c, .bool true]) ∧ Below (w.alloc (celO W a n c 25)).heap.size (w.alloc (celO W a n c 25)) w' := hgd
  clear hgd
  have hu2 : celB W n f = true ∧ plsB n f g m = true := by simpa [undB] using hu
  have hwB : wayB (v : Int) = true := by simp [wayB]; omega
  have hs := (celB_parts hu2.1).1
  obtain ⟨hH, hH1, hH2⟩ := hgt_mul hs
  have hF : ∀ k, k < m → ∃ p : Nat, g k = (p : Int) ∧ p < n ∧ (fun p => stN W (hgt W n) f v p.toNat) (g k) = stN W (hgt W n) f v p := fun k hk => by
    have h1 := (plsB_at hu2.2 hk).1
    have h2 := frB_t h1
    obtain ⟨p, hp⟩ := Int.eq_ofNat_of_zero_le h2.1
    refine ⟨p, hp, by omega, ?_⟩
    show stN W (hgt W n) f v (g k).toNat = _
    rw [hp, Int.toNat_natCast]
  have hbd : ∀ j, j < m → 0 ≤ (fun p : Int => stN W (hgt W n) f v p.toNat) (g j) ∧ (fun p : Int => stN W (hgt W n) f v p.toNat) (g j) < n := fun j hj => by
    obtain ⟨p, hp, hpn, e⟩ := hF j hj
    rw [e]; exact stN_bd hH hpn
  have hEq := step_eq (fun p : Int => stN W (hgt W n) f v p.toNat) g n m hbd
  generalize hh : (fun p : Int => stN W (hgt W n) f v p.toNat) = h at hF hEq ⊢
  obtain ⟨R, hR⟩ : ∃ R, ord (mkd h g m) n = R := ⟨_, rfl⟩
  rw [hR] at hEq ⊢
  have HE : Hid (Lib.compact ((sts h g m).mergeSort fun x y => decide (x ≤ y)) = R) := hEq
  have HF : Hid (∀ k, k < m → ∃ p : Nat, g k = (p : Int) ∧ p < n ∧ h (g k) = stN W (hgt W n) f v p) := hF
  clear hh hR hEq hF hbd hH hH1 hH2
  obtain ⟨H, eH⟩ : ∃ H, hgt W n = H := ⟨_, rfl⟩
  have HHH : Hid (hgt W n = H) := eH
  rw [eH] at hg'
  clear eH
  go_enter Tryd.func7, Tryd.ntmps7
  go_wp2_with fail
  refine hg'.mono ?_
  rintro e w1 ⟨rfl, hb1⟩
  have hB1 := stepA hb0 hb1
  clear hg' hb0 hb1
  go_wp2_with fail
  refine (iway_any v _).mono ?_
  rw [hwB]
  rintro e w3 ⟨rfl, hw3⟩
  have hs3 := hw3.symm
  clear hw3
  subst hs3
  have bG := bx_new (w := w1) [.int .i64 W, .int .i64 H, .slice a n c] 42 rfl
  have hBG : Below w1.heap.size w1 (w1.alloc (.cells #[.int .i64 W, .int .i64 H, .slice a n c] 42)) := (Below.refl _ _).alloc (Nat.le_refl _) _
  obtain ⟨wm, hrun, hown, hgrow⟩ := run_make_own (P := Tryd.prog) (w1.alloc (.cells #[.int .i64 W, .int .i64 H, .slice a n c] 42)) (w1.heap.size + 1) 23 3 i0 _ 1 Tryd.underlying23 hi hz0 hz1 .i64 .i64 m (by rw [hz2]; omega) (by unfold maxLen; omega) (by simp)
  have hBm : Below (w1.heap.size + 1) (w1.alloc (.cells #[.int .i64 W, .int .i64 H, .slice a n c] 42)) wm := (Below.refl _ _).grown hgrow (by simp) (fun q hq => by cases hq)
  rw [size_al] at hrun hown
  have bM := bG.below hBm (by omega)
  have hB2 := hB1.trans ((hBG.trans (hBm.mono (by omega))).mono hB1.size)
  have HO : Hid (Own wm (w1.heap.size + 1) (.slice (some ⟨w1.heap.size + 1, 0, none⟩) 0 m) (sts h g 0).length (gl (sts h g 0))) := hown
  have hs1 := hB1.size
  have hsM : w1.heap.size + 1 ≤ wm.heap.size := by have := hBm.size; simpa using this
  clear hown hgrow hBm hBG bG hB1
  go_wp2
  clear hrun
  go_loopw [10, 31] (fun o i wr => ∃ k : Nat, k ≤ m ∧ i = .int .i64 k ∧ Own wr (w1.heap.size + 1) o (sts h g k).length (gl (sts h g k)) ∧ Below (w1.heap.size + 1) wm wr) (fun _ i _ => m - (intOf i).toNat)
  case atStart => exact ⟨0, Nat.zero_le _, rfl, HO.out, Below.refl _ _⟩
  case round =>
    obtain ⟨k, hk, rfl, hown, hB⟩ := hrel
    have HL : Hid ((sts h g k).length = k) := sts_len h g k
    have hlen : (sts h g k).length ≤ k := Nat.le_of_eq HL.out
    have hBw := hB2.trans (hB.mono (by omega))
    have hbase : w1.heap.size + 1 ≤ wr.heap.size := by have := hB.size; omega
    clear HO
    by_cases hlt : k < m
    · obtain ⟨q, off, rfl, hb, hc⟩ := (hg.below hBw) (by omega)
      have y0 := hc k hlt
      have bw := bM.below hB (by omega)
      have x0 := bw.c0
      have x1 := bw.c1
      have x2 := bw.c2
      have j1 : (k : Int) < (m : Int) := by omega
      have hstep : sts h g (k + 1) = sts h g k ++ [h (g k)] := rfl
      obtain ⟨p, hp, hpn, hFk⟩ := HF.out k hlt
      have hfw := hf.below hBw
      have hTw := hT.on hBw
      have hst := step_any W a n c f p v wr hfw hs hv hpn hTw
      rw [← hFk, HHH.out] at hst
      rw [hp] at y0
      clear hc hFk hp
      generalize (p : Int) = y at y0 hst
      generalize h (g k) = z at hst hstep
      have HS : Hid (sts h g (k + 1) = sts h g k ++ [z]) := hstep
      clear hstep
      clear HL
      generalize sts h g k = l at hown hlen HS
      obtain ⟨sa, sc, rfl⟩ := hown.shape
      go_wp2_with fail
      refine hst.mono ?_
      rintro e w4 ⟨rfl, hb4⟩
      have hown4 := hown.below hb4
      have hB4 := hB.trans (hb4.mono hbase)
      have hbase4 : w1.heap.size + 1 ≤ w4.heap.size := Nat.le_trans hbase hb4.size
      clear hst x0 x1 x2 bw bM hfw hTw hb4 hown hBw y0 hB
      go_wp2_with (at_builtin; refine wpList_append_own _ rfl _ _ 23 rfl (w1.heap.size + 1) 3 i0 (.int .i64 0) 1 8 Tryd.underlying23 hi hz0 hz1 hz2 rfl (by decide) _ _ _ rfl (World.ownsRow.alloc hown4 _) ⟨w4.heap.size, 0, none⟩ 1 1 [.int .i64 z] rfl rfl (cell_one_new _ _ _) (fun x hx => by simp at hx; subst hx; rfl) (by unfold maxLen; omega) (by omega) (by simp; omega) ?_; intro v' w3 hown' hgrow3 _)
      have hB3 := (hB4.alloc hbase4 (.cells #[.int .i64 z] 3)).grown hgrow3 (by simp; omega) (fun q hq => (World.ownsRow.lt hown4 q hq).1)
      exact ⟨⟨k + 1, by omega, by go_num, by rw [HS.out]; exact own_snoc hown', hB3⟩, by simp [intOf]; omega⟩
    · have hke : k = m := by omega
      subst hke
      clear HF bM hf hg hT
      generalize sts h g k = l at hown hlen HE HL
      by_cases h0 : k = 0
      · have hl0 : l = [] := List.eq_nil_of_length_eq_zero (by have := HL.out; omega)
        clear HL hlen
        subst hl0
        obtain ⟨sa, sc, rfl⟩ := hown.shape
        go_wp2_with fail
        refine (Tryd.slices_Sort_int_none sa sc wr).mono ?_
        rintro e w5 ⟨rfl, hw5⟩
        have hs5 := hw5.symm
        clear hw5
        subst hs5
        go_wp2_with fail
        refine (Tryd.slices_Compact_int_empty sa sc _).mono ?_
        rintro e w6 ⟨rfl, hw6⟩
        have hs6 := hw6.symm
        clear hw6
        subst hs6
        have hR : R = [] := by rw [← HE.out]; simp [Lib.compact, Lib.compactUpTo]
        subst hR
        clear HE
        go_wp2
        go_ret2
        exact ⟨⟨sa, sc, rfl, lq_none _ _ _ _ _⟩, hBw⟩
      · obtain ⟨gb, cap, rfl, hgb, hcap, hP⟩ := own_some2 hown (by have := HL.out; omega)
        clear HL
        have hsrt := Tryd.slices_Sort_int gb 0 cap l wr (ip_holds hP) hP.lt (by omega)
        have hsl : (l.mergeSort fun x y => decide (x ≤ y)).length = l.length := List.length_mergeSort l
        generalize (l.mergeSort fun x y => decide (x ≤ y)) = s at hsrt hsl HE
        have HSL : Hid (s.length = l.length) := hsl
        clear hown hsl
        go_wp2_with fail
        refine hsrt.mono ?_
        rintro e w5 ⟨rfl, nq, os, hw5⟩
        have hsl := HSL.out
        have hPB := put_ip hP s hsl nq os
        rw [← hw5] at hPB
        obtain ⟨hP5, hB5⟩ := hPB
        clear hw5 hsrt
        have hP5' : IP w5 gb s.length (gl s) := by rw [hsl]; exact hP5
        have hcm := Tryd.slices_Compact_int gb 0 cap s w5 (ip_holds hP5') (by omega) (by omega)
        have hcl : (Lib.compact s).length ≤ s.length := by unfold Lib.compact Lib.compactUpTo; rw [List.length_map]; exact Nat.le_trans (List.length_filter_le _ _) (by simp)
        rw [HE.out] at hcm hcl
        clear HE
        rw [hsl] at hcm
        clear hsl
        go_wp2_with fail
        refine hcm.mono ?_
        rintro e w6 ⟨rfl, nr, hw6⟩
        have hsl := HSL.out
        have hPC := put_ip hP5' (R ++ List.replicate (s.length - R.length) 0) (by simp; omega) nr #[]
        rw [Go.Sort.grow_empty, hsl, ← hw6] at hPC
        obtain ⟨hP6, hB6⟩ := hPC
        clear hw6 hcm
        have hP7 : IP w6 gb R.length (gl R) := ⟨hP6.lt, fun i hi => by
          rw [hP6.c i (by omega)]
          simp [gl, List.getD, List.getElem?_append, hi], hP6.fz⟩
        have hBz : Below w.heap.size w w6 := hBw.trans ((hB5.mono (by omega)).trans (hB6.mono (by omega)))
        clear hsl HSL hcl
        go_wp2
        go_ret2
        exact ⟨⟨some ⟨gb, 0, none⟩, cap, rfl, lq_of hP7 (by omega) hP7.lt⟩, hBz⟩
theorem implStp (W : Int) (a b : Option Addr) (n c m d : Nat) (f g : Nat → Int) (v : Int) (w : World) (hn : n ≤ 1048576) (hm : m ≤ 1048576) (hf : IL w a n f) (hg : IL w b m g) (hT : Tab w) :
    Calls Tryd.prog 7 #[cel W a n c, .slice b m d, .int .i64 v] w fun e w' => AnsB w w' e (stpL W n f m g v) (seeQ W n f m g v) ∧ Below w.heap.size w w' := by
  unfold stpL
  cases hq : seeQ W n f m g v with
  | false => exact (implStp_no W a b n c m d f g v w hn hm hf hg hq).mono fun e w' ⟨h1, h2⟩ => ⟨by rw [h1]; exact ansB_nil _ _ _, h2⟩
  | true =>
    have hq2 : undB W n f m g = true ∧ wayB v = true := by simpa [seeQ] using hq
    have hv := wayB_t hq2.2
    obtain ⟨k, rfl⟩ := Int.eq_ofNat_of_zero_le hv.1
    exact implStp_yes W a b n c m d f g k w hn hm hf hg hT hq2.1 (by omega)
end Go.Proofs.YtipopglbpfdcmaaDoor
