/- Where all places are behind a step, as the model tells it. -/
import Derived.Test.YtipopglbpfdcmaaDoorStStep
import Derived.Test.YtipopglbpfdcmaaDoorClAns
namespace Go.Proofs.YtipopglbpfdcmaaDoor
open Go.RowKit

/-- what StepPlaces tells -/
def stpL (W : Int) (n : Nat) (f : Nat → Int) (m : Nat) (g : Nat → Int) (v : Int) : List Int := if seeQ W n f m g v then ord (mkd (fun p => stN W (hgt W n) f v.toNat p.toNat) g m) n else []
theorem stpL_len (W : Int) (n : Nat) (f : Nat → Int) (m : Nat) (g : Nat → Int) (v : Int) : (stpL W n f m g v).length ≤ n := by
  unfold stpL
  split
  · exact ord_len _ _
  · simp
set_option maxHeartbeats 4000000 in
theorem specStp_no (W : Int) (a b : Option Addr) (n c m d : Nat) (f g : Nat → Int) (v : Int) (w : World) (hn : n ≤ 1048576) (hm : m ≤ 1048576) (hf : IL w a n f) (hg : IL w b m g) (hq : seeQ W n f m g v = false) :
    Calls Tryd.prog 8 #[cel W a n c, .slice b m d, .int .i64 v] w fun e w' => e = .returned (.tuple #[.slice none 0 0, .bool false]) ∧ Below w.heap.size w w' := by
  have hb0 : Below w.heap.size w (w.alloc (celO W a n c 25)) := (Below.refl _ _).alloc (Nat.le_refl _) _
  cases hu : undB W n f m g with
  | false =>
    go_enter Tryd.func8, Tryd.ntmps8
    go_wp2_with fail
    refine (specPlaces W a b n c m d f g _ hn hm (hf.below hb0) (hg.below hb0)).mono ?_
    rw [hu]
    rintro e w1 ⟨rfl, hb1⟩
    have hB1 := stepA hb0 hb1
    go_wp2
    go_ret2
    exact ⟨rfl, hB1⟩
  | true =>
    have hv : wayB v = false := by simpa [seeQ, hu] using hq
    go_enter Tryd.func8, Tryd.ntmps8
    go_wp2_with fail
    refine (specPlaces W a b n c m d f g _ hn hm (hf.below hb0) (hg.below hb0)).mono ?_
    rw [hu]
    rintro e w1 ⟨rfl, hb1⟩
    have hB1 := stepA hb0 hb1
    go_wp2_with fail
    refine (sway_any v _).mono ?_
    rw [hv]
    rintro e w3 ⟨rfl, hw3⟩
    have hs3 := hw3.symm
    clear hw3
    subst hs3
    go_wp2
    go_ret2
    exact ⟨rfl, hB1⟩
set_option maxHeartbeats 4000000 in
theorem specStp_yes (W : Int) (a b : Option Addr) (n c m d : Nat) (f g : Nat → Int) (v : Nat) (w : World) (hn : n ≤ 1048576) (hm : m ≤ 1048576) (hf : IL w a n f) (hg : IL w b m g) (hu : undB W n f m g = true) (hv : v < 4) :
    Calls Tryd.prog 8 #[cel W a n c, .slice b m d, .int .i64 (v : Int)] w fun e w' => AnsB w w' e (ord (mkd (fun p => stN W (hgt W n) f v p.toNat) g m) n) true ∧ Below w.heap.size w w' := by
  obtain ⟨i0, hi, hzz⟩ := Option.map_eq_some_iff.1 infoI
  simp only [Prod.mk.injEq] at hzz
  obtain ⟨hz0, hz1, hz2⟩ := hzz
  have hb0 : Below w.heap.size w (w.alloc (celO W a n c 25)) := (Below.refl _ _).alloc (Nat.le_refl _) _
  have b0 := bx_new (w := w) (celL W a n c) 25 rfl
  have hu2 : celB W n f = true ∧ plsB n f g m = true := by simpa [undB] using hu
  have hwB : wayB (v : Int) = true := by simp [wayB]; omega
  have hs := (celB_parts hu2.1).1
  obtain ⟨hH, hH1, hH2⟩ := hgt_mul hs
  obtain ⟨hW1, hW2, -, -, -⟩ := sizedB_t hs
  have hn2 := sized_le hs
  have hF : ∀ k, k < m → ∃ p q : Nat, g k = (p : Int) ∧ p < n ∧ q < n ∧ (fun p => stN W (hgt W n) f v p.toNat) (g k) = (q : Int) ∧ (if nx W (hgt W n) f v ((p : Int) % W) ((p : Int) / W) < 0 then (p : Int) else nx W (hgt W n) f v ((p : Int) % W) ((p : Int) / W)) = (q : Int) := fun k hk => by
    have h1 := (plsB_at hu2.2 hk).1
    have h2 := frB_t h1
    obtain ⟨p, hp⟩ := Int.eq_ofNat_of_zero_le h2.1
    have hb := stN_bd (W := W) (f := f) (v := v) (p := p) hH (by omega)
    obtain ⟨q, hq⟩ := Int.eq_ofNat_of_zero_le hb.1
    refine ⟨p, q, hp, by omega, by omega, ?_, ?_⟩
    · show stN W (hgt W n) f v (g k).toNat = _
      rw [hp, Int.toNat_natCast]; exact hq
    · rw [stN_nx W (hgt W n) f v p hW1]; exact hq
  generalize hh : (fun p : Int => stN W (hgt W n) f v p.toNat) = h at hF
  have HH : Hid ((fun p : Int => stN W (hgt W n) f v p.toNat) = h) := hh
  clear hh
  have hmk := run_make_row' (P := Tryd.prog) 23 3 (.int .i64 0) 8 Tryd.underlying23 infoI rfl .i64 .i64 n (by omega) (by omega)
  go_enter Tryd.func8, Tryd.ntmps8
  go_wp2_with fail
  refine (specPlaces W a b n c m d f g _ hn hm (hf.below hb0) (hg.below hb0)).mono ?_
  rw [hu]
  rintro e w1 ⟨rfl, hb1⟩
  have hB1 := stepA hb0 hb1
  have b1 := b0.on hb1
  clear hb0 hb1 b0
  go_wp2_with fail
  refine (sway_any v _).mono ?_
  rw [hwB]
  rintro e w3 ⟨rfl, hw3⟩
  have hs3 := hw3.symm
  clear hw3
  subst hs3
  have hbs : w.heap.size ≤ w1.heap.size := hB1.size
  have x0 := b1.c0
  have x1 := b1.c1
  have lA := b1.lt
  have HF : Hid (∀ k, k < m → ∃ p q : Nat, g k = (p : Int) ∧ p < n ∧ q < n ∧ h (g k) = (q : Int) ∧ (if nx W (hgt W n) f v ((p : Int) % W) ((p : Int) / W) < 0 then (p : Int) else nx W (hgt W n) f v ((p : Int) % W) ((p : Int) / W)) = (q : Int)) := hF
  clear hF
  go_wp2
  have hP0 := row_ip (F := mkd h g 0) (World.rowIs_made w1 (.int .i64 0) n 3)
  have hb0 : Below w1.heap.size w1 (w1.alloc (.cells (madeCells #[.int .i64 0] n) 3)) := (Below.refl _ _).alloc (Nat.le_refl _) _
  have HP : Hid (IP (w1.alloc (.cells (madeCells #[.int .i64 0] n) 3)) w1.heap.size n (mkd h g 0)) := hP0
  clear hP0 hmk x0 x1
  go_loopw [29] (fun i wr => ∃ k : Nat, k ≤ m ∧ i = .int .i64 k ∧ IP wr w1.heap.size n (mkd h g k) ∧ Below w1.heap.size w1 wr) (fun i _ => m - (intOf i).toNat)
  case atStart => exact ⟨0, Nat.zero_le _, rfl, HP.out, hb0⟩
  case round =>
    obtain ⟨k, hk, rfl, hP, hB⟩ := hrel
    clear HP hb0
    have hBw := hB1.trans (hB.mono hB1.size)
    by_cases hlt : k < m
    · obtain ⟨p, q, hp, hpn, hqn, hhq, hif⟩ := HF.out k hlt
      obtain ⟨t, off, rfl, hb, hc⟩ := (hg.below hBw) (by omega)
      have y0 := hc k hlt
      rw [hp] at y0
      have bw := b1.on hB
      have x0 := bw.c0
      have x1 := bw.c1
      have j1 : (k : Int) < (m : Int) := by omega
      have hfw := hf.below hBw
      have hnx := next_at W a n c f p v wr hfw hs hv hpn
      have HM : Hid (∀ i : Nat, put (mkd h g k) q 1 i = mkd h g (k + 1) i) := fun i => by
        show (if i = q then (1 : Int) else mkd h g k i) = if (i : Int) = h (g k) then 1 else mkd h g k i
        rw [hhq]
        by_cases e : i = q
        · rw [if_pos e, if_pos (by rw [e])]
        · rw [if_neg e, if_neg (by omega)]
      clear hc hhq hp hfw
      generalize nx W (hgt W n) f v ((p : Int) % W) ((p : Int) / W) = y at hnx hif
      go_wp2_with fail
      refine hnx.mono ?_
      rintro e w4 ⟨rfl, hb4⟩
      have hP4 := hP.below hb4 hP.lt
      have hB4 := hB.trans (hb4.mono hB.size)
      have u0 := hP4.c q hqn
      have u1 := hP4.fz q
      have u2 := hP4.lt
      have j2 : (0 : Int) ≤ (q : Int) := by omega
      have j3 : (q : Int) < (n : Int) := by omega
      clear hnx x0 x1 bw hb4 hP y0 hB hBw
      by_cases hneg : y < 0
      · rw [if_pos hneg] at hif
        have hpq : p = q := by omega
        subst hpq
        clear hif
        go_wp2
        exact ⟨⟨k + 1, by omega, by go_num, (hP4.set hqn 1).congr (fun i _ => HM.out i), hB4.setCell (p := ⟨w1.heap.size, p, none⟩) (Nat.le_refl _) _⟩, by simp [intOf]; omega⟩
      · rw [if_neg hneg] at hif
        subst hif
        clear hneg
        go_wp2
        exact ⟨⟨k + 1, by omega, by go_num, (hP4.set hqn 1).congr (fun i _ => HM.out i), hB4.setCell (p := ⟨w1.heap.size, q, none⟩) (Nat.le_refl _) _⟩, by simp [intOf]; omega⟩
    · have hke : k = m := by omega
      subst hke
      clear HF b1
      obtain ⟨T, hT⟩ : ∃ T : Nat → Int, mkd h g k = T := ⟨_, rfl⟩
      have HT : Hid (mkd h g k = T) := hT
      have hT2 : ∀ i, T i = 0 ∨ T i = 1 := fun i => by rw [← hT]; exact mkd_two h g k i
      have HT2 : Hid (∀ i, T i = 0 ∨ T i = 1) := hT2
      rw [hT] at hP
      clear hT hT2
      have hlt2 := hP.lt
      go_wp2
      generalize wr = w8 at *
      go_loopw [12, 46] (fun o i w5 => ∃ k2 : Nat, k2 ≤ n ∧ i = .int .i64 k2 ∧ Own w5 w8.heap.size o (ord T k2).length (gl (ord T k2)) ∧ Below w8.heap.size w8 w5) (fun _ i _ => n - (intOf i).toNat)
      case atStart => exact ⟨0, Nat.zero_le _, rfl, World.ownsRow_nil _ _ _ _, Below.refl _ _⟩
      case round =>
        obtain ⟨k2, hk2, rfl, hown, hB2⟩ := hrel
        have hlen := ord_len T k2
        have hbase : w8.heap.size ≤ wr.heap.size := hB2.size
        by_cases hlt3 : k2 < n
        · have hP5 := hP.below hB2 hlt2
          have u0 := hP5.c k2 hlt3
          have u2 := hP5.lt
          have j2 : (0 : Int) ≤ (k2 : Int) := by omega
          have j3 : (k2 : Int) < (n : Int) := by omega
          have hstep : ord T (k2 + 1) = if T k2 = 1 then ord T k2 ++ [(k2 : Int)] else ord T k2 := rfl
          by_cases hz : T k2 = 1
          · rw [if_pos hz] at hstep
            rw [hz] at u0
            have HS : Hid (ord T (k2 + 1) = ord T k2 ++ [(k2 : Int)]) := hstep
            generalize ord T k2 = l at hown hlen HS
            clear hstep hz hP5
            obtain ⟨sa, sc, rfl⟩ := hown.shape
            go_wp2_with (at_builtin; refine wpList_append_own _ rfl _ _ 23 rfl (w8.heap.size) 3 i0 (.int .i64 0) 1 8 Tryd.underlying23 hi hz0 hz1 hz2 rfl (by decide) _ _ _ rfl (World.ownsRow.alloc hown _) ⟨wr.heap.size, 0, none⟩ 1 1 [.int .i64 (k2 : Int)] rfl rfl (cell_one_new _ _ _) (fun x hx => by simp at hx; subst hx; rfl) (by unfold maxLen; omega) (by omega) (by simp; omega) ?_; intro v' w6 hown' hgrow3 _)
            have hB3 := (hB2.alloc hbase (.cells #[.int .i64 (k2 : Int)] 3)).grown hgrow3 (by simp; omega) (fun q hq => (World.ownsRow.lt hown q hq).1)
            exact ⟨⟨k2 + 1, by omega, by go_num, by rw [HS.out]; exact own_snoc hown', hB3⟩, by simp [intOf]; omega⟩
          · rw [if_neg hz] at hstep
            have hz0' : T k2 = 0 := by rcases HT2.out k2 with e | e; { exact e }; { exact absurd e hz }
            rw [hz0'] at u0
            have HS : Hid (ord T (k2 + 1) = ord T k2) := hstep
            clear hstep hz hz0'
            go_wp2
            exact ⟨⟨k2 + 1, by omega, by go_num, by rw [HS.out]; exact hown, hB2⟩, by simp [intOf]; omega⟩
        · have hke2 : k2 = n := by omega
          subst hke2
          obtain ⟨sa, sc, rfl⟩ := hown.shape
          have hbb : w.heap.size ≤ w8.heap.size := hBw.size
          have hBz := hBw.trans (hB2.mono hBw.size)
          go_wp2
          go_ret2
          exact ⟨by (first | rw [HH.out, HT.out] | rw [HT.out]); exact ansB_own hown hbb, hBz⟩
theorem specStp (W : Int) (a b : Option Addr) (n c m d : Nat) (f g : Nat → Int) (v : Int) (w : World) (hn : n ≤ 1048576) (hm : m ≤ 1048576) (hf : IL w a n f) (hg : IL w b m g) :
    Calls Tryd.prog 8 #[cel W a n c, .slice b m d, .int .i64 v] w fun e w' => AnsB w w' e (stpL W n f m g v) (seeQ W n f m g v) ∧ Below w.heap.size w w' := by
  unfold stpL
  cases hq : seeQ W n f m g v with
  | false => exact (specStp_no W a b n c m d f g v w hn hm hf hg hq).mono fun e w' ⟨h1, h2⟩ => ⟨by rw [h1]; exact ansB_nil _ _ _, h2⟩
  | true =>
    have hq2 : undB W n f m g = true ∧ wayB v = true := by simpa [seeQ] using hq
    have hv := wayB_t hq2.2
    obtain ⟨k, rfl⟩ := Int.eq_ofNat_of_zero_le hv.1
    exact specStp_yes W a b n c m d f g k w hn hm hf hg hq2.1 (by omega)
end Go.Proofs.YtipopglbpfdcmaaDoor
