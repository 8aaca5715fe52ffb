/- Which places see so far, as both tell it. -/
import Derived.Test.YtipopglbpfdcmaaDoorClUnder
import Derived.Test.YtipopglbpfdcmaaDoorClAns
import Derived.Test.YtipopglbpfdcmaaDoorClFar
namespace Go.Proofs.YtipopglbpfdcmaaDoor
open Go.RowKit

/-- those of the first k places that see so far -/
def sl (h : Int → Int) (g : Nat → Int) (r : Int) : Nat → List Int
  | 0 => []
  | k + 1 => if h (g k) = r then sl h g r k ++ [g k] else sl h g r k
theorem sl_len (h : Int → Int) (g : Nat → Int) (r : Int) (k : Nat) : (sl h g r k).length ≤ k := by
  induction k with
  | zero => simp [sl]
  | succ k ih =>
    unfold sl
    split
    · simp; omega
    · omega
/-- what SeePlaces tells -/
def seeL (W : Int) (n : Nat) (f : Nat → Int) (m : Nat) (g : Nat → Int) (v r : Int) : List Int := if seeQ W n f m g v then sl (fun p => farV W n f p v) g r m else []

set_option maxHeartbeats 4000000 in
theorem specSee_no (W : Int) (a b : Option Addr) (n c m d : Nat) (f g : Nat → Int) (v r : Int) (w : World) (hn : n ≤ 1048576) (hm : m ≤ 1048576) (hf : IL w a n f) (hg : IL w b m g) (hq : seeQ W n f m g v = false) :
    Calls Tryd.prog 6 #[cel W a n c, .slice b m d, .int .i64 v, .int .i64 r] w fun e w' => e = .returned (.tuple #[.slice none 0 0, .bool false]) ∧ Below w.heap.size w w' := by
  have hb0 : Below w.heap.size w (w.alloc (celO W a n c 25)) := (Below.refl _ _).alloc (Nat.le_refl _) _
  cases hu : undB W n f m g with
  | false =>
    go_enter Tryd.func6, Tryd.ntmps6
    go_wp2_with fail
    refine (specPlaces W a b n c m d f g _ hn hm (hf.below hb0) (hg.below hb0)).mono ?_
    rw [hu]
    rintro e w1 ⟨rfl, hb1⟩
    have hB1 := stepA hb0 hb1
    go_wp2
    go_ret2
    exact ⟨rfl, hB1⟩
  | true =>
    have hv : wayB v = false := by simpa [seeQ, hu] using hq
    go_enter Tryd.func6, Tryd.ntmps6
    go_wp2_with fail
    refine (specPlaces W a b n c m d f g _ hn hm (hf.below hb0) (hg.below hb0)).mono ?_
    rw [hu]
    rintro e w1 ⟨rfl, hb1⟩
    have hB1 := stepA hb0 hb1
    go_wp2_with fail
    refine (sway_any v _).mono ?_
    rw [hv]
    rintro e w3 ⟨rfl, hw3⟩
    have hs3 := hw3.symm
    clear hw3
    subst hs3
    go_wp2
    go_ret2
    exact ⟨rfl, hB1⟩
set_option maxHeartbeats 4000000 in
theorem specSee_yes (W : Int) (a b : Option Addr) (n c m d : Nat) (f g : Nat → Int) (v r : Int) (w : World) (hn : n ≤ 1048576) (hm : m ≤ 1048576) (hf : IL w a n f) (hg : IL w b m g) (hq : seeQ W n f m g v = true) :
    Calls Tryd.prog 6 #[cel W a n c, .slice b m d, .int .i64 v, .int .i64 r] w fun e w' => AnsB w w' e (sl (fun p => farV W n f p v) g r m) true ∧ Below w.heap.size w w' := by
  obtain ⟨i0, hi, hzz⟩ := Option.map_eq_some_iff.1 infoI
  simp only [Prod.mk.injEq] at hzz
  obtain ⟨hz0, hz1, hz2⟩ := hzz
  have hb0 : Below w.heap.size w (w.alloc (celO W a n c 25)) := (Below.refl _ _).alloc (Nat.le_refl _) _
  have b0 := bx_new (w := w) (celL W a n c) 25 rfl
  have hq2 : undB W n f m g = true ∧ wayB v = true := by simpa [seeQ] using hq
  obtain ⟨hu, hv⟩ := hq2
  go_enter Tryd.func6, Tryd.ntmps6
  go_wp2_with fail
  refine (specPlaces W a b n c m d f g _ hn hm (hf.below hb0) (hg.below hb0)).mono ?_
  rw [hu]
  rintro e w1 ⟨rfl, hb1⟩
  have hB1 := stepA hb0 hb1
  have b1 := b0.on hb1
  clear hb0 hb1 b0
  go_wp2_with fail
  refine (sway_any v _).mono ?_
  rw [hv]
  rintro e w3 ⟨rfl, hw3⟩
  have hs3 := hw3.symm
  clear hw3
  subst hs3
  have hbs : w.heap.size ≤ w1.heap.size := hB1.size
  have hF : ∀ p, (fun p => farV W n f p v) p = farV W n f p v := fun _ => rfl
  generalize hh : (fun p => farV W n f p v) = h at hF
  have HH : Hid ((fun p => farV W n f p v) = h) := hh
  clear hh
  go_wp2
  go_loopw [10, 24] (fun o i wr => ∃ k : Nat, k ≤ m ∧ i = .int .i64 k ∧ Own wr w1.heap.size o (sl h g r k).length (gl (sl h g r k)) ∧ Below w1.heap.size w1 wr) (fun _ i _ => m - (intOf i).toNat)
  case atStart => exact ⟨0, Nat.zero_le _, rfl, World.ownsRow_nil _ _ _ _, Below.refl _ _⟩
  case round =>
    obtain ⟨k, hk, rfl, hown, hB⟩ := hrel
    have hlen := sl_len h g r k
    have hBw := hB1.trans (hB.mono hB1.size)
    have hbase : w1.heap.size ≤ wr.heap.size := hB.size
    by_cases hlt : k < m
    · obtain ⟨q, off, rfl, hb, hc⟩ := (hg.below hBw) (by omega)
      have y0 := hc k hlt
      have bw := b1.on hB
      have x0 := bw.c0
      have x1 := bw.c1
      have j1 : (k : Int) < (m : Int) := by omega
      have hstep : sl h g r (k + 1) = if h (g k) = r then sl h g r k ++ [g k] else sl h g r k := rfl
      have hFk := hF (g k)
      have hfw := hf.below hBw
      clear hc
      generalize g k = y at y0 hstep hFk
      go_wp2_with fail
      refine (specFar W a n c f y v _ hn hfw).mono ?_
      rw [← hFk]
      rintro e w4 ⟨rfl, hb4⟩
      have hown4 := hown.below hb4
      have hB4 := hB.trans (hb4.mono hB.size)
      have hbase4 : w1.heap.size ≤ w4.heap.size := Nat.le_trans hbase hb4.size
      clear hFk hF x0 x1 bw hfw hb4 hown hBw y0
      by_cases hz : h y = r
      · rw [if_pos hz] at hstep
        have hz' : (h y == r) = true := by simpa using hz
        have HS : Hid (sl h g r (k + 1) = sl h g r k ++ [y]) := hstep
        generalize h y = z at hz'
        generalize sl h g r k = l at hown4 hlen HS
        clear hstep hz
        obtain ⟨sa, sc, rfl⟩ := hown4.shape
        go_wp2_with (at_builtin; refine wpList_append_own _ rfl _ _ 23 rfl (w1.heap.size) 3 i0 (.int .i64 0) 1 8 Tryd.underlying23 hi hz0 hz1 hz2 rfl (by decide) _ _ _ rfl (World.ownsRow.alloc hown4 _) ⟨w4.heap.size, 0, none⟩ 1 1 [.int .i64 y] rfl rfl (cell_one_new _ _ _) (fun x hx => by simp at hx; subst hx; rfl) (by unfold maxLen; omega) (by omega) (by simp; omega) ?_; intro v' w3 hown' hgrow3 _)
        have hB3 := (hB4.alloc hbase4 (.cells #[.int .i64 y] 3)).grown hgrow3 (by simp; omega) (fun q hq => (World.ownsRow.lt hown4 q hq).1)
        exact ⟨⟨k + 1, by omega, by go_num, by rw [HS.out]; exact own_snoc hown', hB3⟩, by simp [intOf]; omega⟩
      · rw [if_neg hz] at hstep
        have hz' : (h y == r) = false := by simpa using hz
        have HS : Hid (sl h g r (k + 1) = sl h g r k) := hstep
        generalize h y = z at hz'
        clear hstep hz
        go_wp2
        exact ⟨⟨k + 1, by omega, by go_num, by rw [HS.out]; exact hown4, hB4⟩, by simp [intOf]; omega⟩
    · have hke : k = m := by omega
      subst hke
      obtain ⟨sa, sc, rfl⟩ := hown.shape
      clear hF
      go_wp2
      go_ret2
      exact ⟨by rw [HH.out]; exact ansB_own hown hbs, hBw⟩

theorem specSee (W : Int) (a b : Option Addr) (n c m d : Nat) (f g : Nat → Int) (v r : Int) (w : World) (hn : n ≤ 1048576) (hm : m ≤ 1048576) (hf : IL w a n f) (hg : IL w b m g) :
    Calls Tryd.prog 6 #[cel W a n c, .slice b m d, .int .i64 v, .int .i64 r] w fun e w' => AnsB w w' e (seeL W n f m g v r) (seeQ W n f m g v) ∧ Below w.heap.size w w' := by
  unfold seeL
  cases hq : seeQ W n f m g v with
  | false => exact (specSee_no W a b n c m d f g v r w hn hm hf hg hq).mono fun e w' ⟨h1, h2⟩ => ⟨by rw [h1]; exact ansB_nil _ _ _, h2⟩
  | true => exact specSee_yes W a b n c m d f g v r w hn hm hf hg hq

set_option maxHeartbeats 4000000 in
theorem implSee_no (W : Int) (a b : Option Addr) (n c m d : Nat) (f g : Nat → Int) (v r : Int) (w : World) (hn : n ≤ 1048576) (hm : m ≤ 1048576) (hf : IL w a n f) (hg : IL w b m g) (hq : seeQ W n f m g v = false) :
    Calls Tryd.prog 5 #[cel W a n c, .slice b m d, .int .i64 v, .int .i64 r] w fun e w' => e = .returned (.tuple #[.slice none 0 0, .bool false]) ∧ Below w.heap.size w w' := by
  have hb0 : Below w.heap.size w (w.alloc (celO W a n c 25)) := (Below.refl _ _).alloc (Nat.le_refl _) _
  have hgd := under_any W a b n c m d f g (w.alloc (celO W a n c 25)) hn hm (hf.alloc _) (hg.alloc _)
  obtain ⟨u0, u1, u2, u3, u4, hx⟩ := gof_gr W a n c (undB W n f m g)
  rw [hx] at hgd
  cases hu : undB W n f m g with
  | false =>
    rw [hu] at hgd
    go_enter Tryd.func5, Tryd.ntmps5
    go_wp2_with fail
    refine hgd.mono ?_
    rintro e w1 ⟨rfl, hb1⟩
    have hB1 := stepA hb0 hb1
    clear hgd hb0 hb1 hx
    go_wp2
    go_ret2
    exact ⟨rfl, hB1.alloc hB1.size _⟩
  | true =>
    have hv : wayB v = false := by simpa [seeQ, hu] using hq
    rw [hu] at hgd
    go_enter Tryd.func5, Tryd.ntmps5
    go_wp2_with fail
    refine hgd.mono ?_
    rintro e w1 ⟨rfl, hb1⟩
    have hB1 := stepA hb0 hb1
    clear hgd hb0 hb1 hx
    go_wp2_with fail
    refine (iway_any v _).mono ?_
    rw [hv]
    rintro e w3 ⟨rfl, hw3⟩
    have hs3 := hw3.symm
    clear hw3
    subst hs3
    go_wp2
    go_ret2
    exact ⟨rfl, hB1.alloc hB1.size _⟩

set_option maxHeartbeats 4000000 in
theorem implSee_yes (W : Int) (a b : Option Addr) (n c m d : Nat) (f g : Nat → Int) (v : Nat) (r : Int) (w : World) (hn : n ≤ 1048576) (hm : m ≤ 1048576) (hf : IL w a n f) (hg : IL w b m g) (hT : Tab w) (hu : undB W n f m g = true) (hv : v < 4) :
    Calls Tryd.prog 5 #[cel W a n c, .slice b m d, .int .i64 (v : Int), .int .i64 r] w fun e w' => AnsB w w' e (sl (fun p => farV W n f p (v : Int)) g r m) true ∧ Below w.heap.size w w' := by
  obtain ⟨i0, hi, hzz⟩ := Option.map_eq_some_iff.1 infoI
  simp only [Prod.mk.injEq] at hzz
  obtain ⟨hz0, hz1, hz2⟩ := hzz
  have hb0 : Below w.heap.size w (w.alloc (celO W a n c 25)) := (Below.refl _ _).alloc (Nat.le_refl _) _
  have hgd := under_any W a b n c m d f g (w.alloc (celO W a n c 25)) hn hm (hf.alloc _) (hg.alloc _)
  rw [hu] at hgd
  have hg' : Calls Tryd.prog 12 #[cel W a n c, .slice b m d] (w.alloc (celO W a n c 25)) fun e w' => e = .returned (.tuple #[gr W (hgt W n) a n c, .bool true]) ∧ Below (w.alloc (celO W a n c 25)).heap.size (w.alloc (celO W a n c 25)) w' := hgd
  clear hgd
  have hu2 : celB W n f = true ∧ plsB n f g m = true := by simpa [undB] using hu
  have hwB : wayB (v : Int) = true := by simp [wayB]; omega
  have hF : ∀ k, k < m → ∃ p : Nat, g k = (p : Int) ∧ p < n ∧ (fun p => farV W n f p (v : Int)) (g k) = (farN W (hgt W n) f v p : Nat) := fun k hk => by
    have h1 := (plsB_at hu2.2 hk).1
    have h2 := frB_t h1
    obtain ⟨p, hp⟩ := Int.eq_ofNat_of_zero_le h2.1
    refine ⟨p, hp, by omega, ?_⟩
    show farV W n f (g k) (v : Int) = _
    unfold farV
    rw [hu2.1, h1, hwB, hp]
    rfl
  have hs := (celB_parts hu2.1).1
  generalize hh : (fun p => farV W n f p (v : Int)) = h at hF
  have HH : Hid ((fun p => farV W n f p (v : Int)) = h) := hh
  clear hh
  obtain ⟨H, eH⟩ : ∃ H, hgt W n = H := ⟨_, rfl⟩
  have HHH : Hid (hgt W n = H) := eH
  rw [eH] at hg' hF
  clear eH
  go_enter Tryd.func5, Tryd.ntmps5
  go_wp2_with fail
  refine hg'.mono ?_
  rintro e w1 ⟨rfl, hb1⟩
  have hB1 := stepA hb0 hb1
  clear hg' hb0 hb1
  go_wp2_with fail
  refine (iway_any v _).mono ?_
  rw [hwB]
  rintro e w3 ⟨rfl, hw3⟩
  have hs3 := hw3.symm
  clear hw3
  subst hs3
  go_wp2
  have hO0 := own_lit0 (w1.alloc (.cells #[.int .i64 W, .int .i64 H, .slice a n c] 42)) (w1.heap.size + 1) (gl (sl h g r 0)) (by simp)
  have bG := (bx_new (w := w1) [.int .i64 W, .int .i64 H, .slice a n c] 42 rfl).alloc (.cells #[] 3)
  have hBG : Below w1.heap.size w1 ((w1.alloc (.cells #[.int .i64 W, .int .i64 H, .slice a n c] 42)).alloc (.cells #[] 3)) := ((Below.refl _ _).alloc (Nat.le_refl _) _).alloc (by simp) _
  rw [size_al] at hO0
  have hB2 := hB1.trans (hBG.mono hB1.size)
  have hs1 := hB1.size
  have HO : Hid (Own ((w1.alloc (.cells #[.int .i64 W, .int .i64 H, .slice a n c] 42)).alloc (.cells #[] 3)) (w1.heap.size + 1) (.slice (some ⟨w1.heap.size + 1, 0, none⟩) 0 0) 0 (gl (sl h g r 0))) := hO0
  have hsG : ((w1.alloc (.cells #[.int .i64 W, .int .i64 H, .slice a n c] 42)).alloc (.cells #[] 3)).heap.size = w1.heap.size + 2 := by simp
  clear hBG hO0 hB1
  generalize (w1.alloc (.cells #[.int .i64 W, .int .i64 H, .slice a n c] 42)).alloc (.cells #[] 3) = W2 at HO bG hB2 hsG ⊢
  go_loopw [12, 31] (fun o i wr => ∃ k : Nat, k ≤ m ∧ i = .int .i64 k ∧ Own wr (w1.heap.size + 1) o (sl h g r k).length (gl (sl h g r k)) ∧ Below (w1.heap.size + 1) W2 wr) (fun _ i _ => m - (intOf i).toNat)
  case atStart => exact ⟨0, Nat.zero_le _, rfl, HO.out, Below.refl _ _⟩
  case round =>
    obtain ⟨k, hk, rfl, hown, hB⟩ := hrel
    have hlen := sl_len h g r k
    have hBw := hB2.trans (hB.mono (by omega))
    have hbase : w1.heap.size + 1 ≤ wr.heap.size := by have := hB.size; omega
    clear HO
    by_cases hlt : k < m
    · obtain ⟨q, off, rfl, hb, hc⟩ := (hg.below hBw) (by omega)
      have y0 := hc k hlt
      have bw := bG.below hB (by omega)
      have x0 := bw.c0
      have x1 := bw.c1
      have x2 := bw.c2
      have j1 : (k : Int) < (m : Int) := by omega
      have hstep : sl h g r (k + 1) = if h (g k) = r then sl h g r k ++ [g k] else sl h g r k := rfl
      obtain ⟨p, hp, hpn, hFk⟩ := hF k hlt
      have hfw := hf.below hBw
      have hTw := hT.on hBw
      have hfar := far_any W a n c f p v wr hfw hs hv hpn hTw
      rw [HHH.out, ← hFk] at hfar
      rw [hp] at y0 hfar hstep
      clear hc hFk hF
      generalize (p : Int) = y at y0 hstep hfar
      go_wp2_with fail
      refine hfar.mono ?_
      rintro e w4 ⟨rfl, hb4⟩
      have hown4 := hown.below hb4
      have hB4 := hB.trans (hb4.mono hbase)
      have hbase4 : w1.heap.size + 1 ≤ w4.heap.size := Nat.le_trans hbase hb4.size
      clear hfar x0 x1 x2 bw bG hfw hTw hb4 hown hBw y0 hp
      by_cases hz : h y = r
      · rw [if_pos hz] at hstep
        have hz' : (h y == r) = true := by simpa using hz
        have HS : Hid (sl h g r (k + 1) = sl h g r k ++ [y]) := hstep
        generalize h y = z at hz'
        generalize sl h g r k = l at hown4 hlen HS
        clear hstep hz
        obtain ⟨sa, sc, rfl⟩ := hown4.shape
        go_wp2_with (at_builtin; refine wpList_append_own _ rfl _ _ 23 rfl (w1.heap.size + 1) 3 i0 (.int .i64 0) 1 8 Tryd.underlying23 hi hz0 hz1 hz2 rfl (by decide) _ _ _ rfl (World.ownsRow.alloc hown4 _) ⟨w4.heap.size, 0, none⟩ 1 1 [.int .i64 y] rfl rfl (cell_one_new _ _ _) (fun x hx => by simp at hx; subst hx; rfl) (by unfold maxLen; omega) (by omega) (by simp; omega) ?_; intro v' w3 hown' hgrow3 _)
        have hB3 := (hB4.alloc hbase4 (.cells #[.int .i64 y] 3)).grown hgrow3 (by simp; omega) (fun q hq => (World.ownsRow.lt hown4 q hq).1)
        exact ⟨⟨k + 1, by omega, by go_num, by rw [HS.out]; exact own_snoc hown', hB3⟩, by simp [intOf]; omega⟩
      · rw [if_neg hz] at hstep
        have hz' : (h y == r) = false := by simpa using hz
        have HS : Hid (sl h g r (k + 1) = sl h g r k) := hstep
        generalize h y = z at hz'
        clear hstep hz
        go_wp2
        exact ⟨⟨k + 1, by omega, by go_num, by rw [HS.out]; exact hown4, hB4⟩, by simp [intOf]; omega⟩
    · have hke : k = m := by omega
      subst hke
      obtain ⟨sa, sc, rfl⟩ := hown.shape
      clear hF bG
      go_wp2
      go_ret2
      exact ⟨by first | exact ansB_own hown (by omega) | (rw [HH.out]; exact ansB_own hown (by omega)), hBw⟩

theorem implSee (W : Int) (a b : Option Addr) (n c m d : Nat) (f g : Nat → Int) (v r : Int) (w : World) (hn : n ≤ 1048576) (hm : m ≤ 1048576) (hf : IL w a n f) (hg : IL w b m g) (hT : Tab w) :
    Calls Tryd.prog 5 #[cel W a n c, .slice b m d, .int .i64 v, .int .i64 r] w fun e w' => AnsB w w' e (seeL W n f m g v r) (seeQ W n f m g v) ∧ Below w.heap.size w w' := by
  unfold seeL
  cases hq : seeQ W n f m g v with
  | false => exact (implSee_no W a b n c m d f g v r w hn hm hf hg hq).mono fun e w' ⟨h1, h2⟩ => ⟨by rw [h1]; exact ansB_nil _ _ _, h2⟩
  | true =>
    have hq2 : undB W n f m g = true ∧ wayB v = true := by simpa [seeQ] using hq
    have h4 := wayB_t hq2.2
    obtain ⟨v, rfl⟩ := Int.eq_ofNat_of_zero_le h4.1
    exact implSee_yes W a b n c m d f g v r w hn hm hf hg hT hq2.1 (by omega)
end Go.Proofs.YtipopglbpfdcmaaDoor
