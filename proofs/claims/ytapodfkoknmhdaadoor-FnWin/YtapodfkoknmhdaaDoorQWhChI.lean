/- After how many choices the aim is come to, as the program reckons. -/
import Derived.Test.YtapodfkoknmhdaaDoorQWhCtI
namespace Go.Proofs.YtapodfkoknmhdaaDoor
open Go.RowKit
theorem stp_congr {n : Nat} {g : Nat → Bool} {K : Nat → Nat} {R : Nat → Nat → Int} {sd : Bool} {X Y : Nat → Bool} {i : Nat} (hR : OnB n K R) (hi : i < n) (h : ∀ j, j < n → X j = Y j) : stp g K R sd X i = stp g K R sd Y i := by
  cases e : stp g K R sd Y i with
  | true => exact stp_mono hR hi (fun j hj hx => by rw [h j hj]; exact hx) e
  | false =>
    cases e2 : stp g K R sd X i with
    | false => rfl
    | true =>
      have := stp_mono (Y := Y) hR hi (fun j hj hx => by rw [← h j hj]; exact hx) e2
      rw [this] at e; cases e
/-- a list in a block of the call's own -/
def AnsIP (w' : World) (lo n : Nat) (F : Nat → Int) (e : Ending) : Prop := ∃ b cap, e = .returned (.slice (some ⟨b, 0, none⟩) n cap) ∧ lo ≤ b ∧ n ≤ cap ∧ IP w' b n F
/-- round r, the first i places done -/
def mixF (kn : Nat → Int) (z : Int) (g : Nat → Bool) (K : Nat → Nat) (R : Nat → Nat → Int) (sd : Bool) (r i j : Nat) : Int := if j < i then nv (lvl kn z g K R sd (r + 1) j) else nv (lvl kn z g K R sd r j)
section
variable {kn : Nat → Int} {z : Int} {g : Nat → Bool} {K : Nat → Nat} {R : Nat → Nat → Int} {sd : Bool} {n r i : Nat}
theorem nv_lt {x : Int} (hx : -1 ≤ x) (h : x ≤ 13) : ((nv x == 14) = true ↔ ¬ 0 ≤ x) := by
  unfold nv
  rw [beq_iff_eq]
  split <;> omega
theorem mix_in (hr : r ≤ 13) (j : Nat) : decide (mixF kn z g K R sd r i j ≤ (r : Int)) = inL kn z g K R sd r j := by
  have h0 := lvl_lo (kn := kn) (z := z) (g := g) (K := K) (R := R) (sd := sd) r j
  have h1 := lvl_hi (kn := kn) (z := z) (g := g) (K := K) (R := R) (sd := sd) r j
  unfold mixF inL
  cases e : inL kn z g K R sd r j with
  | true =>
    have e' := of_decide_eq_true e
    rw [lvl_stay e', decide_eq_true e']
    refine decide_eq_true ?_
    unfold nv
    split
    · rw [if_neg (by omega)]; exact h1
    · rw [if_neg (by omega)]; exact h1
  | false =>
    have e' := of_decide_eq_false e
    rw [decide_eq_false e']
    refine decide_eq_false ?_
    split
    · cases hs : ((kn j == 0) && stp g K R sd (inL kn z g K R sd r) j) with
      | true => rw [lvl_new e' hs]; unfold nv; rw [if_neg (by omega)]; omega
      | false => rw [lvl_no e' hs]; unfold nv; rw [if_pos (by omega)]; omega
    · unfold nv; rw [if_pos (by omega)]; omega
theorem mix_set (hi : (kn i == 0) = true) (h0 : ¬ 0 ≤ lvl kn z g K R sd r i) (hs : stp g K R sd (inL kn z g K R sd r) i = true) (j : Nat) : put (mixF kn z g K R sd r i) i ((r : Int) + 1) j = mixF kn z g K R sd r (i + 1) j := by
  unfold put mixF
  by_cases e : j = i
  · subst e
    rw [if_pos rfl, if_pos (by omega), lvl_new h0 (by rw [hi, hs]; rfl)]
    unfold nv; rw [if_neg (by omega)]; omega
  · rw [if_neg e]
    by_cases e2 : j < i
    · rw [if_pos e2, if_pos (by omega)]
    · rw [if_neg e2, if_neg (by omega)]
theorem mix_same (h : 0 ≤ lvl kn z g K R sd r i ∨ ((kn i == 0) && stp g K R sd (inL kn z g K R sd r) i) = false) (j : Nat) : mixF kn z g K R sd r i j = mixF kn z g K R sd r (i + 1) j := by
  unfold mixF
  by_cases e : j = i
  · subst e
    rw [if_neg (by omega), if_pos (by omega)]
    by_cases h0 : 0 ≤ lvl kn z g K R sd r j
    · rw [lvl_stay h0]
    · rcases h with h | h
      · exact absurd h h0
      · rw [lvl_no h0 h]
        unfold nv; rw [if_pos (by omega), if_pos (by omega)]
  · by_cases e2 : j < i
    · rw [if_pos e2, if_pos (by omega)]
    · rw [if_neg e2, if_neg (by omega)]
end
set_option maxRecDepth 20000 in
set_option maxHeartbeats 8000000 in
theorem iChoices (a : Option Addr) (n c : Nat) (b : Option Addr) (d : Nat) (x : Option Addr) (q : Nat) (f : Nat → ByteArray) (g : Nat → Bool) (K : Nat → Nat) (R : Nat → Nat → Int) (ka : Option Addr) (kc : Nat) (kn : Nat → Int) (z : Int) (sd : Bool) (w : World) (h1 : 1 ≤ n) (hn : n ≤ 14) (hK : ∀ i, i < n → K i ≤ 1048576) (hR : OnB n K R) (h : BD w a n f b n g x n K R) (hk : IL w ka n kn) :
    Calls Tryd.prog 100 #[ctv a n c b n d x n q ka kc z sd] w fun e w' => AnsIP w' w.heap.size n (fun i => nv (lvl kn z g K R sd n i)) e ∧ Below w.heap.size w w' := by
  obtain ⟨i0, hi, hzz⟩ := Option.map_eq_some_iff.1 infoI
  simp only [Prod.mk.injEq] at hzz
  obtain ⟨hz0, hz1, hz2⟩ := hzz
  have hb1 : Below w.heap.size w (w.alloc (ctO a n c b n d x n q ka kc z sd)) := (Below.refl _ _).alloc (Nat.le_refl _) _
  have hb2 : Below w.heap.size w ((w.alloc (ctO a n c b n d x n q ka kc z sd)).alloc (.cells #[] 3)) := hb1.alloc (by simp) _
  have bC := (bx_new (w := w) (ctL a n c b n d x n q ka kc z sd) 135 rfl).alloc (.cells #[] 3)
  have hO := own_lit0 (w.alloc (ctO a n c b n d x n q ka kc z sd)) (w.heap.size + 1) (fun i => nv (lvl kn z g K R sd 0 i)) (by simp)
  have hsz : ((w.alloc (ctO a n c b n d x n q ka kc z sd)).alloc (.cells #[] 3)).heap.size = w.heap.size + 2 := by simp
  have x3 := bx_c3 bC
  have HS : Hid (BD w a n f b n g x n K R ∧ IL w ka n kn) := ⟨h, hk⟩
  have HR : Hid (OnB n K R) := hR
  have HK : Hid (∀ i, i < n → K i ≤ 1048576) := hK
  simp only [size_al] at hO
  clear h hk hR hK hb1
  go_enter Tryd.func100, Tryd.ntmps100
  go_wp2
  have HO : Hid (Own ((w.alloc (ctO a n c b n d x n q ka kc z sd)).alloc (.cells #[] 3)) (w.heap.size + 1) (.slice (some ⟨w.heap.size + 1, 0, none⟩) 0 0) 0 (fun i => nv (lvl kn z g K R sd 0 i))) := hO
  clear hO x3
  generalize (w.alloc (ctO a n c b n d x n q ka kc z sd)).alloc (.cells #[] 3) = W2 at HO bC hb2 hsz ⊢
  go_loopw [3, 12] (fun v k wr => ∃ i : Nat, i ≤ n ∧ k = .int .i64 (i : Int) ∧ Own wr (w.heap.size + 1) v i (fun i => nv (lvl kn z g K R sd 0 i)) ∧ Below (w.heap.size + 1) W2 wr) (fun _ k _ => n - (intOf k).toNat)
  case atStart => exact ⟨0, Nat.zero_le _, rfl, HO.out, Below.refl _ _⟩
  case round =>
    obtain ⟨i, hin, rfl, hown, hB⟩ := hrel
    have hBw : Below w.heap.size w wr := hb2.trans (hB.mono (by omega))
    have hbase : w.heap.size + 1 ≤ wr.heap.size := by have := hB.size; omega
    have bR := bC.below hB (by omega)
    clear HO
    by_cases hlt : i < n
    · obtain ⟨kb, ko, rfl, kl, hc1⟩ := (HS.out.2.below hBw) (by omega)
      have y1 := hc1 i hlt
      have x4 := bx_c4 bR
      have j0 : (0 : Int) ≤ (i : Int) := by omega
      have j1 : (i : Int) < (n : Int) := by omega
      have HV : Hid (∀ v X, X = nv (lvl kn z g K R sd 0 i) → ∀ w3 : World, w3.ownsRow (w.heap.size + 1) 3 1 v (i + 1) (vL (fun i => nv (lvl kn z g K R sd 0 i)) i ++ [.int .i64 X]) → Own w3 (w.heap.size + 1) v (i + 1) (fun i => nv (lvl kn z g K R sd 0 i))) := fun v X hX w3 h => by
        unfold Own; rw [vL_succ]; rw [hX] at h; exact h
      have HX : Hid (nv (lvl kn z g K R sd 0 i) = if (kn i == z) = true then 0 else 14) := by
        show nv (lvl kn z g K R sd 0 i) = _
        unfold lvl nv
        split <;> rfl
      obtain ⟨sa, sc, rfl⟩ := hown.shape
      clear hc1 bR bC HS
      generalize kn i = Q at *
      cases hq : (Q == z) with
      | true =>
        have HX2 : Hid ((0 : Int) = nv (lvl kn z g K R sd 0 i)) := by
          show (0 : Int) = _
          rw [HX.out, if_pos hq]
        clear HX
        go_wp2_with (at_builtin; refine wpList_append_own _ rfl _ _ 41 rfl (w.heap.size + 1) 3 i0 (.int .i64 0) 1 8 Tryd.underlying41 hi hz0 hz1 hz2 rfl (by decide) _ _ _ rfl (World.ownsRow.alloc hown _) ⟨wr.heap.size, 0, none⟩ 1 1 [.int .i64 (0 : Int)] rfl rfl (cell_one_new _ _ _) (fun x hx => by simp at hx; subst hx; rfl) (by unfold maxLen; omega) (by omega) (by simp; omega) ?_; intro v' w3 hown' hgrow3 _)
        have hB3 := (hB.alloc hbase (.cells #[.int .i64 (0 : Int)] 3)).grown hgrow3 (by simp; omega) (fun q hq => (World.ownsRow.lt hown q hq).1)
        exact ⟨⟨i + 1, by omega, by go_num, HV.out _ _ HX2.out _ hown', hB3⟩, by simp [intOf]; omega⟩
      | false =>
        have HX2 : Hid ((14 : Int) = nv (lvl kn z g K R sd 0 i)) := by
          show (14 : Int) = _
          rw [HX.out, if_neg (by rw [hq]; simp)]
        clear HX
        go_wp2_with (at_builtin; refine wpList_append_own _ rfl _ _ 41 rfl (w.heap.size + 1) 3 i0 (.int .i64 0) 1 8 Tryd.underlying41 hi hz0 hz1 hz2 rfl (by decide) _ _ _ rfl (World.ownsRow.alloc hown _) ⟨wr.heap.size, 0, none⟩ 1 1 [.int .i64 (14 : Int)] rfl rfl (cell_one_new _ _ _) (fun x hx => by simp at hx; subst hx; rfl) (by unfold maxLen; omega) (by omega) (by simp; omega) ?_; intro v' w3 hown' hgrow3 _)
        have hB3 := (hB.alloc hbase (.cells #[.int .i64 (14 : Int)] 3)).grown hgrow3 (by simp; omega) (fun q hq => (World.ownsRow.lt hown q hq).1)
        exact ⟨⟨i + 1, by omega, by go_num, HV.out _ _ HX2.out _ hown', hB3⟩, by simp [intOf]; omega⟩
    · have hin2 : i = n := by omega
      subst hin2
      have hcap := hown.shape
      obtain ⟨lb, lc, rfl, hlb, hIP⟩ := hown.some (by omega)
      have hlc := own_cap hown
      have HI : Hid (IP wr lb i (fun j => nv (lvl kn z g K R sd 0 j))) := hIP
      have HC : Hid (Bx wr w.heap.size (ctL a i c b i d x i q ka kc z sd)) := bR
      clear hcap hown bR bC hIP hB
      go_wp2_with fail
      obtain ⟨w8, hw8⟩ : ∃ w8, w8 = wr := ⟨wr, rfl⟩
      subst hw8
      go_loopw [29] (fun k wr => ∃ r : Nat, r ≤ i ∧ k = .int .i64 (r : Int) ∧ Hid (IP wr lb i (fun j => nv (lvl kn z g K R sd r j))) ∧ Hid (Bx wr w.heap.size (ctL a i c b i d x i q ka kc z sd)) ∧ Below w.heap.size w wr) (fun k _ => i - (intOf k).toNat)
      case atStart => exact ⟨0, Nat.zero_le _, rfl, HI, HC, hBw⟩
      case round =>
        obtain ⟨r, hr, rfl, HI2, HC2, hB2⟩ := hrel
        clear HI HC hBw
        by_cases hlr : r < i
        · have r0 : (0 : Int) ≤ (r : Int) := by omega
          have r1 : (r : Int) < (i : Int) := by omega
          have HI3 : Hid (IP wr lb i (mixF kn z g K R sd r 0)) := HI2.out.congr fun j _ => by unfold mixF; rw [if_neg (by omega)]
          clear HI2
          go_wp2_with fail
          obtain ⟨w9, hw9⟩ : ∃ w9, w9 = wr := ⟨wr, rfl⟩
          subst hw9
          go_loopw [34] (fun k wr => ∃ j : Nat, j ≤ i ∧ k = .int .i64 (j : Int) ∧ Hid (IP wr lb i (mixF kn z g K R sd r j)) ∧ Hid (Bx wr w.heap.size (ctL a i c b i d x i q ka kc z sd)) ∧ Below w.heap.size w wr) (fun k _ => i - (intOf k).toNat)
          case atStart => exact ⟨0, Nat.zero_le _, rfl, HI3, HC2, hB2⟩
          case round =>
            obtain ⟨j, hj, rfl, HI4, HC4, hB4⟩ := hrel
            clear HI3 HC2 hB2
            by_cases hlj : j < i
            · have k0 : (0 : Int) ≤ (j : Int) := by omega
              have k1 : (j : Int) < (i : Int) := by omega
              have y0 := HI4.out.c j hlj
              have lb4 := HI4.out.lt
              have fz4 := HI4.out.fz j
              have HM : Hid (mixF kn z g K R sd r j j = nv (lvl kn z g K R sd r j)) := by
                show mixF kn z g K R sd r j j = _
                unfold mixF; rw [if_neg (by omega)]
              have lo := lvl_lo (kn := kn) (z := z) (g := g) (K := K) (R := R) (sd := sd) r j
              have hi9 := lvl_hi (kn := kn) (z := z) (g := g) (K := K) (R := R) (sd := sd) r j
              have HN : Hid ((nv (lvl kn z g K R sd r j) == 14) = true ↔ ¬ 0 ≤ lvl kn z g K R sd r j) := nv_lt lo (by omega)
              rw [HM.out] at y0
              have kC := fun w2 g1 g2 => iComes a i c b d x q f g K R ka kc z sd (r : Int) j (some ⟨lb, 0, none⟩) lc (mixF kn z g K R sd r j) w2 HK.out HR.out hlj g1 g2
              have HT : Hid (stp g K R sd (fun t => decide (mixF kn z g K R sd r j t ≤ (r : Int))) j = stp g K R sd (inL kn z g K R sd r) j) := stp_congr HR.out hlj fun t _ => mix_in (by omega) t
              rw [HT.out] at kC
              have HSame : Hid (0 ≤ lvl kn z g K R sd r j ∨ ((kn j == 0) && stp g K R sd (inL kn z g K R sd r) j) = false → ∀ w2, IP w2 lb i (mixF kn z g K R sd r j) → IP w2 lb i (mixF kn z g K R sd r (j + 1))) := fun h9 w2 h8 => h8.congr fun t _ => mix_same h9 t
              have HSet : Hid ((kn j == 0) = true → ¬ 0 ≤ lvl kn z g K R sd r j → stp g K R sd (inL kn z g K R sd r) j = true → ∀ w2, IP w2 lb i (mixF kn z g K R sd r j) → IP (w2.setCell ⟨lb, j, none⟩ (.int .i64 ((r : Int) + 1))) lb i (mixF kn z g K R sd r (j + 1))) := fun h9 h8 h7 w2 h6 => (h6.set hlj ((r : Int) + 1)).congr fun t _ => mix_set h9 h8 h7 t
              obtain ⟨kb, ko, eka, kl, hc1⟩ := (HS.out.2.below hB4) (by omega)
              have y1 := hc1 j hlj
              have HBD : Hid (BD wr a i f b i g x i K R) := HS.out.1.below hB4
              subst eka
              clear hc1 HM HT
              generalize stp g K R sd (inL kn z g K R sd r) j = T at *
              generalize kn j = Q at *
              generalize hW : lvl kn z g K R sd r j = W at *
              clear lo hi9
              cases e1 : (nv W == 14) with
              | false =>
                have HI5 : Hid (IP wr lb i (mixF kn z g K R sd r (j + 1))) := HSame.out (.inl (by
                  by_cases h9 : 0 ≤ W
                  · exact h9
                  · rw [HN.out.2 h9] at e1; cases e1)) _ HI4.out
                clear HSame HSet HN hW kC
                generalize nv W = W' at *
                go_wp2
                exact ⟨⟨j + 1, by omega, by go_num, HI5, HC4, hB4⟩, by simp [intOf]; omega⟩
              | true =>
                have hW0 := HN.out.1 e1
                have x3 := bx_c3 HC4.out
                cases e2 : (Q == 0) with
                | false =>
                  have HI5 : Hid (IP wr lb i (mixF kn z g K R sd r (j + 1))) := HSame.out (.inr (by rw [e2]; rfl)) _ HI4.out
                  clear HSame HSet HN hW kC hW0
                  generalize nv W = W' at *
                  go_wp2
                  exact ⟨⟨j + 1, by omega, by go_num, HI5, HC4, hB4⟩, by simp [intOf]; omega⟩
                | true =>
                  have HSt : Hid (T = true → ∀ w2, IP w2 lb i (mixF kn z g K R sd r j) → IP (w2.setCell ⟨lb, j, none⟩ (.int .i64 ((r : Int) + 1))) lb i (mixF kn z g K R sd r (j + 1))) := fun h7 => HSet.out e2 hW0 h7
                  have HSm : Hid (T = false → ∀ w2, IP w2 lb i (mixF kn z g K R sd r j) → IP w2 lb i (mixF kn z g K R sd r (j + 1))) := fun h7 => HSame.out (.inr (by rw [h7]; exact Bool.and_false _))
                  clear HSame HSet HN hW hW0
                  generalize nv W = W' at *
                  have x0 := HC4.out.c0
                  have x1 := HC4.out.c1
                  have x2 := HC4.out.c2
                  have x4 := bx_c4 HC4.out
                  have x5 := bx_c5 HC4.out
                  go_wp2_with fail
                  refine (kC _ HBD.out HI4.out.il).mono ?_
                  rintro e w10 ⟨rfl, hb10⟩
                  have hB10 := stepA hB4 hb10
                  have HI10 : Hid (IP w10 lb i (mixF kn z g K R sd r j)) := HI4.out.below hb10 lb4
                  have HC10 : Hid (Bx w10 w.heap.size (ctL a i c b i d x i q (some ⟨kb, ko, none⟩) kc z sd)) := HC4.out.on hb10
                  have y10 := (hb10.cell (p := ⟨lb, j, none⟩) lb4).trans y0
                  clear x0 x1 x2 x3 x4 x5 kC HI4 HC4 hB4 HBD hb10 y0 y1
                  cases T with
                  | false =>
                    have HI5 : Hid (IP w10 lb i (mixF kn z g K R sd r (j + 1))) := HSm.out rfl _ HI10.out
                    clear HSt HSm
                    go_wp2
                    exact ⟨⟨j + 1, by omega, by go_num, HI5, HC10, hB10⟩, by simp [intOf]; omega⟩
                  | true =>
                    have HI5 : Hid (IP (w10.setCell ⟨lb, j, none⟩ (.int .i64 ((r : Int) + 1))) lb i (mixF kn z g K R sd r (j + 1))) := HSt.out rfl _ HI10.out
                    have HC5 : Hid (Bx (w10.setCell ⟨lb, j, none⟩ (.int .i64 ((r : Int) + 1))) w.heap.size (ctL a i c b i d x i q (some ⟨kb, ko, none⟩) kc z sd)) := HC10.out.far (b' := lb) (k := j) (.int .i64 ((r : Int) + 1)) (by omega)
                    have hB11 := hB10.setCell (p := ⟨lb, j, none⟩) (by simp <;> omega) (.int .i64 ((r : Int) + 1))
                    have z1 := HI10.out.lt
                    have z2 := HI10.out.fz j
                    clear HSt HSm HI10 HC10 hB10
                    go_wp2
                    exact ⟨⟨j + 1, by omega, by go_num, HI5, HC5, hB11⟩, by simp [intOf]; omega⟩
            · have hji : j = i := by omega
              subst hji
              have HI5 : Hid (IP wr lb j (fun t => nv (lvl kn z g K R sd (r + 1) t))) := HI4.out.congr fun t ht => by unfold mixF; rw [if_pos ht]
              clear HI4
              go_wp2
              exact ⟨⟨r + 1, by omega, by go_num, HI5, HC4, hB4⟩, by simp [intOf]; omega⟩
        · have hri : r = i := by omega
          subst hri
          clear HC2
          go_wp2
          go_ret
          exact ⟨⟨lb, lc, rfl, by omega, hlc, HI2.out⟩, hB2⟩
end Go.Proofs.YtapodfkoknmhdaaDoor
