/- Which paths are good ones, as the program tells it. -/
import Derived.Test.YtbndhhjgjalecaaDoorQCwGpaI
import Derived.Test.YtbndhhjgjalecaaDoorQCwGotI
import Derived.Test.YtbndhhjgjalecaaDoorQCwFmI
import Derived.Test.YtbndhhjgjalecaaDoorQCwBs
namespace Go.Proofs.YtbndhhjgjalecaaDoor
open Go.RowKit

theorem fmV_neg {n : Nat} {K : Nat → Nat} {F : Nat → Nat → Int} (h : fmV n K F < 0) : fmV n K F = -1 := by
  unfold fmV at h ⊢
  split at h
  · next hc => rw [if_pos hc]; exact fmI_neg h
  · next hc => rw [if_neg hc]
theorem rowP_of {W : Int} {n : Nat} {f g : Nat → Int} {K : Nat → Nat} {F : Nat → Nat → Int} {i : Nat} (he : K i = K 0) : RowP W n f g K F i ↔ RwP W n f (g (i * 2)) (g (i * 2 + 1)) (K i) (F i) :=
  ⟨fun h => ⟨h.some, h.beg, h.fin, h.step⟩, fun h => ⟨h.some, he, h.beg, h.fin, h.step⟩⟩
theorem keep6 {w w' : World} {b q r o : Nat} {u v x s t y : Value} (h : Bx w b [u, v, x]) (h2 : Bx w q [s, t]) (hy : w.cell? ⟨r, o, none⟩ = some y) (hr : r < w.heap.size) (k : Below w.heap.size w w') :
    w'.cell? ⟨b, 0, none⟩ = some u ∧ w'.cell? ⟨b, 1, none⟩ = some v ∧ w'.cell? ⟨b, 2, none⟩ = some x ∧ w'.cell? ⟨q, 0, none⟩ = some s ∧ w'.cell? ⟨q, 1, none⟩ = some t ∧ w'.cell? ⟨r, o, none⟩ = some y :=
  ⟨(h.on k).c0, (h.on k).c1, (h.on k).c2, (h2.on k).c0, (h2.on k).c1, (k.cell (p := ⟨r, o, none⟩) hr).trans hy⟩
set_option maxRecDepth 20000 in
set_option maxHeartbeats 4000000 in
theorem iGoodP0 (W : Int) (a b p : Option Addr) (n c m d N e0 : Nat) (f g : Nat → Int) (K : Nat → Nat) (F : Nat → Nat → Int) (w : World) (hn : n ≤ 1048576) (hm : m ≤ 1048576) (hN : N ≤ 1048576) (hK : ∀ i, i < N → K i ≤ 1048576) (hT : Tab w) (hmd : m ≤ d) (hNe : N ≤ e0)
    (hf : IL w a n f) (hg : IL w b (m * 2) g) (hp : RC w p N K F) :
    Calls Tryd.prog 10 #[cel W a n c, .slice b m d, .slice p N e0] w fun e w' => AnsQ (GpP W n f m g N K F) e ∧ Below w.heap.size w w' := by
  have hb0 : Below w.heap.size w (w.alloc (celO W a n c 25)) := (Below.refl _ _).alloc (Nat.le_refl _) _
  have x0 := (bx_new (w := w) (celL W a n c) 25 rfl).c0
  have x1 := (bx_new (w := w) (celL W a n c) 25 rfl).c1
  have kG := got_any W a b n c m d f g _ hn hm hmd (hf.below hb0) (hg.below hb0)
  cases hq : gtB W n f m g with
  | false =>
    rw [hq] at kG
    have kG2 : Calls Tryd.prog 35 #[cel W a n c, .slice b m d] (w.alloc (celO W a n c 25)) fun e w' => e = .returned (.tuple #[gr 0 0 none 0 0, .bool false]) ∧ Below (w.alloc (celO W a n c 25)).heap.size (w.alloc (celO W a n c 25)) w' := kG
    have HNO : Hid (¬ GpP W n f m g N K F) := fun h => by rw [h.trips] at hq; cases hq
    clear hq kG
    go_enter Tryd.func10, Tryd.ntmps10
    go_wp2_with fail
    refine kG2.mono ?_
    rintro e w1 ⟨rfl, hb1⟩
    have hB1 := stepA hb0 hb1
    have hB2 := hB1.alloc hB1.size (.cells #[.int .i64 0, .int .i64 0, .slice none 0 0] 68)
    have kC := comLen p N e0 K F (w1.alloc (.cells #[.int .i64 0, .int .i64 0, .slice none 0 0] 68)) hN (hp.rr.below hB2)
    unfold cmV at kC
    generalize (if N = 0 then 0 else (K 0 : Int)) = L0 at kC
    generalize decide (∀ i, i < N → K i = K 0) = q0 at kC
    clear kG2 x0 x1 hb1 hB1
    go_wp2_with fail
    refine kC.mono ?_
    rintro e w3 ⟨rfl, hb3⟩
    have hB3 := stepA hB2 hb3
    clear kC hb3
    go_wp2
    go_ret
    exact ⟨⟨_, rfl, says_no HNO.out⟩, hB3⟩
  | true =>
    rw [hq] at kG
    obtain ⟨H, eH⟩ : ∃ H, hgt W n = H := ⟨_, rfl⟩
    have HH : Hid (hgt W n = H) := eH
    have kG2 : Calls Tryd.prog 35 #[cel W a n c, .slice b m d] (w.alloc (celO W a n c 25)) fun e w' => e = .returned (.tuple #[gr W (hgt W n) a n c, .bool true]) ∧ Below (w.alloc (celO W a n c 25)).heap.size (w.alloc (celO W a n c 25)) w' := kG
    rw [eH] at kG2
    obtain ⟨hcel, h5, htr⟩ := gtB_t hq
    have hs := (celB_parts hcel).1
    have HTR : Hid (∀ i, i < m → 0 ≤ g (i * 2) ∧ g (i * 2) < (n : Int)) := fun i hi => by
      have := frB_t (trB_at htr i hi).1
      exact ⟨this.1, this.2.1⟩
    have HQ : Hid (gtB W n f m g = true) := hq
    clear kG eH hcel htr hq
    go_enter Tryd.func10, Tryd.ntmps10
    go_wp2_with fail
    refine kG2.mono ?_
    rintro e w1 ⟨rfl, hb1⟩
    have hB1 := stepA hb0 hb1
    have hB2 := hB1.alloc hB1.size (.cells #[.int .i64 W, .int .i64 H, .slice a n c] 68)
    have bG := bx_new (w := w1) (b := w1.heap.size) [.int .i64 W, .int .i64 H, .slice a n c] 68 rfl
    have kC := comLen p N e0 K F (w1.alloc (.cells #[.int .i64 W, .int .i64 H, .slice a n c] 68)) hN (hp.rr.below hB2)
    unfold cmV at kC
    generalize (if N = 0 then 0 else (K 0 : Int)) = L0 at kC
    clear kG2 x0 x1 hb1 hB1
    by_cases hal : ∀ i, i < N → K i = K 0
    case neg =>
      rw [decide_eq_false hal] at kC
      have HNO : Hid (¬ GpP W n f m g N K F) := fun h => hal (fun i hi => (h.rows i (by rw [← h.num]; exact hi)).len)
      clear hal
      go_wp2_with fail
      refine kC.mono ?_
      rintro e w3 ⟨rfl, hb3⟩
      have hB3 := stepA hB2 hb3
      clear kC hb3
      go_wp2
      go_ret
      exact ⟨⟨_, rfl, says_no HNO.out⟩, hB3⟩
    case pos =>
      rw [decide_eq_true hal] at kC
      have HAL : Hid (∀ i, i < N → K i = K 0) := hal
      clear hal
      by_cases hNm : N = m
      case neg =>
        have j0 : ((N : Int) != (m : Int)) = true := by simp; omega
        have HNO : Hid (¬ GpP W n f m g N K F) := fun h => hNm h.num
        clear hNm
        go_wp2_with fail
        refine kC.mono ?_
        rintro e w3 ⟨rfl, hb3⟩
        have hB3 := stepA hB2 hb3
        clear kC hb3
        go_wp2
        go_ret
        exact ⟨⟨_, rfl, says_no HNO.out⟩, hB3⟩
      case pos =>
        subst hNm
        go_wp2_with fail
        refine kC.mono ?_
        rintro e w3 ⟨rfl, hb3⟩
        have hB3 := stepA hB2 hb3
        have bG3 := bG.on hb3
        obtain ⟨G, eG⟩ : ∃ G, w1.heap.size = G := ⟨_, rfl⟩
        rw [eG] at bG3 ⊢
        clear kC hb3 bG hB2 eG
        go_wp2
        go_loopw [39] (fun i wr => ∃ k : Nat, k ≤ N ∧ i = .int .i64 k ∧ (∀ i, i < k → RowP W n f g K F i) ∧ Below w3.heap.size w3 wr) (fun i _ => N - (intOf i).toNat)
        case atStart => exact ⟨0, Nat.zero_le _, rfl, fun i hi => absurd hi (Nat.not_lt_zero _), Below.refl _ _⟩
        case round =>
          obtain ⟨k, hk, rfl, hR, hB⟩ := hrel
          have HRW : Hid (∀ i, i < k → RowP W n f g K F i) := hR
          clear hR
          have hBw := stepA hB3 hB
          by_cases hlt : k < N
          · obtain ⟨gb, go_, eb, gl_, y0, y1⟩ := il_two (hg.below hBw) hlt
            subst eb
            obtain ⟨A, C, hL, hC⟩ := hp.below hBw
            obtain ⟨pb, po, ep, lpb, hpc⟩ := hL.out (by omega)
            subst ep
            have u0 := hpc k hlt
            have hrow := hL.row k hlt
            have hKk := hK k hlt
            have hCk := hC k hlt
            have hSk := HTR.out k hlt
            have j0 : (0 : Int) ≤ (k : Int) := by omega
            have j1 : (k : Int) < (N : Int) := by omega
            have HIF : Hid (RowP W n f g K F k ↔ RwP W n f (g (k * 2)) (g (k * 2 + 1)) (K k) (F k)) := rowP_of (HAL.out k hlt)
            have hBt : Below wr.heap.size wr (wr.alloc (.cells #[.int .i64 (g (k * 2)), .int .i64 (g (k * 2 + 1))] 34)) := (Below.refl _ _).alloc (Nat.le_refl _) _
            have bT := bx_new (w := wr) (b := wr.heap.size) [.int .i64 (g (k * 2)), .int .i64 (g (k * 2 + 1))] 34 rfl
            have bGr := (bG3.on hB).on hBt
            have u1 := (hBt.cell (p := ⟨pb, po + k, none⟩) lpb).trans u0
            have hB4 := stepA hB hBt
            have hB9 := stepA hB3 hB4
            have hf4 := hf.below hB9
            have hT4 := hT.on hB9
            have hrow4 := hrow.below hBt
            have lpb4 : pb < (wr.alloc (.cells #[.int .i64 (g (k * 2)), .int .i64 (g (k * 2 + 1))] 34)).heap.size := Nat.lt_of_lt_of_le lpb hBt.size
            have kP := fun w hf hF hT => goodPath_any W a n c f (g (k * 2)) (g (k * 2 + 1)) (A k) (K k) (C k) (F k) w hs hSk hKk hCk hf hF hT
            rw [HH.out] at kP
            clear hL hC hpc hrow hKk hCk hSk
            generalize g (k * 2) = v0 at *
            generalize g (k * 2 + 1) = v1 at *
            generalize A k = Ak at *
            generalize K k = Kk at *
            generalize C k = Ck at *
            go_upto_region 8 with fail
            obtain ⟨Tb, eT⟩ : ∃ Tb, wr.heap.size = Tb := ⟨_, rfl⟩
            rw [eT] at bT ⊢
            generalize wr.alloc (.cells #[.int .i64 v0, .int .i64 v1] 34) = w4 at *
            have hw0 := Below.refl w4.heap.size w4
            clear eT y0 y1 u0 hBt
            go_region_held3 (fun w' => w'.cell? ⟨G, 0, none⟩ = some (.int .i64 W) ∧ w'.cell? ⟨G, 1, none⟩ = some (.int .i64 H) ∧ w'.cell? ⟨G, 2, none⟩ = some (.slice a n c) ∧ w'.cell? ⟨Tb, 0, none⟩ = some (.int .i64 v0) ∧ w'.cell? ⟨Tb, 1, none⟩ = some (.int .i64 v1) ∧ w'.cell? ⟨pb, po + k, none⟩ = some (.slice Ak Kk Ck))
              (first | (exact keep6 bGr bT u1 lpb4 hw0.drew) | (exact keep6 bGr bT u1 lpb4 hw1) | (fail))
              (first | (go_at_call 42; refine (kP _ (hf4.below hw0.drew) (hrow4.below hw0.drew) (hT4.on hw0.drew)).mono ?_; rintro e w8 ⟨⟨q8, rfl, hq8⟩, hb8⟩; have hw1 := stepA hw0.drew hb8) | (fail))
            have hB5 := stepA hB4 hw1
            cases q8 with
            | true =>
              have HR2 : Hid (∀ i, i < k + 1 → RowP W n f g K F i) := fun i hi => by
                by_cases e : i = k
                · subst e; exact HIF.out.2 (hq8.1 rfl)
                · exact HRW.out i (by omega)
              clear HIF HRW hq8 kP
              go_wp2
              exact ⟨⟨k + 1, by omega, by go_num, HR2.out, hB5⟩, by simp [intOf]; omega⟩
            | false =>
              have HNO : Hid (¬ GpP W n f N g N K F) := fun h => by
                have := hq8.2 (HIF.out.1 (h.rows k hlt))
                cases this
              clear HIF HRW hq8 kP
              have hB10 := stepA hB3 hB5
              go_wp2
              go_ret
              exact ⟨⟨_, rfl, says_no HNO.out⟩, hB10⟩
          · have hke : k = N := by omega
            subst hke
            have kF := iFirst p k e0 K F wr hN hNe hK (hp.rr.below hBw)
            have HMK : Hid (fmV k K F < 0 → GpP W n f k g k K F) := fun h => ⟨HQ.out, rfl, HRW.out, h⟩
            have HNK : Hid (GpP W n f k g k K F → fmV k K F = -1) := fun h => fmV_neg h.apart
            generalize fmV k K F = V at kF HMK HNK
            clear HRW
            go_wp2_with fail
            refine kF.mono ?_
            rintro e w5 ⟨rfl, hb5⟩
            have hB5 := stepA hBw hb5
            clear kF hb5
            cases r : (V == (-1 : Int)) with
            | true =>
              have HY : Hid (GpP W n f k g k K F) := HMK.out (by have : V = -1 := by simpa using r
                                                                 omega)
              clear HMK HNK
              go_wp2
              go_ret
              exact ⟨⟨_, rfl, says_yes HY.out⟩, hB5⟩
            | false =>
              have HN : Hid (¬ GpP W n f k g k K F) := fun h => by
                have h9 := HNK.out h
                rw [h9] at r; simp at r
              clear HMK HNK
              go_wp2
              go_ret
              exact ⟨⟨_, rfl, says_no HN.out⟩, hB5⟩
theorem iGoodP (W : Int) (a b p : Option Addr) (n c m d N e0 : Nat) (f g : Nat → Int) (K : Nat → Nat) (F : Nat → Nat → Int) (w : World) (hn : n ≤ 1048576) (hm : m ≤ 1048576) (hN : N ≤ 1048576) (hK : ∀ i, i < N → K i ≤ 1048576) (hT : Tab w) (hmd : m ≤ d) (hNe : N ≤ e0)
    (hf : IL w a n f) (hg : IL w b (m * 2) g) (hp : RC w p N K F) :
    Calls Tryd.prog 10 #[cel W a n c, .slice b m d, .slice p N e0] w fun e w' => ∃ q, e = .returned (.bool q) ∧ Says q (GpP W n f m g N K F) ∧ Below w.heap.size w w' :=
  (iGoodP0 W a b p n c m d N e0 f g K F w hn hm hN hK hT hmd hNe hf hg hp).mono fun _ _ ⟨⟨q, h1, h2⟩, h3⟩ => ⟨q, h1, h2, h3⟩
end Go.Proofs.YtbndhhjgjalecaaDoor

/- Ints as keys of a map. -/
namespace Go.Proofs.YtbndhhjgjalecaaDoor
open Go.RowKit Go.Maps

theorem kkI : KK (κ := Int) 117 3 (fun x => .int .i64 x) (fun x => (Lit.int .i64 x).wf = true) :=
  ⟨int_keyed Tryd.underlying3, Tryd.underlying117, fun x hx => ⟨_, keyOf_int_mk Tryd.underlying3 hx⟩, fun x y e => by injection e⟩
end Go.Proofs.YtbndhhjgjalecaaDoor
