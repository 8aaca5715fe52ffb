/- How many ticks one needs who is alone, as the model finds it. -/
import Derived.Test.YtbndhhjgjalecaaDoorCwBs
import Derived.Test.YtbndhhjgjalecaaDoorCwGtS
import Derived.Test.YtbndhhjgjalecaaDoorCwTrip1
import Derived.Test.YtbndhhjgjalecaaDoorCwNxS
namespace Go.Proofs.YtbndhhjgjalecaaDoor
open Go.RowKit

theorem keepD {w w' : World} {b g k : Nat} {W : Int} {a : Option Addr} {n c : Nat} {x : Value} (h : Bx w b (celL W a n c)) (hx : w.cell? ⟨g, k, none⟩ = some x) (hg : g < w.heap.size) (l : Below w.heap.size w w') : w'.cell? ⟨b, 0, none⟩ = some (.int .i64 W) ∧ w'.cell? ⟨b, 1, none⟩ = some (.slice a n c) ∧ w'.cell? ⟨g, k, none⟩ = some x := ⟨(h.on l).c0, (h.on l).c1, (l.cell (p := ⟨g, k, none⟩) hg).trans hx⟩
set_option maxRecDepth 20000 in
set_option maxHeartbeats 8000000 in
theorem sAlone (W : Int) (a : Option Addr) (n c : Nat) (f : Nat → Int) (s t : Int) (w : World) (hn : n ≤ 1048576) (hf : IL w a n f) :
    Calls Tryd.prog 28 #[cel W a n c, tpv s t] w fun e w' => ∃ d, e = .returned (.int .i64 d) ∧ AlnIs W n f s t d ∧ Below w.heap.size w w' := by
  obtain ⟨i0', hi, hzz⟩ := Option.map_eq_some_iff.1 infoI
  simp only [Prod.mk.injEq] at hzz
  obtain ⟨hz0, hz1, hz2⟩ := hzz
  have b0 := bx_new (w := w) (celL W a n c) 25 rfl
  have b1 := bx_new (w := w.alloc (celO W a n c 25)) (b := w.heap.size + 1) [.int .i64 s, .int .i64 t] 34 (by simp)
  have b2 := bx_new (w := (w.alloc (celO W a n c 25)).alloc (.cells #[.int .i64 s, .int .i64 t] 34)) (b := w.heap.size + 1 + 1) [.int .i64 s, .int .i64 t] 34 (by simp)
  have hb3 : Below w.heap.size w (((w.alloc (celO W a n c 25)).alloc (.cells #[.int .i64 s, .int .i64 t] 34)).alloc (.cells #[.int .i64 s, .int .i64 t] 34)) :=
    (((Below.refl w.heap.size w).alloc (Nat.le_refl _) _).alloc (by simp) _).alloc (by simp <;> omega) _
  have c0 := (b0.alloc (.cells #[.int .i64 s, .int .i64 t] 34)).alloc (.cells #[.int .i64 s, .int .i64 t] 34)
  have c1 := b1.alloc (.cells #[.int .i64 s, .int .i64 t] 34)
  have x0 := c0.c0
  have x1 := c0.c1
  have y0 := c1.c0
  have y1 := c1.c1
  go_enter Tryd.func28, Tryd.ntmps28
  go_wp2_with fail
  clear b0 b1
  generalize ((w.alloc (celO W a n c 25)).alloc (.cells #[.int .i64 s, .int .i64 t] 34)).alloc (.cells #[.int .i64 s, .int .i64 t] 34) = w3 at *
  have hg : IL w3 (some ⟨w.heap.size + 1 + 1, 0, none⟩) (1 * 2) (tg s t) := fun _ => ⟨_, 0, rfl, b2.lt, fun i hi => by
    match i, hi with
    | 0, _ => exact b2.c0
    | 1, _ => exact b2.c1⟩
  have hf3 := hf.below hb3
  have kG := sGoodTrips W a (some ⟨w.heap.size + 1 + 1, 0, none⟩) n c 1 1 f (tg s t) w3 hn (by omega) hf3 hg
  cases hq : gtB W n f 1 (tg s t) with
  | false =>
    rw [hq] at kG
    refine kG.mono ?_
    rintro e w4 ⟨rfl, hb4⟩
    have hB4 := stepA hb3 hb4
    clear kG hg hf3 x0 x1 y0 y1
    go_wp2
    go_ret
    exact ⟨-1, rfl, .inl ⟨hq, rfl⟩, hB4⟩
  | true =>
    rw [hq] at kG
    refine kG.mono ?_
    rintro e w4 ⟨rfl, hb4⟩
    have hB4 := stepA hb3 hb4
    obtain ⟨hcel, -, htr⟩ := gtB_t hq
    have hs := (celB_parts hcel).1
    have hN := sized_le hs
    obtain ⟨f1, f2, -⟩ := trB_at htr 0 (by omega)
    obtain ⟨S, rfl⟩ : ∃ S : Nat, s = (S : Int) := ⟨s.toNat, by have := (frB_t f1).1; simp [tg] at this; omega⟩
    obtain ⟨E, rfl⟩ : ∃ E : Nat, t = (E : Int) := ⟨t.toNat, by have := (frB_t f2).1; simp [tg] at this; omega⟩
    have hS : S < n := by have := (frB_t f1).2.1; simp [tg] at this; omega
    have hE : E < n := by have := (frB_t f2).2.1; simp [tg] at this; omega
    clear f1 f2 htr hcel kG hg hf3 x0 x1 y0 y1
    have c2 := c0.on hb4
    have c3 := c1.on hb4
    have x1 := c2.c1
    have hmk := run_make_row' (P := Tryd.prog) 23 3 (.int .i64 0) 8 Tryd.underlying23 infoI rfl .i64 .i64 n (by omega) (by omega)
    have hP0 : IP (w4.alloc (.cells (madeCells #[.int .i64 0] n) 3)) w4.heap.size n (fun _ => 0) := row_ip ((World.rowIs_made w4 (.int .i64 0) n 3).congr fun i _ => rfl)
    have hb5 : Below w4.heap.size w4 (w4.alloc (.cells (madeCells #[.int .i64 0] n) 3)) := (Below.refl _ _).alloc (Nat.le_refl _) _
    go_wp2
    clear hmk x1
    have hlt5 : w4.heap.size < (w4.alloc (.cells (madeCells #[.int .i64 0] n) 3)).heap.size := by simp
    generalize w4.alloc (.cells (madeCells #[.int .i64 0] n) 3) = w5 at *
    have c4 := c2.on hb5
    have c5 := c3.on hb5
    have hB5 := stepA hB4 hb5
    have hFB : w.heap.size + 1 < w4.heap.size := c3.lt
    generalize hFBe : w4.heap.size = FB at *
    clear hFBe c2 c3 hb5 hB4 hb4 b2 c0 c1 hb3
    go_loopw [22] (fun i wr => ∃ k : Nat, k ≤ n ∧ i = .int .i64 k ∧ IP wr FB n (fun i => if i < k then -1 else 0) ∧ Only FB w5 wr) (fun i _ => n - (intOf i).toNat)
    case atStart => exact ⟨0, Nat.zero_le _, rfl, hP0.congr fun i _ => by simp, Only.refl _ _⟩
    case round =>
      obtain ⟨k, hk, rfl, hP, hO⟩ := hrel
      clear hP0
      by_cases hlt : k < n
      · have z0 := hP.c k hlt
        have z1 := hP.fz k
        have j0 : (0 : Int) ≤ (k : Int) := by omega
        have j1 : (k : Int) < (n : Int) := by omega
        have hP' := hP.set hlt (-1)
        have hO' := hO.set k (.int .i64 (-1))
        clear c4 c5 hf
        go_wp2
        refine ⟨⟨k + 1, by omega, by go_num, hP'.congr fun i _ => ?_, hO'⟩, by simp [intOf]; omega⟩
        unfold put
        by_cases e : i = k
        · subst e; simp
        · by_cases e2 : i < k
          · simp [e, e2, Nat.lt_succ_of_lt e2]
          · have : ¬ i < k + 1 := by omega
            simp [e, e2, this]
      · have hke : k = n := by omega
        subst hke
        have c6 := c4.only (OnlyIn.of hO (Nat.le_refl _) (Nat.lt_succ_self _)) (by omega)
        have c7 := c5.only (OnlyIn.of hO (Nat.le_refl _) (Nat.lt_succ_self _)) (by omega)
        have hP1 : IP wr FB k (fun _ => -1) := hP.congr fun i hi => by simp [hi]
        have hB6 : Below w.heap.size w wr := hB5.trans (hO.below.mono (by omega))

        have z0 := hP1.c S hS
        have z1 := hP1.fz S
        have y0 := c7.c0
        have y1 := c7.c1
        have j0 : (0 : Int) ≤ (S : Int) := by omega
        have j1 : (S : Int) < (k : Int) := by omega
        have hB0 : Bs (wr.setCell ⟨FB, S, none⟩ (.int .i64 0)) ((wr.setCell ⟨FB, S, none⟩ (.int .i64 0)).alloc (.cells #[.int .i64 (S : Int)] 3)) FB k (put (fun _ => -1) S 0) (.slice (some ⟨wr.heap.size, 0, none⟩) 1 1) 1 (fun _ => (S : Int)) := by
          have hal : Below (wr.setCell ⟨FB, S, none⟩ (.int .i64 0)).heap.size (wr.setCell ⟨FB, S, none⟩ (.int .i64 0)) ((wr.setCell ⟨FB, S, none⟩ (.int .i64 0)).alloc (.cells #[.int .i64 (S : Int)] 3)) := (Below.refl _ _).alloc (Nat.le_refl _) _
          have ho := own_lit1 (wr.setCell ⟨FB, S, none⟩ (.int .i64 0)) (wr.setCell ⟨FB, S, none⟩ (.int .i64 0)).heap.size (S : Int) (fun _ => (S : Int)) rfl (Nat.le_refl _)
          simp only [size_set] at ho
          exact ⟨(hP1.set hS 0).below hal (by simpa using hP1.lt), by simpa only [Own, size_set] using ho, turns_of hal, by simpa using hP1.lt⟩
        have hF0 : Bf k (Stp W k f) S (put (fun _ => -1) S 0) (fun _ => (S : Int)) 1 0 (fun _ => False) := bf_start hS _ rfl
        have c8 : Bx (wr.setCell ⟨FB, S, none⟩ (.int .i64 0)) w.heap.size (celL W a k c) := c6.far _ (by omega)
        have c9 : Bx (wr.setCell ⟨FB, S, none⟩ (.int .i64 0)) (w.heap.size + 1) [.int .i64 (S : Int), .int .i64 (E : Int)] := c7.far _ (by omega)
        have hB7 : Below w.heap.size w (wr.setCell ⟨FB, S, none⟩ (.int .i64 0)) := hB6.setCell (p := ⟨FB, S, none⟩) (by simp; omega) _
        have HF0 : Hid (Bf k (Stp W k f) S (put (fun _ => -1) S 0) (fun _ => (S : Int)) 1 0 (fun _ => False)) := hF0
        have HDI : Hid (∀ d, DistIs (Stp W k f) S E d → AlnIs W k f (S : Int) (E : Int) d) := fun d hd => .inr ⟨hq, by simpa using hd⟩
        clear hP hP1 hO c4 c5 c6 c7 hF0 hB5 hB6 hq
        have hNN : Hid (∀ u v, u < k → Stp W k f u v → v < k) := fun u v hu h => h.lt hs hu
        obtain ⟨w0, hw0⟩ : ∃ w0, w0 = wr.setCell ⟨FB, S, none⟩ (.int .i64 0) := ⟨_, rfl⟩
        have hs0 : wr.heap.size = w0.heap.size := by rw [hw0]; simp
        have HW0 : Hid (w0 = wr.setCell ⟨FB, S, none⟩ (.int .i64 0)) := hw0
        rw [← hw0] at hB0 c8 c9 hB7
        rw [hs0] at hB0
        have HS0 : Hid (wr.heap.size = w0.heap.size) := hs0
        clear hw0 hs0
        go_wp2
        rw [← HW0.out, HS0.out]
        clear HW0 HS0 z0 z1 y0 y1
        have HB0 : Hid (Bs w0 (w0.alloc (.cells #[.int .i64 (S : Int)] 3)) FB k (put (fun _ => -1) S 0) (.slice (some ⟨w0.heap.size, 0, none⟩) 1 1) 1 (fun _ => (S : Int))) := hB0
        clear hB0
        go_loopw [7, 8] (fun v i wx => ∃ (m L : Nat) (F T : Nat → Int), i = .int .i64 (m : Int) ∧ m ≤ L ∧ Bs w0 wx FB k F v L T ∧ Bf k (Stp W k f) S F T L m (fun _ => False)) (fun _ i _ => k - (intOf i).toNat)
        case atStart => exact ⟨0, 1, _, _, rfl, by omega, HB0.out, HF0.out⟩
        case round =>
          obtain ⟨m, L, F, T, rfl, hmL, hBs, hBf⟩ := hrel
          clear HB0 HF0
          have hLn := hBf.le
          have hBel := hBs.below (B := w.heap.size) (by omega)
          have hBW : Below w.heap.size w wr := hB7.trans hBel
          have cA : Bx wr w.heap.size (celL W a k c) := c8.turns hBs.tn (by omega)
          by_cases hlt2 : m < L
          · obtain ⟨g, cap, rfl, hg1, hgP⟩ := hBs.own.some (by omega)
            obtain ⟨t0, t1, t2⟩ := hBf.inT m hlt2
            obtain ⟨P, hP⟩ : ∃ P : Nat, T m = (P : Int) := ⟨(T m).toNat, by omega⟩
            have hPk : P < k := by omega
            have z0 := hgP.c m hlt2
            rw [hP] at z0
            have hgl := hgP.lt
            have j0 : (0 : Int) ≤ (m : Int) := by omega
            have j1 : (m : Int) < (L : Int) := by omega
            have hfr := hf.below hBW
            have hw0 := Below.refl wr.heap.size wr
            have HP : Hid (T m = (P : Int)) := hP
            clear t0 t1 t2 hgP hP
            have kN := fun w h => sNext W a k c f P w h hs hPk
            go_wp2_with fail
            go_region_held3 (fun w' => w'.cell? ⟨w.heap.size, 0, none⟩ = some (.int .i64 W) ∧ w'.cell? ⟨w.heap.size, 1, none⟩ = some (.slice a k c) ∧ w'.cell? ⟨g, m, none⟩ = some (.int .i64 (P : Int)))
              (first | (exact keepD cA z0 hgl hw0.drew) | (exact keepD cA z0 hgl hw1) | (fail))
              (first | (go_at_call 44; refine (kN _ (hfr.below hw0.drew)).mono ?_; rintro e w9 ⟨⟨a9, c9', rfl, hL9⟩, hbn⟩; have hw1 := stepA hw0.drew hbn; have hlo := hbn.size; clear hbn) | (fail))
            have hB9 := hBs.on hw1
            have hlen := nbL_len W k f P
            have HGT : Hid (∀ j, j < (nbL W k f P).length → ∃ q : Nat, gl (nbL W k f P) j = (q : Int) ∧ Stp W k f P q) := fun j hj => nbL_get hj
            have HAL : Hid (∀ u, Stp W k f P u → SnL (nbL W k f P) (nbL W k f P).length u) := fun u hu => nbL_all hu
            simp only [World.drew] at hL9 hlo
            have hBn := hBs.bn wr.heap.size w9.heap.size (Nat.le_refl _)
            have hdone : Hid (w0.heap.size ≤ wr.heap.size) := hBs.size
            have hBf9 : Bf k (Stp W k f) S F T L m (SnL (nbL W k f P) 0) := hBf.weak fun u hu => by obtain ⟨p, hp, _⟩ := hu; omega
            generalize nbL W k f P = G at *
            obtain ⟨lo, hlo'⟩ : ∃ lo, lo = wr.heap.size := ⟨_, rfl⟩
            rw [← hlo'] at hL9 hlo hBn hdone
            obtain ⟨hi9, hhi⟩ : ∃ hi9, hi9 = w9.heap.size := ⟨_, rfl⟩
            have hh9 : hi9 ≤ w9.heap.size := by omega
            rw [← hhi] at hL9 hBn
            clear hlo' hhi hBs hBf hfr hw0 hw1 cA z0 hgl hBel hBW hg1
            have HB9 : Hid (Bs w0 w9 FB k F (.slice (some ⟨g, 0, none⟩) L cap) L T) := hB9
            have HF9 : Hid (Bf k (Stp W k f) S F T L m (SnL G 0)) := hBf9
            have HL9 : Hid (LQ w9 lo hi9 a9 G.length (gl G)) := hL9
            clear hB9 hBf9 hL9
            go_wp2
            go_loopw [7, 49] (fun v i wx => ∃ (j L : Nat) (F T : Nat → Int), i = .int .i64 (j : Int) ∧ j ≤ G.length ∧ m < L ∧ T m = (P : Int) ∧ Bs w0 wx FB k F v L T ∧ Bf k (Stp W k f) S F T L m (SnL G j) ∧ LQ wx lo hi9 a9 G.length (gl G) ∧ Bn lo hi9 v ∧ hi9 ≤ wx.heap.size) (fun _ i _ => 5 - (intOf i).toNat)
            case atStart => exact ⟨0, L, F, T, rfl, Nat.zero_le _, hlt2, HP.out, HB9.out, HF9.out, HL9.out, hBn, hh9⟩
            case round =>
              obtain ⟨j, L2, F2, T2, rfl, hj, hmL2, hTm, hBs2, hBf2, hLQ, hBn2, hhx⟩ := hrel
              clear HB9 HF9 HL9 hBn hh9 hlo
              by_cases hlt3 : j < G.length
              · obtain ⟨u, hu, hst⟩ := HGT.out j hlt3
                have huk := hNN.out P u hPk hst
                obtain ⟨nb, rfl, hn1, hn2, hnP⟩ := hLQ (by omega)
                have q0 := hnP.c j hlt3
                rw [hu] at q0
                have q1 := hBs2.ip.c u huk
                have q2 := hBs2.ip.fz u
                have i0 : (0 : Int) ≤ (j : Int) := by omega
                have i1 : (j : Int) < (G.length : Int) := by omega
                have i2 : (0 : Int) ≤ (u : Int) := by omega
                have i3 : (u : Int) < (k : Int) := by omega
                by_cases hneg : F2 u < 0
                · obtain ⟨g2, cap2, rfl, hg2, hgP2⟩ := hBs2.own.some (by omega)
                  have q3 := hgP2.c m hmL2
                  rw [hTm] at q3
                  have q4 := hBs2.ip.c P hPk
                  have hFP : 0 ≤ F2 P := by have := (hBf2.inT m hmL2).2.2; rw [hTm] at this; simpa using this
                  have hFB2 : F2 P ≤ (m : Int) := by have := hBf2.bnd m hmL2; rw [hTm] at this; simpa using this
                  have hLk := hBf2.le
                  have hBs3 := hBs2.set huk (F2 P + 1)
                  have hLQ3 := hLQ.only (lo' := FB) (hi' := FB + 1) (OnlyIn.of ((Only.refl FB wr).set u (.int .i64 (F2 P + 1))) (Nat.le_refl _) (Nat.lt_succ_self _)) (by have := hBs2.lt; have := hdone.out; omega)
                  have hBf3 := hBf2.found hmL2 huk hneg (by rw [hTm]; simpa using hst)
                  rw [hTm, Int.toNat_natCast] at hBf3
                  have HF3 : Hid (Bf k (Stp W k f) S (put F2 u (F2 P + 1)) (put T2 L2 (u : Int)) (L2 + 1) m (SnL G (j + 1))) := hBf3.weak fun x hx => by
                    obtain ⟨p, hp, hpx⟩ := hx
                    by_cases e : p = j
                    · subst e; right; rw [hu] at hpx; omega
                    · exact .inl ⟨p, by omega, hpx⟩
                  have j2 : (m : Int) < (L2 : Int) := by omega
                  have m1 : F2 P ≤ 1000 := by omega
                  have i4 : (P : Int) < (k : Int) := by omega
                  have i5 : (0 : Int) ≤ (P : Int) := by omega
                  have HTM : Hid (T2 m = (P : Int)) := hTm
                  clear hBf2 hBf3 hgP2 hnP hLQ hTm hFB2
                  have hsB3 := hBs3.size
                  have hL3 : L2 + 1 ≤ 1000 := by omega
                  generalize F2 P = Y at *
                  go_wp2_with (at_builtin; refine wpList_append_own_at _ rfl _ _ 23 rfl w0.heap.size 3 i0' (.int .i64 0) 1 8 Tryd.underlying23 hi hz0 hz1 hz2 rfl (by decide) _ _ _ rfl (World.ownsRow.alloc hBs3.own _) ⟨wr.heap.size, 0, none⟩ 1 1 [.int .i64 (u : Int)] rfl rfl (by rw [← size_set wr ⟨FB, u, none⟩ (.int .i64 (Y + 1))]; exact cell_one_new _ _ _) (fun x hx => by simp at hx; subst hx; rfl) (by unfold maxLen; omega) (by omega) (by simp at hsB3 ⊢; omega) ?_; intro v' w3 hown' hgrow3 _ hat)
                  exact ⟨⟨j + 1, L2 + 1, _, _, by go_num, by omega, by omega, by have h9 := HTM.out; rw [← h9]; unfold put; rw [if_neg (by omega)], hBs3.app hown' hgrow3, HF3.out, lq_app hLQ3 hBn2 hgrow3, hBn2.app (wr := wr.setCell ⟨FB, u, none⟩ (.int .i64 (Y + 1))) hat (by simpa using hhx), by have := hgrow3.size; simp at this; omega⟩, by simp [intOf]; omega⟩
                · have HF3 : Hid (Bf k (Stp W k f) S F2 T2 L2 m (SnL G (j + 1))) := (hBf2.skip hmL2 huk (by omega)).weak fun x hx => by
                    obtain ⟨p, hp, hpx⟩ := hx
                    by_cases e : p = j
                    · subst e; right; rw [hu] at hpx; omega
                    · exact .inl ⟨p, by omega, hpx⟩
                  clear hBf2 hnP
                  generalize F2 u = Y at q1 hneg
                  go_wp2
                  exact ⟨⟨j + 1, L2, F2, T2, by go_num, by omega, hmL2, hTm, hBs2, HF3.out, hLQ, hBn2, hhx⟩, by simp [intOf]; omega⟩
              · have hjG : j = G.length := by omega
                subst hjG
                have hBf4 := hBf2.next hmL2 fun u hu => HAL.out u (by rw [hTm] at hu; simpa using hu)
                have HF4 : Hid (Bf k (Stp W k f) S F2 T2 L2 (m + 1) (fun _ => False)) := hBf4
                have hLk := hBf2.le
                clear hBf2 hBf4 hLQ
                go_wp2
                exact ⟨⟨m + 1, L2, F2, T2, by go_num, by omega, hBs2, HF4.out⟩, by simp [intOf]; omega⟩
          · have hmL3 : m = L := by omega
            subst hmL3
            have hd := HDI.out _ (hBf.dist hNN.out hE)
            have z0 := hBs.ip.c E hE
            have cB : Bx wr (w.heap.size + 1) [.int .i64 (S : Int), .int .i64 (E : Int)] := c9.turns hBs.tn (by omega)
            have y1 := cB.c1
            have j0 : (0 : Int) ≤ (E : Int) := by omega
            have j1 : (E : Int) < (k : Int) := by omega
            obtain ⟨sa, sc, rfl⟩ := hBs.own.shape
            clear hBf hBs cA cB
            go_wp2
            go_ret
            exact ⟨_, rfl, hd, hBW⟩
end Go.Proofs.YtbndhhjgjalecaaDoor
