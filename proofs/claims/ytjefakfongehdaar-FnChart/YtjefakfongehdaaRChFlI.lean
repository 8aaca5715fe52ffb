/- FlatChart, as the program goes. -/
import Derived.Test.YtjefakfongehdaaRChFlM
import Derived.Test.YtjefakfongehdaaRChStI
import Derived.Deep.Cut
import Derived.Deep.RegionHeld
namespace Go.Proofs.YtjefakfongehdaaR
open Go.RowKit
set_option maxRecDepth 20000 in
set_option maxHeartbeats 16000000 in
theorem iFlatChart (a b : Option Addr) (n c m d : Nat) (f g : Nat → Int) (w : World) (hn : n ≤ 1048576) (hm : m ≤ 1048576) (hc : n ≤ c) (hf : IL w a (n * 2) f) (hg : IL w b (m * 3) g) :
    Calls Try.prog 11 #[chv a n c b m d] w fun e w' => AnsT w w' e (flN (gchB n f m g) n) (flK f) (flR n f m g) (gchB n f m g) ∧ Below w.heap.size w w' := by
  obtain ⟨i0, hi, hzz⟩ := Option.map_eq_some_iff.1 infoI
  simp only [Prod.mk.injEq] at hzz
  obtain ⟨hz0, hz1, hz2⟩ := hzz
  have hb0 : Below w.heap.size w (w.alloc (chO a n c b m d 26)) := (Below.refl _ _).alloc (Nat.le_refl _) _
  have b0 := bx_new (w := w) (chL a n c b m d) 26 rfl
  have x0 := b0.c0
  have x1 := b0.c1
  have hf0 := hf.below hb0
  have hg0 := hg.below hb0
  have kG := iGoodChart a b n c m d f g _ hn hm hc hf0 hg0
  clear hf hg
  cases hG : gchB n f m g with
  | false =>
    rw [hG] at kG
    clear hG
    go_enter Try.func11, Try.ntmps11
    go_wp2_with fail
    refine kG.mono ?_
    rintro e w1 ⟨rfl, hb1⟩
    have hB1 := stepA hb0 hb1
    clear kG x0 x1
    go_wp2
    go_ret2
    exact ⟨ansT_no, hB1⟩
  | true =>
  rw [hG] at kG
  have H := gchB_iff.1 hG
  have hn12 := H.n12
  have hn1 := H.n1
  have hmk := run_make_row' (P := Try.prog) 32 27 (.slice none 0 0) 24 Try.underlying32 infoII rfl .i64 .i64 n (by omega) (by omega)
  have kS0 : ∀ (s e : Nat) w, s < n → IL w a (n * 2) f → IL w b (m * 3) g → Calls Try.prog 32 #[chv a n c b m d, .int .i64 (s : Int), .int .i64 (e : Int)] w fun r w' => r = .returned (.int .i64 (flR n f m g s e)) ∧ Below w.heap.size w w' := fun s e w hs hf hg => iBehind a b n c m d f g s (e : Int) w H hs hf hg
  have kL := fun t w (ht : t < n) h => isLeaf_any a n c f t w ht h
  have HEnd : Hid (∀ (W : World) (G : Nat), w.heap.size ≤ G → FsX W (G + 1) G n (Kq f n 0) (flR n f m g) → AnsT w W (.returned (.tuple #[.slice (some ⟨G, 0, none⟩) n n, .bool true])) (flN true n) (flK f) (flR n f m g) true) := fun W G hG9 h9 => by
    obtain ⟨A, C, h8⟩ := h9.congr (K' := flK f) fun i hi => by unfold Kq; rw [if_pos hi]
    exact ⟨some ⟨G, 0, none⟩, n, rfl, h8.rk hG9⟩
  generalize flR n f m g = R at *
  clear hG H
  go_enter Try.func11, Try.ntmps11
  go_wp2_with fail
  refine kG.mono ?_
  rintro e w2 ⟨rfl, hb2⟩
  have hB2 := stepA hb0 hb2
  have b2 := b0.on hb2
  have hf2 := hf0.below hb2
  have hg2 := hg0.below hb2
  have hsz2 := hB2.size
  clear kG x0 x1 b0 hf0 hg0 hb2 hb0
  have x0 := b2.c0
  have x1 := b2.c1
  have HFa : Hid (FsX (w2.alloc (.cells (madeCells #[.slice none 0 0] n) 27)) (w2.heap.size + 1) w2.heap.size n (Kq f 0 0) R) := FsX.congr ⟨_, _, fs_made w2 n R⟩ (fun i _ => by unfold Kq; simp)
  have hBa : Below w2.heap.size w2 (w2.alloc (.cells (madeCells #[.slice none 0 0] n) 27)) := (Below.refl _ _).alloc (Nat.le_refl _) _
  have ba := b2.on hBa
  have xa0 := ba.c0
  have xa1 := ba.c1
  go_wp2_with fail
  clear hmk x0 x1 xa0 xa1 ba
  obtain ⟨gb, hgbe⟩ : ∃ gb, gb = w2.heap.size := ⟨_, rfl⟩
  have hgb : w2.heap.size ≤ gb := Nat.le_of_eq hgbe.symm
  rw [← hgbe] at HFa
  generalize w2.alloc (.cells (madeCells #[.slice none 0 0] n) 27) = w3 at *
  rw [← hgbe]
  clear hgbe
  go_loopw [17] (fun i wr => ∃ s : Nat, s ≤ n ∧ i = .int .i64 (s : Int) ∧ Hid (FsX wr (gb + 1) gb n (Kq f s 0) R) ∧ Below w2.heap.size w2 wr) (fun i _ => n - (intOf i).toNat)
  case atStart => exact ⟨0, Nat.zero_le _, rfl, HFa, hBa⟩
  case round =>
    obtain ⟨s, hsn, rfl, HF, hB⟩ := hrel
    clear HFa hBa
    by_cases hs : s < n
    · have kS := fun e w h1 h2 => kS0 s e w hs h1 h2
      clear kS0 HEnd
      have kL2 := kL s wr hs (hf2.below hB)
      have HKz : Hid (¬ f (s * 2 + 1) = -1 → ∀ i, i < n → Kq f s 0 i = Kq f (s + 1) 0 i) := fun h9 i _ => Kq_skip h9 i
      have HK6 : Hid (f (s * 2 + 1) = -1 → ∀ i, i < n → Kq f s 6 i = Kq f (s + 1) 0 i) := fun h9 i _ => Kq_full h9 i
      have j0 : (0 : Int) ≤ (s : Int) := by omega
      have j1 : (s : Int) < (n : Int) := by omega
      have b5 := b2.on hB
      have x0 := b5.c0
      have x1 := b5.c1
      have hBi := hB
      have HFi := HF
      clear kL
      by_cases hlf : f (s * 2 + 1) = -1
      · have hlf' : (f (s * 2 + 1) == -1) = true := by simpa using hlf
        have HK7 : Hid (∀ i, i < n → Kq f s 6 i = Kq f (s + 1) 0 i) := HK6.out hlf
        rw [hlf'] at kL2
        clear HK6 HKz hlf hlf'
        have HK6 := HK7
        clear HK7 HF
        go_wp2_with fail
        refine kL2.mono ?_
        rintro e w5 ⟨rfl, hw5⟩
        have hs5 := hw5.symm
        clear hw5 kL2 x0 x1 b5
        subst hs5
        go_wp2_with fail
        go_loopw [25] (fun i wr => ∃ e : Nat, e ≤ 6 ∧ i = .int .i64 (e : Int) ∧ Hid (FsX wr (gb + 1) gb n (Kq f s e) R) ∧ Below w2.heap.size w2 wr) (fun i _ => 6 - (intOf i).toNat)
        case atStart => exact ⟨0, Nat.zero_le _, rfl, HFi, hBi⟩
        case round =>
          clear HFi hBi
          obtain ⟨e, he, rfl, HFe, hB⟩ := hrel
          by_cases hlt6 : e < 6
          · obtain ⟨A, C, hFs⟩ := HFe.out
            have hBd : Below w2.heap.size w2 wr.drew := hB.drew
            have hFd := hFs.on ((Below.refl wr.heap.size wr).drew)
            have HK : Hid (Kq f s e s = e) := Kq_at f s e
            have hcd := hFd.head.cell hs
            rw [HK.out] at hcd
            have kS3 := kS e wr.drew (hf2.below hBd) (hg2.below hBd)
            obtain ⟨x, hx⟩ : ∃ x, R s e = x := ⟨_, rfl⟩
            have HX : Hid (R s e = x) := hx
            rw [hx] at kS3
            have HKn : Hid (∀ i, i < n → (if i = s then e + 1 else Kq f s e i) = Kq f s (e + 1) i) := fun i _ => by
              unfold Kq
              by_cases e1 : i = s
              · subst e1; simp
              · simp [e1]
            have e6 : (e : Int) < 6 := by omega
            clear hx hFs HFe
            go_upto_region 11 with fail
            refine wp_region_held (S := (fun w' => w'.cell? ⟨w.heap.size, 0, none⟩ = some (.slice a n c) ∧ w'.cell? ⟨w.heap.size, 1, none⟩ = some (.slice b m d))) (by kernel_rfl) ?_
            change wpAnyH _ _ _ _ _ _ _ _ (World.drew _)
            have hSw := (⟨(b2.on (hBd)).c0, (b2.on (hBd)).c1⟩ : _ ∧ _)
            refine wpAnyH_take (i := 0) (v := .slice (some ⟨gb, 0, none⟩) n n) rfl (by kernel_rfl) (by kernel_rfl) (by kernel_rfl) (fun _ _ _ h => h) (Or.inl ⟨by rfl, ?_⟩) hSw ?_
            · intro wz hsz
              obtain ⟨hc8, hc9⟩ := hsz
              go_simp
            try simp [Act.put]
            refine wpAnyH_take (i := 1) (v := .int .i64 (s : Int)) rfl (by kernel_rfl) (by kernel_rfl) (by kernel_rfl) (fun _ _ _ h => h) (Or.inl ⟨by rfl, ?_⟩) hSw ?_
            · intro wz hsz
              obtain ⟨hc8, hc9⟩ := hsz
              go_simp
            try simp [Act.put]
            refine wpAnyH_take (i := 2) (v := .slice (some ⟨gb, 0, none⟩) n n) rfl (by kernel_rfl) (by kernel_rfl) (by kernel_rfl) (fun _ _ _ h => h) (Or.inl ⟨by rfl, ?_⟩) hSw ?_
            · intro wz hsz
              obtain ⟨hc8, hc9⟩ := hsz
              go_simp
            try simp [Act.put]
            refine wpAnyH_take (i := 3) (v := .int .i64 (s : Int)) rfl (by kernel_rfl) (by kernel_rfl) (by kernel_rfl) (fun _ _ _ h => h) (Or.inl ⟨by rfl, ?_⟩) hSw ?_
            · intro wz hsz
              obtain ⟨hc8, hc9⟩ := hsz
              go_simp
            try simp [Act.put]
            refine wpAnyH_take (i := 4) (v := .pointer (some ⟨gb, s, none⟩)) rfl (by kernel_rfl) (by kernel_rfl) (by kernel_rfl) (fun _ _ _ h => h) (Or.inl ⟨by rfl, ?_⟩) hSw ?_
            · intro wz hsz
              obtain ⟨hc8, hc9⟩ := hsz
              go_simp
              try (intro h9; omega)
            try simp [Act.put]
            refine wpAnyH_take (i := 6) (v := chv a n c b m d) rfl (by kernel_rfl) (by kernel_rfl) (by kernel_rfl) (fun _ _ _ h => h) (Or.inl ⟨by rfl, ?_⟩) hSw ?_
            · intro wz hsz
              obtain ⟨hc8, hc9⟩ := hsz
              go_simp
            try simp [Act.put]
            refine wpAnyH_take (i := 7) (v := .int .i64 (s : Int)) rfl (by kernel_rfl) (by kernel_rfl) (by kernel_rfl) (fun _ _ _ h => h) (Or.inl ⟨by rfl, ?_⟩) hSw ?_
            · intro wz hsz
              obtain ⟨hc8, hc9⟩ := hsz
              go_simp
            try simp [Act.put]
            refine wpAnyH_take (i := 8) (v := .int .i64 (e : Int)) rfl (by kernel_rfl) (by kernel_rfl) (by kernel_rfl) (fun _ _ _ h => h) (Or.inl ⟨by rfl, ?_⟩) hSw ?_
            · intro wz hsz
              obtain ⟨hc8, hc9⟩ := hsz
              go_simp
            try simp [Act.put]
            refine wpAnyH_ready (rs := [5, 9]) (by kernel_rfl) (by simp) ?_
            refine AllReadyH.cons rfl (fun K hK => ?_) (AllReadyH.cons rfl (fun K hK => ?_) AllReadyH.nil)
            · go_simp
              refine hK.out _ _ (hSw) (fun hSn => ?_)
              clear hK K hSw
              have hSw := hSn
              clear hSn
              try simp [Act.put]
              refine wpAnyH_ready (rs := [9]) (by kernel_rfl) (by simp) ?_
              refine AllReadyH.cons rfl (fun K hK => ?_) AllReadyH.nil
              go_simp
              go_at_call 32
              refine (kS3).mono ?_
              rintro e9 w6 ⟨rfl, hb6⟩
              have hB6 := stepA hBd hb6
              have hF6 := hFd.on hb6
              refine hK.out _ _ (⟨(b2.on (hB6)).c0, (b2.on (hB6)).c1⟩) (fun hSn => ?_)
              clear hK K hSw
              have hSw := hSn
              clear hSn
              try simp [Act.put]
              refine wpAnyH_ready (rs := [10]) (by kernel_rfl) (by simp) ?_
              refine AllReadyH.cons rfl (fun K hK => ?_) AllReadyH.nil
              go_simp
              have hB7 : Below w2.heap.size w2 (w6.alloc (.cells #[.int .i64 x] 3)) := hB6.alloc hB6.size _
              have hF7 := hF6.on ((Below.refl w6.heap.size w6).alloc (Nat.le_refl _) (.cells #[.int .i64 x] 3))
              refine hK.out _ _ (⟨(b2.on (hB7)).c0, (b2.on (hB7)).c1⟩) (fun hSn => ?_)
              clear hK K hSw
              have hSw := hSn
              clear hSn
              try simp [Act.put]
              have hrow7 := hF7.row s hs
              rw [HK.out] at hrow7
              obtain ⟨v', w7, hrun7, hown7, hgr7, -, hat7⟩ := run_append_own_at (P := Try.prog) (w6.alloc (.cells #[.int .i64 x] 3)) (gb + 1) 27 27 3 i0 (.int .i64 0) 1 8 Try.underlying27 hi hz0 hz1 hz2 rfl (by decide) (.slice (A s) e (C s)) e (vL (R s) e) hrow7 ⟨w6.heap.size, 0, none⟩ 1 1 [.int .i64 x] rfl (cell_one_new _ _ _) (fun u hu => by simp at hu; subst hu; rfl) (by unfold maxLen; omega) (by omega) hF7.head.lt
              have hO7 : Own w7 (gb + 1) v' (e + 1) (R s) := by unfold Own; rw [vL_succ, HX.out]; exact hown7
              have hB8 : Below w2.heap.size w2 w7 := hB7.grown hgr7 hB7.size (fun q hq => by have := (World.ownsRow.lt hrow7 q hq).1; omega)
              obtain ⟨a', c', rfl⟩ := hO7.shape
              refine wpAnyH_ready (rs := [11]) (by kernel_rfl) (by simp) ?_
              refine AllReadyH.cons rfl (fun K hK => ?_) AllReadyH.nil
              refine held_app (by kernel_rfl) (.tmp 33) (.tmp 38) 27 rfl rfl rfl hrun7 ?_
              refine hK.out _ _ (⟨(b2.on (hB8)).c0, (b2.on (hB8)).c1⟩) (fun hSn => ?_)
              clear hK K hSw
              have hSw := hSn
              clear hSn
              try simp [Act.put]
              refine wpAnyH_take (i := 12) (v := .pointer (some ⟨gb, s, none⟩)) rfl (by kernel_rfl) (by kernel_rfl) (by kernel_rfl) (fun _ _ _ h => h) (Or.inl ⟨by rfl, ?_⟩) hSw ?_
              · intro wz hsz
                obtain ⟨hc8, hc9⟩ := hsz
                go_simp
                try (intro h9; omega)
              try simp [Act.put]
              have hh7 := hF7.head3 hs (by rw [HK.out]; exact hgr7)
              have hcc7 := hh7.cell hs
              have hff7 := hh7.frozen s
              have hF8 := hF7.step hs (by rw [HK.out]; exact hgr7) (by rw [HK.out]; exact hO7) (by rw [HK.out]; exact hat7)
              rw [HK.out] at hF8
              have HF8 : Hid (FsX (w7.setCell ⟨gb, s, none⟩ (.slice a' (e + 1) c')) (gb + 1) gb n (Kq f s (e + 1)) R) := FsX.congr ⟨_, _, hF8⟩ HKn.out
              have hB9 := hB8.setCell (p := ⟨gb, s, none⟩) hgb (.slice a' (e + 1) c')
              clear hF8 hh7 hown7 hgr7 hat7 hrun7 hO7 hrow7
              refine wpAnyH_ready (rs := [13]) (by kernel_rfl) (by simp) ?_
              refine AllReadyH.cons rfl (fun K hK => ?_) AllReadyH.nil
              go_simp
              refine hK.out _ _ (⟨(b2.on (hB9)).c0, (b2.on (hB9)).c1⟩) (fun hSn => ?_)
              clear hK K hSw
              have hSw := hSn
              clear hSn
              try simp [Act.put]
              refine wpAnyH_done (by kernel_rfl) ?_ _
              go_wp2
              exact ⟨⟨e + 1, by omega, by go_num, HF8, hB9⟩, by simp [intOf]; omega⟩
            · go_simp
              go_at_call 32
              refine (kS3).mono ?_
              rintro e9 w6 ⟨rfl, hb6⟩
              have hB6 := stepA hBd hb6
              have hF6 := hFd.on hb6
              refine hK.out _ _ (⟨(b2.on (hB6)).c0, (b2.on (hB6)).c1⟩) (fun hSn => ?_)
              clear hK K hSw
              have hSw := hSn
              clear hSn
              try simp [Act.put]
              have hc6 := hF6.head.cell hs
              rw [HK.out] at hc6
              refine wpAnyH_ready (rs := [5, 10]) (by kernel_rfl) (by simp) ?_
              refine AllReadyH.cons rfl (fun K hK => ?_) (AllReadyH.cons rfl (fun K hK => ?_) AllReadyH.nil)
              · go_simp
                refine hK.out _ _ (hSw) (fun hSn => ?_)
                clear hK K hSw
                have hSw := hSn
                clear hSn
                try simp [Act.put]
                refine wpAnyH_ready (rs := [10]) (by kernel_rfl) (by simp) ?_
                refine AllReadyH.cons rfl (fun K hK => ?_) AllReadyH.nil
                go_simp
                have hB7 : Below w2.heap.size w2 (w6.alloc (.cells #[.int .i64 x] 3)) := hB6.alloc hB6.size _
                have hF7 := hF6.on ((Below.refl w6.heap.size w6).alloc (Nat.le_refl _) (.cells #[.int .i64 x] 3))
                refine hK.out _ _ (⟨(b2.on (hB7)).c0, (b2.on (hB7)).c1⟩) (fun hSn => ?_)
                clear hK K hSw
                have hSw := hSn
                clear hSn
                try simp [Act.put]
                have hrow7 := hF7.row s hs
                rw [HK.out] at hrow7
                obtain ⟨v', w7, hrun7, hown7, hgr7, -, hat7⟩ := run_append_own_at (P := Try.prog) (w6.alloc (.cells #[.int .i64 x] 3)) (gb + 1) 27 27 3 i0 (.int .i64 0) 1 8 Try.underlying27 hi hz0 hz1 hz2 rfl (by decide) (.slice (A s) e (C s)) e (vL (R s) e) hrow7 ⟨w6.heap.size, 0, none⟩ 1 1 [.int .i64 x] rfl (cell_one_new _ _ _) (fun u hu => by simp at hu; subst hu; rfl) (by unfold maxLen; omega) (by omega) hF7.head.lt
                have hO7 : Own w7 (gb + 1) v' (e + 1) (R s) := by unfold Own; rw [vL_succ, HX.out]; exact hown7
                have hB8 : Below w2.heap.size w2 w7 := hB7.grown hgr7 hB7.size (fun q hq => by have := (World.ownsRow.lt hrow7 q hq).1; omega)
                obtain ⟨a', c', rfl⟩ := hO7.shape
                refine wpAnyH_ready (rs := [11]) (by kernel_rfl) (by simp) ?_
                refine AllReadyH.cons rfl (fun K hK => ?_) AllReadyH.nil
                refine held_app (by kernel_rfl) (.tmp 33) (.tmp 38) 27 rfl rfl rfl hrun7 ?_
                refine hK.out _ _ (⟨(b2.on (hB8)).c0, (b2.on (hB8)).c1⟩) (fun hSn => ?_)
                clear hK K hSw
                have hSw := hSn
                clear hSn
                try simp [Act.put]
                refine wpAnyH_take (i := 12) (v := .pointer (some ⟨gb, s, none⟩)) rfl (by kernel_rfl) (by kernel_rfl) (by kernel_rfl) (fun _ _ _ h => h) (Or.inl ⟨by rfl, ?_⟩) hSw ?_
                · intro wz hsz
                  obtain ⟨hc8, hc9⟩ := hsz
                  go_simp
                  try (intro h9; omega)
                try simp [Act.put]
                have hh7 := hF7.head3 hs (by rw [HK.out]; exact hgr7)
                have hcc7 := hh7.cell hs
                have hff7 := hh7.frozen s
                have hF8 := hF7.step hs (by rw [HK.out]; exact hgr7) (by rw [HK.out]; exact hO7) (by rw [HK.out]; exact hat7)
                rw [HK.out] at hF8
                have HF8 : Hid (FsX (w7.setCell ⟨gb, s, none⟩ (.slice a' (e + 1) c')) (gb + 1) gb n (Kq f s (e + 1)) R) := FsX.congr ⟨_, _, hF8⟩ HKn.out
                have hB9 := hB8.setCell (p := ⟨gb, s, none⟩) hgb (.slice a' (e + 1) c')
                clear hF8 hh7 hown7 hgr7 hat7 hrun7 hO7 hrow7
                refine wpAnyH_ready (rs := [13]) (by kernel_rfl) (by simp) ?_
                refine AllReadyH.cons rfl (fun K hK => ?_) AllReadyH.nil
                go_simp
                refine hK.out _ _ (⟨(b2.on (hB9)).c0, (b2.on (hB9)).c1⟩) (fun hSn => ?_)
                clear hK K hSw
                have hSw := hSn
                clear hSn
                try simp [Act.put]
                refine wpAnyH_done (by kernel_rfl) ?_ _
                go_wp2
                exact ⟨⟨e + 1, by omega, by go_num, HF8, hB9⟩, by simp [intOf]; omega⟩
              · go_simp
                have hB7 : Below w2.heap.size w2 (w6.alloc (.cells #[.int .i64 x] 3)) := hB6.alloc hB6.size _
                have hF7 := hF6.on ((Below.refl w6.heap.size w6).alloc (Nat.le_refl _) (.cells #[.int .i64 x] 3))
                refine hK.out _ _ (⟨(b2.on (hB7)).c0, (b2.on (hB7)).c1⟩) (fun hSn => ?_)
                clear hK K hSw
                have hSw := hSn
                clear hSn
                try simp [Act.put]
                have hc7 := hF7.head.cell hs
                rw [HK.out] at hc7
                refine wpAnyH_ready (rs := [5]) (by kernel_rfl) (by simp) ?_
                refine AllReadyH.cons rfl (fun K hK => ?_) AllReadyH.nil
                go_simp
                refine hK.out _ _ (hSw) (fun hSn => ?_)
                clear hK K hSw
                have hSw := hSn
                clear hSn
                try simp [Act.put]
                have hrow7 := hF7.row s hs
                rw [HK.out] at hrow7
                obtain ⟨v', w7, hrun7, hown7, hgr7, -, hat7⟩ := run_append_own_at (P := Try.prog) (w6.alloc (.cells #[.int .i64 x] 3)) (gb + 1) 27 27 3 i0 (.int .i64 0) 1 8 Try.underlying27 hi hz0 hz1 hz2 rfl (by decide) (.slice (A s) e (C s)) e (vL (R s) e) hrow7 ⟨w6.heap.size, 0, none⟩ 1 1 [.int .i64 x] rfl (cell_one_new _ _ _) (fun u hu => by simp at hu; subst hu; rfl) (by unfold maxLen; omega) (by omega) hF7.head.lt
                have hO7 : Own w7 (gb + 1) v' (e + 1) (R s) := by unfold Own; rw [vL_succ, HX.out]; exact hown7
                have hB8 : Below w2.heap.size w2 w7 := hB7.grown hgr7 hB7.size (fun q hq => by have := (World.ownsRow.lt hrow7 q hq).1; omega)
                obtain ⟨a', c', rfl⟩ := hO7.shape
                refine wpAnyH_ready (rs := [11]) (by kernel_rfl) (by simp) ?_
                refine AllReadyH.cons rfl (fun K hK => ?_) AllReadyH.nil
                refine held_app (by kernel_rfl) (.tmp 33) (.tmp 38) 27 rfl rfl rfl hrun7 ?_
                refine hK.out _ _ (⟨(b2.on (hB8)).c0, (b2.on (hB8)).c1⟩) (fun hSn => ?_)
                clear hK K hSw
                have hSw := hSn
                clear hSn
                try simp [Act.put]
                refine wpAnyH_take (i := 12) (v := .pointer (some ⟨gb, s, none⟩)) rfl (by kernel_rfl) (by kernel_rfl) (by kernel_rfl) (fun _ _ _ h => h) (Or.inl ⟨by rfl, ?_⟩) hSw ?_
                · intro wz hsz
                  obtain ⟨hc8, hc9⟩ := hsz
                  go_simp
                  try (intro h9; omega)
                try simp [Act.put]
                have hh7 := hF7.head3 hs (by rw [HK.out]; exact hgr7)
                have hcc7 := hh7.cell hs
                have hff7 := hh7.frozen s
                have hF8 := hF7.step hs (by rw [HK.out]; exact hgr7) (by rw [HK.out]; exact hO7) (by rw [HK.out]; exact hat7)
                rw [HK.out] at hF8
                have HF8 : Hid (FsX (w7.setCell ⟨gb, s, none⟩ (.slice a' (e + 1) c')) (gb + 1) gb n (Kq f s (e + 1)) R) := FsX.congr ⟨_, _, hF8⟩ HKn.out
                have hB9 := hB8.setCell (p := ⟨gb, s, none⟩) hgb (.slice a' (e + 1) c')
                clear hF8 hh7 hown7 hgr7 hat7 hrun7 hO7 hrow7
                refine wpAnyH_ready (rs := [13]) (by kernel_rfl) (by simp) ?_
                refine AllReadyH.cons rfl (fun K hK => ?_) AllReadyH.nil
                go_simp
                refine hK.out _ _ (⟨(b2.on (hB9)).c0, (b2.on (hB9)).c1⟩) (fun hSn => ?_)
                clear hK K hSw
                have hSw := hSn
                clear hSn
                try simp [Act.put]
                refine wpAnyH_done (by kernel_rfl) ?_ _
                go_wp2
                exact ⟨⟨e + 1, by omega, by go_num, HF8, hB9⟩, by simp [intOf]; omega⟩
          · have he6 : e = 6 := by omega
            subst he6
            have HFn : Hid (FsX wr (gb + 1) gb n (Kq f (s + 1) 0) R) := HFe.out.congr HK6.out
            clear HFe
            go_wp2
            exact ⟨⟨s + 1, by omega, by go_num, HFn, hB⟩, by simp [intOf]; omega⟩
      · have hlf' : (f (s * 2 + 1) == -1) = false := by simpa using hlf
        have HFn : Hid (FsX wr (gb + 1) gb n (Kq f (s + 1) 0) R) := HFi.out.congr (HKz.out hlf)
        rw [hlf'] at kL2
        clear HK6 HKz HFi hlf hlf' HF
        go_wp2_with fail
        refine kL2.mono ?_
        rintro e w5 ⟨rfl, hw5⟩
        have hs5 := hw5.symm
        clear hw5 kL2 x0 x1 b5
        subst hs5
        go_wp2
        exact ⟨⟨s + 1, by omega, by go_num, HFn, hBi⟩, by simp [intOf]; omega⟩
    · have hse : n = s := by omega
      subst hse
      have HR : Hid (AnsT w wr (.returned (.tuple #[.slice (some ⟨gb, 0, none⟩) n n, .bool true])) (flN true n) (flK f) R true) := HEnd.out wr gb (by omega) HF.out
      have hBe := stepA hB2 hB
      clear HF HEnd kS0
      go_wp2
      go_ret2
      exact ⟨HR.out, hBe⟩
end Go.Proofs.YtjefakfongehdaaR
