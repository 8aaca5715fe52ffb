/- Answer times, as the program goes on to them (tools/gen_pn2.py). -/
import Derived.Test.YtnadedncjbibhaaPnAtS
namespace Go.Proofs.Ytnadedncjbibhaa
open Go.RowKit
theorem sliceHc (gb go m n cap : Nat) (h : m ≤ n) (hc : n ≤ cap) (h0 : 0 < cap) (w : World) : (Instr.sliceAt 23 (.slice (some ⟨gb, go, none⟩) n cap) none (some (.int .i64 (m : Int))) none).run Try.prog w = .ok (.slice (some ⟨gb, go, none⟩) m cap) w := by
  have he : Try.prog.elem 23 = 69 := by kernel_rfl
  have hu : Try.prog.underlying 23 = some (.slice (Try.prog.elem 23)) := by rw [he]; exact Try.underlying23
  rw [run_sliceAt_slice (h := hu), run_slice_h (ht := hu) (h0 := by omega) (h2 := by omega)]
  have hsz : (sizeOf (Try.prog.elem 23)).run Try.prog w = .ok 3 w := by kernel_rfl
  rw [hsz]
  have hcc : ¬ cap = 0 := by omega
  simp [Result.andThen, sliced, Addr.add, hcc]
theorem il_less {w : World} {a : Option Addr} {n m : Nat} {F : Nat → Int} (h : IL w a n F) (hm : m ≤ n) : IL w a m F := fun h0 => by
  obtain ⟨b, off, ha, hb, hc⟩ := h (by omega)
  exact ⟨b, off, ha, hb, fun i hi => hc i (by omega)⟩
set_option maxRecDepth 20000 in
set_option maxHeartbeats 4000000 in
theorem iSumN (a : Option Addr) (n m c : Nat) (F : Nat → Int) (r : Int) (w : World) (g : Gc n F) (hm : m ≤ n) (r0 : 0 ≤ r) (r1 : r ≤ 30000) (h : IL w a (m * 3) F) :
    Calls Try.prog 53 #[.slice a m c, .int .i64 r] w fun e w' => e = .returned (.int .i64 (snK F r m)) ∧ Below w.heap.size w w' := by
  have HG : Hid (Gc n F) := g
  have hn6 := g.six
  clear g
  go_enter Try.func53, Try.ntmps53
  go_wp2
  go_loopw [5, 10] (fun v i wr => ∃ k : Nat, k ≤ m ∧ i = .int .i64 (k : Int) ∧ v = .int .i64 (snK F r k) ∧ Below w.heap.size w wr) (fun _ i _ => m - (intOf i).toNat)
  case atStart => exact ⟨0, Nat.zero_le _, rfl, rfl, Below.refl _ _⟩
  case round =>
    obtain ⟨k, hk, rfl, rfl, hB⟩ := hrel
    by_cases hlt : k < m
    · obtain ⟨gb, go_, rfl, gl_, x0, x1, x2⟩ := il_three (h.below hB) hlt
      have i0 : (0 : Int) ≤ (k : Int) := by omega
      have i1 : (k : Int) < (m : Int) := by omega
      have p1 := HG.out.p1 k (by omega)
      have p2 := HG.out.p2 k (by omega)
      have n1 := HG.out.n1 k (by omega)
      have n2 := HG.out.n2 k (by omega)
      have bd := snK_bd HG.out r0 r1 k (by omega)
      have s1 := sn1_bd (r := r) (p := F (k * 3)) (n := F (k * 3 + 1)) r0 r1 p1 p2 n1 (by omega)
      have HS : Hid (snK F r (k + 1) = snK F r k + F (k * 3 + 1) * ((r + F (k * 3) - 1) / F (k * 3))) := rfl
      unfold sn1 at s1
      clear HG
      generalize snK F r k = V at *
      generalize F (k * 3) = P at *
      generalize F (k * 3 + 1) = N at *
      generalize F (k * 3 + 2) = D at *
      have hbt : Below wr.heap.size wr (wr.alloc (.cells #[.int .i64 P, .int .i64 N, .int .i64 D] 69)) := (Below.refl _ _).alloc (Nat.le_refl _) _
      have b3 := bx_new (w := wr) [.int .i64 P, .int .i64 N, .int .i64 D] 69 rfl
      have z0 := b3.c0
      have z1 := b3.c1
      have z2 := b3.c2
      have zl := b3.lt
      have hB3 := stepA hB hbt
      clear b3
      have kk : (k : Int) ≤ 6 := by omega
      have qd := quo_bd (t := r + P - 1) (p := P) (by omega) p1
      have hq0 : (0 : Int) ≤ r + P - 1 := by omega
      have hq1 : ¬ P = 0 := by omega
      go_wp2_with fail
      go_region
      go_wp2
      go_roundw
      case rel => exact ⟨k + 1, by omega, by go_num, by rw [HS.out], hB3.drew⟩
      case measure => simp [intOf]; omega
    · have e : k = m := by omega
      subst e
      have i1 : ¬ (k : Int) < (k : Int) := by omega
      go_wp2
      go_ret
      exact ⟨rfl, hB⟩
set_option maxRecDepth 20000 in
set_option maxHeartbeats 4000000 in
theorem iTime (a : Option Addr) (n i c : Nat) (F : Nat → Int) (w : World) (g : Gc n F) (hi : i < n) (h : IL w a (i * 3) F) :
    Calls Try.prog 40 #[.slice a i c, crv (F (i * 3)) (F (i * 3 + 1)) (F (i * 3 + 2))] w fun e w' => e = .returned (.int .i64 (atV F i)) ∧ Below w.heap.size w w' := by
  have n1 := g.n1 i hi
  have n2 := g.n2 i hi
  have d1 := g.d1 i hi
  have d2 := g.d2 i hi
  have p2 := g.p2 i hi
  have hn6 := g.six
  have HG : Hid (Gc n F) := g
  have HNA : Hid (NoAt F i (F (i * 3 + 1))) := noAt_start F i
  have HUP : Hid (F (i * 3 + 1) ≤ asK F i (F (i * 3 + 1))) := by
    have := (snK_bd g (r := F (i * 3 + 1)) (by omega) (by omega) i (by omega)).1
    show _ ≤ F (i * 3 + 1) + snK F (F (i * 3 + 1)) i
    omega
  clear g
  generalize F (i * 3) = P at *
  generalize hNN : F (i * 3 + 1) = N at *
  generalize hDD : F (i * 3 + 2) = D at *
  have HNN : Hid (F (i * 3 + 1) = N) := hNN
  have HDD : Hid (F (i * 3 + 2) = D) := hDD
  clear hNN hDD
  have hb0 : Below w.heap.size w (w.alloc (.cells #[.int .i64 P, .int .i64 N, .int .i64 D] 69)) := (Below.refl _ _).alloc (Nat.le_refl _) _
  have b3 := bx_new (w := w) [.int .i64 P, .int .i64 N, .int .i64 D] 69 rfl
  have z1 := b3.c1
  go_enter Try.func40, Try.ntmps40
  go_upto_region 2 with fail
  clear z1
  generalize w.alloc (.cells #[.int .i64 P, .int .i64 N, .int .i64 D] 69) = w5 at *
  have kB : ∀ w2, Below w5.heap.size w5 w2 → Below w.heap.size w w2 := fun w2 hb => hb0.trans (hb.mono hb0.size)
  clear hb0
  go_loopw [5] (fun v wr => ∃ r : Int, N ≤ r ∧ r ≤ 100000000 ∧ v = .int .i64 r ∧ Hid (NoAt F i r) ∧ Hid (r ≤ asK F i r) ∧ Below w5.heap.size w5 wr) (fun v _ => (D + 1 - intOf v).toNat)
  case atStart => exact ⟨N, Int.le_refl _, by omega, rfl, HNA, HUP, Below.refl _ _⟩
  case round =>
    obtain ⟨r, r0, r1, rfl, HR, HU, hBr⟩ := hrel
    have b4 := b3.on hBr
    have c1 := b4.c1
    have c2 := b4.c2
    by_cases hrd : r ≤ D
    · have bd := snK_bd HG.out (r := r) (by omega) (by omega) i (by omega)
      have kS := fun w2 (hb2 : Below w5.heap.size w5 w2) => iSumN a n i c F r w2 HG.out (by omega) (by omega) (by omega) (h.below (kB _ hb2))
      have HAS : Hid (asK F i r = N + snK F r i) := by show F (i * 3 + 1) + snK F r i = _; rw [HNN.out]
      have HM : Hid (∀ s, r ≤ s → asK F i r ≤ asK F i s) := fun s hs => asK_up HG.out hi hs
      have HJ : Hid (NoAt F i (asK F i r)) := noAt_jump HG.out hi HR.out
      generalize snK F r i = V at *
      have hV0 : 0 ≤ V := bd.1
      have hV1 : V ≤ 10821600 := by omega
      have hN60 : N ≤ 60 := by omega
      clear bd
      have hw0 := Below.refl wr.heap.size wr
      go_wp2_with fail
      go_region_held3 (fun w' => w'.cell? ⟨w.heap.size, 1, none⟩ = some (.int .i64 N))
        (first | (exact (b4.on hw0.drew).c1) | (exact (b4.on hw1).c1) | (fail))
        (first | (go_at_call 53; refine (kS _ (hBr.trans (hw0.drew.mono hBr.size))).mono ?_; rintro e w1 ⟨rfl, hbn⟩; have hw1 := stepA hw0.drew hbn; clear hbn) | (fail))
      have hB1 := hBr.trans (hw1.mono hBr.size)
      clear hw0 hw1 kS c1 c2 b4
      cases hq : (N + V == r) with
      | true =>
        have HE : Hid (r = atV F i) := atV_of (atIs_told HR.out (by rw [HNN.out]; exact n1) (by rw [HNN.out]; exact r0) (by rw [HDD.out]; exact hrd) (by rw [HAS.out]; simpa using hq))
        clear HR HAS HG HM HJ HU
        go_wp2
        go_ret
        exact ⟨by rw [← HE.out]; rfl, kB _ hB1⟩
      | false =>
        have hne : N + V ≠ r := by simpa using hq
        have hgr : r < N + V := by have a1 := HU.out; rw [HAS.out] at a1; omega
        have HE : Hid (NoAt F i (N + V)) := by have a1 := HJ.out; rw [HAS.out] at a1; exact a1
        have HU2 : Hid (N + V ≤ asK F i (N + V)) := by have a1 := HM.out (N + V) (by omega); rw [HAS.out] at a1; exact a1
        clear HR HAS HG HM HJ HU hne
        have HW : Hid (IntKind.i64.wrap (N + V) = N + V) := IntWalk.i64_in _ ⟨by omega, by omega⟩
        go_wp2
        go_roundw
        case rel => exact ⟨N + V, by omega, by omega, by rw [HW.out], HE, HU2, hB1⟩
        case measure => simp only [intOf, HW.out]; omega
    · have HE : Hid (-1 = atV F i) := atV_of (atIs_none HR.out (by rw [HDD.out]; omega))
      clear HR HG HU
      go_wp2
      go_ret
      exact ⟨by rw [← HE.out]; rfl, kB _ hBr⟩
theorem own_made {w0 w1 : World} (n : Nat) (hn : n ≤ 1048576) (hz : w0.heap.size ≤ w1.heap.size) (F : Nat → Int) : ∃ wm, (Instr.makeSlice 24 (.int .i64 0) (.int .i64 (n : Int))).run Try.prog w1 = .ok (.slice (some ⟨w1.heap.size, 0, none⟩) 0 n) wm ∧ Own wm w0.heap.size (.slice (some ⟨w1.heap.size, 0, none⟩) 0 n) 0 F ∧ Below w1.heap.size w1 wm := by
  obtain ⟨i0, hi, hzz⟩ := Option.map_eq_some_iff.1 infoI
  simp only [Prod.mk.injEq] at hzz
  obtain ⟨hz0, hz1, hz2⟩ := hzz
  obtain ⟨wm, hrun, hown, hgrow⟩ := run_make_own (P := Try.prog) w1 w0.heap.size 24 3 i0 _ 1 Try.underlying24 hi hz0 hz1 .i64 .i64 n (by rw [hz2]; omega) (by unfold maxLen; omega) hz
  exact ⟨wm, hrun, hown, (Below.refl w1.heap.size w1).grown hgrow (Nat.le_refl _) (fun q hq => by cases hq)⟩
set_option maxRecDepth 20000 in
set_option maxHeartbeats 4000000 in
theorem iTimes (a : Option Addr) (n c : Nat) (F : Nat → Int) (w : World) (hc : n ≤ c) (h : IL w a (n * 3) F) :
    Calls Try.prog 13 #[.slice a n c] w fun e w' => AnsTb w w' e (atN n F) (atV F) (gcV n F) ∧ Below w.heap.size w w' := by
  cases hv : gcV n F with
  | false =>
    have HV : Hid (gcV n F = false) := hv
    have HA : ∀ w', Hid (AnsTb w w' (.returned (.tuple #[.slice none 0 0, .bool false])) (atN n F) (atV F) false) := fun w' => by unfold atN; rw [hv]; exact ansTb_nil _ _ _ _
    clear hv
    go_enter Try.func13, Try.ntmps13
    go_wp2_with fail
    refine (iGoodC a n c F w h).mono ?_
    rintro e w1 ⟨rfl, hb1⟩
    rw [HV.out]
    go_wp2
    go_ret2
    exact ⟨(HA _).out, hb1⟩
  | true =>
    have HV : Hid (gcV n F = true) := hv
    have HG : Hid (Gc n F) := gcV_gc hv
    have HA : Hid (atN n F = n) := by unfold atN; rw [hv]; rfl
    rw [HA.out]
    have hn6 := HG.out.six
    clear hv
    obtain ⟨i_, hi_, hzz⟩ := Option.map_eq_some_iff.1 infoI
    simp only [Prod.mk.injEq] at hzz
    obtain ⟨hz0, hz1, hz2⟩ := hzz
    go_enter Try.func13, Try.ntmps13
    go_wp2_with fail
    refine (iGoodC a n c F w h).mono ?_
    rintro e w1 ⟨rfl, hb1⟩
    rw [HV.out]
    obtain ⟨wm, hrun, hown, hbm⟩ := own_made n (by omega) hb1.size (atV F)
    have HO : Hid (Own wm w.heap.size (.slice (some ⟨w1.heap.size, 0, none⟩) 0 n) 0 (atV F)) := hown
    have hBm := stepA hb1 hbm
    clear hown hbm
    go_wp2
    clear hrun
    generalize w1.heap.size = K at HO ⊢
    go_loopw [4, 15] (fun v i wr => ∃ k : Nat, k ≤ n ∧ i = .int .i64 (k : Int) ∧ Hid (Own wr w.heap.size v k (atV F)) ∧ Below w.heap.size w wr) (fun _ i _ => n - (intOf i).toNat)
    case atStart => exact ⟨0, Nat.zero_le _, rfl, HO, hBm⟩
    case round =>
      obtain ⟨k, hk, rfl, HOk, hB⟩ := hrel
      clear HO hBm hb1
      by_cases hlt : k < n
      · obtain ⟨gb, go_, rfl, gl_, x0, x1, x2⟩ := il_three (h.below hB) hlt
        have i0 : (0 : Int) ≤ (k : Int) := by omega
        have i1 : (k : Int) < (n : Int) := by omega
        have hsl := sliceHc gb go_ k n c (by omega) hc (by omega)
        have kT0 := fun w2 (hb : Below w.heap.size w w2) => iTime (some ⟨gb, go_, none⟩) n k c F w2 HG.out hlt (il_less (h.below hb) (by omega))
        clear HG HV
        generalize F (k * 3) = P at *
        generalize F (k * 3 + 1) = N at *
        generalize F (k * 3 + 2) = D at *
        obtain ⟨X, hX⟩ : ∃ X, X = atV F k := ⟨_, rfl⟩
        rw [← hX] at kT0
        have HX : Hid (atV F k = X) := hX.symm
        clear hX
        have hbt : Below wr.heap.size wr (wr.alloc (.cells #[.int .i64 P, .int .i64 N, .int .i64 D] 69)) := (Below.refl _ _).alloc (Nat.le_refl _) _
        have b3 := bx_new (w := wr) [.int .i64 P, .int .i64 N, .int .i64 D] 69 rfl
        have hB5 := stepA hB hbt
        have hO5 := HOk.out.below hbt
        clear hbt HOk
        go_upto_region 7 with fail
        generalize wr.alloc (.cells #[.int .i64 P, .int .i64 N, .int .i64 D] 69) = w5 at *
        generalize wr.heap.size = B at *
        have kT := fun w2 (hb : Below w5.heap.size w5 w2) => kT0 w2 (stepA hB5 hb)
        have hw0 := Below.refl w5.heap.size w5
        have e0 := (b3.on hw0.drew).c0
        have e1 := (b3.on hw0.drew).c1
        have e2 := (b3.on hw0.drew).c2
        clear kT0 x0 x1 x2
        refine wp_region_held (S := (fun _ => True)) (by kernel_rfl) ?_
        change wpAnyH _ _ _ _ _ _ _ _ (World.drew _)
        have hSw := (trivial : True)
        refine wpAnyH_take (i := 0) (v := u4) rfl (by kernel_rfl) (by kernel_rfl) (by kernel_rfl) (fun _ _ _ h => h) (Or.inl ⟨by rfl, ?_⟩) hSw ?_
        · intro wz hsz
          obtain ⟨⟩ := hsz
          go_simp
        try simp [Act.put]
        refine wpAnyH_take (i := 1) (v := .slice (some ⟨gb, go_, none⟩) n c) rfl (by kernel_rfl) (by kernel_rfl) (by kernel_rfl) (fun _ _ _ h => h) (Or.inl ⟨by rfl, ?_⟩) hSw ?_
        · intro wz hsz
          obtain ⟨⟩ := hsz
          go_simp
        try simp [Act.put]
        refine wpAnyH_take (i := 2) (v := .int .i64 (k : Int)) rfl (by kernel_rfl) (by kernel_rfl) (by kernel_rfl) (fun _ _ _ h => h) (Or.inl ⟨by rfl, ?_⟩) hSw ?_
        · intro wz hsz
          obtain ⟨⟩ := hsz
          go_simp
        try simp [Act.put]
        refine wpAnyH_take (i := 3) (v := .slice (some ⟨gb, go_, none⟩) k c) rfl (by kernel_rfl) (by kernel_rfl) (by kernel_rfl) (fun _ _ _ h => h) (Or.inl ⟨by rfl, ?_⟩) hSw ?_
        · intro wz hsz
          obtain ⟨⟩ := hsz
          go_simp
        try simp [Act.put]
        refine wpAnyH_ready (rs := [4]) (by kernel_rfl) (by simp) ?_
        refine AllReadyH.cons rfl (fun K hK => ?_) AllReadyH.nil
        go_simp
        refine hK.out _ _ (trivial) (fun hSn => ?_)
        clear hK K hSw
        have hSw := hSn
        clear hSn
        try simp [Act.put]
        refine wpAnyH_ready (rs := [5]) (by kernel_rfl) (by simp) ?_
        refine AllReadyH.cons rfl (fun K hK => ?_) AllReadyH.nil
        go_simp
        go_wp2_with (first | (go_at_call 40; refine (kT _ hw0.drew).mono ?_; rintro r w6 ⟨rfl, hb6⟩) | (fail))
        have hbb := stepA hw0.drew hb6
        refine hK.out _ _ (trivial) (fun hSn => ?_)
        clear hK K hSw
        have hSw := hSn
        clear hSn
        try simp [Act.put]
        refine wpAnyH_ready (rs := [6]) (by kernel_rfl) (by simp) ?_
        refine AllReadyH.cons rfl (fun K hK => ?_) AllReadyH.nil
        go_simp
        refine hK.out _ _ (trivial) (fun hSn => ?_)
        clear hK K hSw
        have hSw := hSn
        clear hSn
        try simp [Act.put]
        obtain ⟨v', w7, hrun7, hown7, hgr7, -⟩ := run_append_own (P := Try.prog) (w6.alloc (.cells #[.int .i64 X] 3)) w.heap.size 24 24 3 i_ (.int .i64 0) 1 8 Try.underlying24 hi_ hz0 hz1 hz2 rfl (by decide) u4 k (vL (atV F) k) (World.ownsRow.alloc (hO5.below hbb) _) ⟨w6.heap.size, 0, none⟩ 1 1 [.int .i64 X] rfl (cell_one_new _ _ _) (fun u hu => by simp at hu; subst hu; rfl) (by unfold maxLen; omega) (by omega) (by simp; have := hbb.size; have := hB5.size; omega)
        have hb7 : Below w.heap.size w w7 := ((stepA hB5 hbb).alloc (by have := hbb.size; have := hB5.size; omega) _).grown hgr7 (by simp; have := hbb.size; have := hB5.size; omega) (fun q hq => (World.ownsRow.lt hO5 q hq).1)
        refine wpAnyH_ready (rs := [7]) (by kernel_rfl) (by simp) ?_
        refine AllReadyH.cons rfl (fun K hK => ?_) AllReadyH.nil
        refine held_append (by kernel_rfl) (.tmp 20) (.tmp 26) 24 rfl rfl rfl hrun7 ?_
        refine hK.out _ _ trivial (fun hSn => ?_)
        clear hK K hSw hSn
        have hSw := trivial
        try simp [Act.put]
        have HO7 : Hid (Own w7 w.heap.size v' (k + 1) (atV F)) := by show Own _ _ _ _ _; unfold Own; rw [vL_succ, HX.out]; exact hown7
        clear hown7 hgr7 hrun7 hbb
        refine wpAnyH_ready (rs := [8]) (by kernel_rfl) (by simp) ?_
        refine AllReadyH.cons rfl (fun K hK => ?_) AllReadyH.nil
        go_simp
        refine hK.out _ _ (trivial) (fun hSn => ?_)
        clear hK K hSw
        have hSw := hSn
        clear hSn
        try simp [Act.put]
        refine wpAnyH_done (by kernel_rfl) ?_ _
        go_wp2
        go_roundw
        case rel => exact ⟨k + 1, by omega, by go_num, HO7, hb7⟩
        case measure => simp [intOf]; omega
      · have e : k = n := by omega
        subst e
        have i1 : ¬ (k : Int) < (k : Int) := by omega
        obtain ⟨sa, sc, rfl⟩ := HOk.out.shape
        clear HG HV
        go_wp2
        go_ret2
        exact ⟨ansTb_own HOk.out, hB⟩
end Go.Proofs.Ytnadedncjbibhaa
