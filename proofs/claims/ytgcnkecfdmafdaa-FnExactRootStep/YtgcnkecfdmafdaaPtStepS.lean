/- The contract of the specification's step towards roots. -/
import Derived.Test.YtgcnkecfdmafdaaPtStepI
import Derived.BigRegion
import Derived.Deep.RegionWith
import Derived.Deep.RegionHeld
namespace Go.Proofs.Ytgcnkecfdmafdaa
open Go.RowKit

set_option maxHeartbeats 400000 in
theorem l3Finite_any (x y : Nat) (w : World) (hx : x < 18446744073709551616) (hy : y < 18446744073709551616) :
    Calls Try.prog 62 #[pt x y] w fun e w' => e = .returned (.bool (toldT x && toldT y)) ∧ Below w.heap.size w w' := by
  have hb : ∀ x, (!nanB x && !infB x) = toldT x := fun x => by unfold toldT; cases nanB x <;> rfl
  have hf : ∀ x w, x < 18446744073709551616 → Calls Try.prog 39 #[.float .f64 x] w fun e w' => e = .returned (.bool (toldT x)) ∧ w' = w := fun x w hx => by rw [← hb]; exact l2Finite_any x w hx
  clear hb
  by_cases hg : toldT x = true
  · rw [hg]
    go_enter Try.func62, Try.ntmps62
    go_wp2_with (first | (go_at_call_of 39 x; refine (hf x _ hx).mono ?_; rintro e w' ⟨rfl, rfl⟩) | (go_at_call 39; refine (hf y _ hy).mono ?_; rintro e w' ⟨rfl, rfl⟩))
    go_ret
    exact ⟨rfl, (Below.refl _ _).alloc (Nat.le_refl _) _⟩
  · have hg' : toldT x = false := by simpa using hg
    rw [hg']
    go_enter Try.func62, Try.ntmps62
    go_wp2_with (go_at_call 39; refine (hf x _ hx).mono ?_; rintro e w' ⟨rfl, rfl⟩)
    go_ret
    exact ⟨rfl, (Below.refl _ _).alloc (Nat.le_refl _) _⟩

@[go_sem] theorem alloc_drewN (w : World) (m : Nat) (o : Obj) : (w.drewN m).alloc o = (w.alloc o).drewN m := rfl

theorem box_dr (w : World) (x y : Nat) (t : TypeId) (m : Nat) : Box ((w.alloc (.cells #[.float .f64 x, .float .f64 y] t)).drewN m) w.heap.size x y := (box_new w x y t).below (below_dr (Below.refl _ _) m) (box_new w x y t).lt

/-- what stays in the round of a point -/
structure Rnd (b c n : Nat) (z : (Nat → Nat) × (Nat → Nat)) (v u : Nat) (w wr : World) : Prop where
  ps : PS wr b n z.1 z.2
  box : Box wr c v u
  bel : Below b w wr
  lt : b < c
theorem Rnd.next {b c n : Nat} {z : (Nat → Nat) × (Nat → Nat)} {v u : Nat} {w wr w' : World} (h : Rnd b c n z v u w wr) (k : Below wr.heap.size wr w') : Rnd b c n z v u w w' :=
  ⟨h.ps.below k h.ps.lt, h.box.below k h.box.lt, h.bel.trans (k.mono (Nat.le_of_lt h.ps.lt)), h.lt⟩

theorem Rnd.set {b c n : Nat} {z : (Nat → Nat) × (Nat → Nat)} {v u v' u' : Nat} {w wr : World} (h : Rnd b c n z v u w wr) : Rnd b c n z v' u' w ((wr.setCell ⟨c, 0, none⟩ (.float .f64 v')).setCell ⟨c, 1, none⟩ (.float .f64 u')) :=
  have k : Below c wr ((wr.setCell ⟨c, 0, none⟩ (.float .f64 v')).setCell ⟨c, 1, none⟩ (.float .f64 u')) := ((Below.refl _ _).setCell (p := ⟨c, 0, none⟩) (Nat.le_refl _) _).setCell (p := ⟨c, 1, none⟩) (Nat.le_refl _) _
  ⟨h.ps.below k h.lt, h.box.set, h.bel.trans (k.mono (Nat.le_of_lt h.lt)), h.lt⟩

set_option maxRecDepth 20000 in
set_option maxHeartbeats 8000000 in
theorem l3Step_any (a : Option Addr) (len cap : Nat) (f : Nat → Nat) (b n cap2 : Nat) (X Y : Nat → Nat) (w : World) (hF : ∀ w', Below b w w' → FS w' a len f) (hn : n ≤ 1048576) (hX : ∀ i, i < n → X i < 18446744073709551616 ∧ Y i < 18446744073709551616) (hP : PS w b n X Y) :
    Calls Try.prog 50 #[.slice a len cap, .slice (some ⟨b, 0, none⟩) n cap2] w fun e w' => ∃ t X' Y', e = .returned (.bool t) ∧ PS w' b n X' Y' ∧ Below b w w' ∧ ((stp true f len n X Y n = none ∧ t = false) ∨ (t = true ∧ stp true f len n X Y n = some (X', Y') ∧ ∀ i, i < n → X' i < 18446744073709551616 ∧ Y' i < 18446744073709551616)) := by
  have hsub := fun v y w => run_fl (P := Try.prog) .sub (by simp) 22 v y w
  have hmul := fun v y w => run_fl (P := Try.prog) .mul (by simp) 22 v y w
  have hadd := fun v y w => run_fl (P := Try.prog) .add (by simp) 22 v y w
  go_enter Try.func50, Try.ntmps50
  go_wp2
  go_loopw [14] (fun i wr => ∃ (k : Nat) (z : (Nat → Nat) × (Nat → Nat)), k ≤ n ∧ i = .int .i64 k ∧ stp true f len n X Y k = some z ∧ (∀ j, j < n → z.1 j < 18446744073709551616 ∧ z.2 j < 18446744073709551616) ∧ PS wr b n z.1 z.2 ∧ Below b w wr) (fun i _ => n - (intOf i).toNat)
  case atStart => exact ⟨0, (X, Y), Nat.zero_le _, rfl, rfl, hX, hP, Below.refl _ _⟩
  case round =>
    obtain ⟨k, z, hk, rfl, hz, hzb, hps, hB⟩ := hrel
    have HZ : Hid (stp true f len n X Y k = some z) := hz
    clear hz hX hP
    by_cases hlt : k < n
    · have hFw := hF wr hB
      have x0 := hps.c0 k hlt
      have x1 := hps.c1 k hlt
      obtain ⟨hk1, hk2⟩ := hzb k hlt
      have i1 : (k : Int) < (n : Int) := by omega
      go_wp2_with fail
      refine (l3At_any a len cap f (z.1 k) (z.2 k) _ hFw (rep_of hk1) (rep_of hk2)).mono ?_
      rintro e w1 ⟨v0, u0, rfl, hv0, hu0, hb1⟩
      have R1 : Rnd b w1.heap.size n z v0 u0 w (w1.alloc (.cells #[.float .f64 v0, .float .f64 u0] 25)) :=
        ⟨(hps.below hb1 hps.lt).below ((Below.refl _ _).alloc (Nat.le_refl _) _) (hps.below hb1 hps.lt).lt, box_new _ _ _ _, (hB.trans (hb1.mono (Nat.le_of_lt hps.lt))).alloc (Nat.le_of_lt (hps.below hb1 hps.lt).lt) _, (hps.below hb1 hps.lt).lt⟩
      have HR1 : Hid (Rnd b w1.heap.size n z v0 u0 w (w1.alloc (.cells #[.float .f64 v0, .float .f64 u0] 25))) := R1
      clear hb1 hps hB hFw x0 x1 R1
      go_wp2
      go_loopw [25] (fun j wr2 => ∃ (kk : Nat) (p : Option Nat × Option Nat) (v u : Nat), kk ≤ n ∧ j = .int .i64 kk ∧ inn true f len z.1 z.2 k kk = some p ∧ Rep p.1 v ∧ Rep p.2 u ∧ Rnd b w1.heap.size n z v u w wr2) (fun j _ => n - (intOf j).toNat)
      case atStart => exact ⟨0, _, v0, u0, Nat.zero_le _, rfl, rfl, hv0, hu0, HR1.out⟩
      case round =>
        obtain ⟨kk, p, v, u, hkk, rfl, hp, hv, hu, hR⟩ := hrel
        have HP : Hid (inn true f len z.1 z.2 k kk = some p) := hp
        have HV : Hid (Rep p.1 v) := hv
        have HU : Hid (Rep p.2 u) := hu
        have HR : Hid (Rnd b w1.heap.size n z v u w wr) := hR
        clear hp hv hu hv0 hu0 HR1
        by_cases hl2 : kk < n
        · have j1 : (kk : Int) < (n : Int) := by omega
          by_cases hki : kk = k
          · subst hki
            clear hR
            go_wp2
            exact ⟨⟨kk + 1, p, v, u, by omega, by go_num, by simp [inn, HP.out], HV.out, HU.out, HR.out⟩, by simp [intOf]; omega⟩
          · have hne : ¬ (kk : Int) = (k : Int) := by omega
            have x0 := hR.ps.c0 k hlt
            have x1 := hR.ps.c1 k hlt
            have y0 := hR.ps.c0 kk hl2
            have y1 := hR.ps.c1 kk hl2
            obtain ⟨hq1, hq2⟩ := hzb kk hl2
            have hdx : ∀ w, Rep (dfx z.1 k kk) (fr .sub (z.1 k) (z.1 kk) w) := fun w => rep_ob (rep_of hk1) (rep_of hq1) w
            have hdy : ∀ w, Rep (dfx z.2 k kk) (fr .sub (z.2 k) (z.2 kk) w) := fun w => rep_ob (rep_of hk2) (rep_of hq2) w
            have nb1 : ¬ wr.heap.size = b := Nat.ne_of_gt hR.ps.lt
            have nb2 : ¬ b = wr.heap.size := Nat.ne_of_lt hR.ps.lt
            have z0 : (wr.alloc (.cells #[.float .f64 0, .float .f64 0] 25)).cell? ⟨b, k * 2, none⟩ = some (.float .f64 (z.1 k)) := ((Below.refl _ _).alloc (Nat.le_refl _) _).cell (p := ⟨b, _, none⟩) hR.ps.lt |>.trans x0
            have z1 : (wr.alloc (.cells #[.float .f64 0, .float .f64 0] 25)).cell? ⟨b, k * 2 + 1, none⟩ = some (.float .f64 (z.2 k)) := ((Below.refl _ _).alloc (Nat.le_refl _) _).cell (p := ⟨b, _, none⟩) hR.ps.lt |>.trans x1
            have z2 : (wr.alloc (.cells #[.float .f64 0, .float .f64 0] 25)).cell? ⟨b, kk * 2, none⟩ = some (.float .f64 (z.1 kk)) := ((Below.refl _ _).alloc (Nat.le_refl _) _).cell (p := ⟨b, _, none⟩) hR.ps.lt |>.trans y0
            have z3 : (wr.alloc (.cells #[.float .f64 0, .float .f64 0] 25)).cell? ⟨b, kk * 2 + 1, none⟩ = some (.float .f64 (z.2 kk)) := ((Below.refl _ _).alloc (Nat.le_refl _) _).cell (p := ⟨b, _, none⟩) hR.ps.lt |>.trans y1
            clear hR
            go_upto_region 9 with fail
            go_cut [8] from 26 to 80 (fun s8 wx => ∃ g cr ci, s8 = .pointer (some ⟨g, 0, none⟩) ∧ w1.heap.size < g ∧ Rep (dfx z.1 k kk) cr ∧ Rep (dfx z.2 k kk) ci ∧ Box wx g cr ci ∧ Rnd b w1.heap.size n z v u w wx)
            case first =>
              go_region
              all_goals
                go_wp2_with fail
                go_meet
                case rel => exact ⟨wr.heap.size, _, _, rfl, HR.out.box.lt, hdx _, hdy _, ((box_new wr 0 0 25).below (below_dr (Below.refl _ _) _) (box_new wr 0 0 25).lt).set, HR.out.next (((below_dr ((Below.refl _ _).alloc (Nat.le_refl _) _) _).setCell (p := ⟨_, 0, none⟩) (Nat.le_refl _) _).setCell (p := ⟨_, 1, none⟩) (Nat.le_refl _) _)⟩
            case rest =>
              clear x0 x1 y0 y1 z0 z1 z2 z3 nb1 nb2 HR hdx hdy
              obtain ⟨g, cr, ci, rfl, hcg, hcr, hci, hG, hR⟩ := hcut
              have HG : Hid (Box wc g cr ci) := hG
              have HR : Hid (Rnd b w1.heap.size n z v u w wc) := hR
              have HCR : Hid (Rep (dfx z.1 k kk) cr) := hcr
              have HCI : Hid (Rep (dfx z.2 k kk) ci) := hci
              have g0 := hG.c0
              have g1 := hG.c1
              clear hcr hci hG hR
              go_upto_region 10 with fail
              go_cut [9] from 26 to 80 (fun s9 wx => ∃ dv m, s9 = .float .f64 dv ∧ Rep (dD (dfx z.1 k kk) (dfx z.2 k kk)) dv ∧ wx = wc.drewN m)
              case first =>
                go_wp2_with fail
                go_meet
                case rel => exact ⟨_, _, rfl, rep_ob (rep_ob HCR.out HCR.out _) (rep_ob HCI.out HCI.out _) _, rfl⟩
              case rest =>
                obtain ⟨dv, m, rfl, hdv, hwc⟩ := hcut
                have hR := HR.out.next (below_of hwc)
                have hG := HG.out.below (below_of hwc) HG.out.lt
                clear HR HG hwc g0 g1
                have HR : Hid (Rnd b w1.heap.size n z v u w wc) := hR
                have HG : Hid (Box wc g cr ci) := hG
                have b0 := hR.box.c0
                have b1 := hR.box.c1
                clear hR hG
                have hdl := hdv.1
                have hnr := noD_rep hdv
                have hte : (toldT v && toldT u) = tellOk p.1 p.2 := by unfold tellOk; rw [(told_rep HV.out).2, (told_rep HU.out).2]
                cases hno : noDo (dD (dfx z.1 k kk) (dfx z.2 k kk)) with
                | true =>
                  have hfail : stp true f len n X Y n = none := stp_fail HZ.out (m := kk + 1) (by simp [inn, HP.out, hki, hno]) (by omega) hlt
                  rcases noD_true (hnr.trans hno) with h1 | ⟨h1, h2⟩ | ⟨h1, h2, h3⟩
                  all_goals
                    go_wp2_with (go_at_call 39; refine (l2Finite_any dv _ hdl).mono ?_; rintro e w' ⟨rfl, hw'⟩; have hs' := hw'.symm; clear hw'; subst hs')
                    go_ret
                    exact ⟨false, z.1, z.2, rfl, HR.out.ps, HR.out.bel, .inl ⟨hfail, rfl⟩⟩
                | false =>
                  obtain ⟨h1, h2, h3⟩ := noD_false (hnr.trans hno)
                  go_wp2_with (go_at_call 39; refine (l2Finite_any dv _ hdl).mono ?_; rintro e w' ⟨rfl, hw'⟩; have hs' := hw'.symm; clear hw'; subst hs')
                  refine (l3Finite_any v u _ HV.out.1 HU.out.1).mono ?_
                  rintro e w5 ⟨rfl, hb5⟩
                  have hR := HR.out.next hb5
                  have hG := HG.out.below hb5 HG.out.lt
                  rw [hte]
                  clear HR HG hb5 b0 b1 h1 h2 h3 hnr hdl hdv
                  have HR : Hid (Rnd b w1.heap.size n z v u w w5) := hR
                  have b0 := hR.box.c0
                  have b1 := hR.box.c1
                  have g0 := hG.c0
                  have g1 := hG.c1
                  clear hR hG
                  cases ht : tellOk p.1 p.2 with
                  | false =>
                    have hfail : stp true f len n X Y n = none := stp_fail HZ.out (m := kk + 1) (by simp [inn, HP.out, hki, hno, ht]) (by omega) hlt
                    go_wp2
                    go_ret
                    exact ⟨false, z.1, z.2, rfl, HR.out.ps, HR.out.bel, .inl ⟨hfail, rfl⟩⟩
                  | true =>
                    go_wp2_with fail
                    refine (l3Div_any v u cr ci _ HV.out HU.out HCR.out HCI.out).mono ?_
                    rintro e w6 ⟨vr, vi, rfl, hvr, hvi, hb6⟩
                    have hR := HR.out.next hb6
                    clear HR hb6 b0 b1 g0 g1
                    have HR : Hid (Rnd b w1.heap.size n z v u w w6) := hR
                    have b0 := hR.box.c0
                    have b1 := hR.box.c1
                    have b2 := hR.box.f0
                    have b3 := hR.box.f1
                    clear hR
                    go_wp2
                    exact ⟨⟨kk + 1, (dR p.1 p.2 (dfx z.1 k kk) (dfx z.2 k kk), dI p.1 p.2 (dfx z.1 k kk) (dfx z.2 k kk)), vr, vi, by omega, by go_num, by simp [inn, HP.out, hki, hno, ht], hvr, hvi, HR.out.set⟩, by simp [intOf]; omega⟩
        · have hke : kk = n := by omega
          subst hke
          have x0 := hR.ps.c0 k hlt
          have x1 := hR.ps.c1 k hlt
          have b0 := hR.box.c0
          have b1 := hR.box.c1
          have hsx : ∀ w, Rep (ob .sub (some (z.1 k)) p.1) (fr .sub (z.1 k) v w) := fun w => rep_ob (rep_of hk1) HV.out w
          have hsy : ∀ w, Rep (ob .sub (some (z.2 k)) p.2) (fr .sub (z.2 k) u w) := fun w => rep_ob (rep_of hk2) HU.out w
          have k0 := Below.refl wr.heap.size wr
          have l1 := hR.ps.lt
          have l2 := hR.box.lt
          clear hR
          go_upto_region 15 with fail
          go_cut [10, 11] from 15 to 108 (fun s10 s11 wx => ∃ g, s10 = .pointer (some ⟨g, 0, none⟩) ∧ s11 = .bool (tellOk (ob .sub (some (z.1 k)) p.1) (ob .sub (some (z.2 k)) p.2)) ∧ Box wx g (tellR (ob .sub (some (z.1 k)) p.1) (ob .sub (some (z.2 k)) p.2)) (tellI (ob .sub (some (z.1 k)) p.1) (ob .sub (some (z.2 k)) p.2)) ∧ Rnd b w1.heap.size kk z v u w wx)
          case first =>
            go_region_held (fun w' => w'.cell? ⟨b, k * 2, none⟩ = some (.float .f64 (z.1 k)) ∧ w'.cell? ⟨b, k * 2 + 1, none⟩ = some (.float .f64 (z.2 k)) ∧ w'.cell? ⟨w1.heap.size, 0, none⟩ = some (.float .f64 v) ∧ w'.cell? ⟨w1.heap.size, 1, none⟩ = some (.float .f64 u))
              (first | (exact keep4 x0 x1 b0 b1 l1 l2 k0.drew) | (exact keep4 x0 x1 b0 b1 l1 l2 (below_dr k0 _)) | (exact keep4 x0 x1 b0 b1 l1 l2 (k0.alloc (Nat.le_refl _) _).drew) | (exact keep4 x0 x1 b0 b1 l1 l2 (below_dr (k0.alloc (Nat.le_refl _) _) _)) | (exact keep4 x0 x1 b0 b1 l1 l2 hw5) | (exact keep4 x0 x1 b0 b1 l1 l2 (hw5.alloc hw5.size _)) | (exact keep4 x0 x1 b0 b1 l1 l2 ((hw5.setCell (p := ⟨wr.heap.size, 0, none⟩) (Nat.le_refl _) _).setCell (p := ⟨wr.heap.size, 1, none⟩) (Nat.le_refl _) _)) | (fail))
              ((go_at_call 32; refine (l3Told_any _ _ _ (hsx _).1 (hsy _).1).mono ?_; rintro e w5 ⟨rfl, hb5⟩; rw [tell_rep (hsx _) (hsy _)]; (first | (have hw5 := stepA (below_dr k0 _) hb5) | (have hw5 := stepA (below_dr (k0.alloc (Nat.le_refl _) _) _) hb5; have nb := (box_dr wr 0 0 _ _).below hb5 (box_dr wr 0 0 _ _).lt; have n1 := nb.c0; have n2 := nb.c1; have n3 := nb.f0; have n4 := nb.f1)); clear hb5))
            all_goals
              go_wp2_with fail
              go_meet
              case rel =>
                first
                | exact ⟨w5.heap.size, rfl, rfl, box_new _ _ _ _, HR.out.next (hw5.alloc hw5.size _)⟩
                | exact ⟨wr.heap.size, rfl, rfl, nb.set, HR.out.next ((hw5.setCell (p := ⟨_, 0, none⟩) (Nat.le_refl _) _).setCell (p := ⟨_, 1, none⟩) (Nat.le_refl _) _)⟩
          case rest =>
            clear x0 x1 b0 b1 l1 l2 k0 HR
            obtain ⟨g, rfl, rfl, hG, hR⟩ := hcut
            have g0 := hG.c0
            have g1 := hG.c1
            have x0 := hR.ps.c0 k hlt
            have x1 := hR.ps.c1 k hlt
            have f0 := hR.ps.fz (k * 2)
            have f1 := hR.ps.fz (k * 2 + 1)
            have HR : Hid (Rnd b w1.heap.size kk z v u w wc) := hR
            clear hG hR
            cases ht : tellOk (ob .sub (some (z.1 k)) p.1) (ob .sub (some (z.2 k)) p.2) with
            | true =>
              have e1 : tellR (ob .sub (some (z.1 k)) p.1) (ob .sub (some (z.2 k)) p.2) = fit true (ob .sub (some (z.1 k)) p.1) := by unfold tellR fit; rw [ht]; rfl
              have e2 : tellI (ob .sub (some (z.1 k)) p.1) (ob .sub (some (z.2 k)) p.2) = fit true (ob .sub (some (z.2 k)) p.2) := by unfold tellI fit; rw [ht]; rfl
              rw [e1] at g0
              rw [e2] at g1
              clear e1 e2
              go_wp2
              refine ⟨⟨k + 1, _, by omega, by go_num, stp_go HZ.out HP.out ht, fun j hj => ?_, (HR.out.ps.set0 hlt _).set1 hlt _, (HR.out.bel.setCell (p := ⟨_, _, none⟩) (Nat.le_refl _) _).setCell (p := ⟨_, _, none⟩) (Nat.le_refl _) _⟩, by simp [intOf]; omega⟩
              simp only [put, fit, if_true]
              obtain ⟨q1, q2⟩ := hzb j hj
              refine ⟨?_, ?_⟩ <;> split <;> first | exact told_lt' _ (fun r h => ob_lt h) | assumption
            | false =>
              go_wp2
              go_ret
              exact ⟨false, z.1, z.2, rfl, HR.out.ps, HR.out.bel, .inl ⟨stp_fail2 HZ.out HP.out ht hlt, rfl⟩⟩
    · have hke : k = n := by omega
      subst hke
      go_wp2
      go_ret
      exact ⟨true, z.1, z.2, rfl, hps, hB, .inr ⟨rfl, HZ.out, hzb⟩⟩
end Go.Proofs.Ytgcnkecfdmafdaa
