/- The walk of FnWays, behind its draws. -/
import Derived.Test.YtfciecoigfnnhaaQWyFnN
import Derived.Test.YtfciecoigfnnhaaQWyShort
import Derived.Test.YtfciecoigfnnhaaQWyShortI
import Derived.Test.YtfciecoigfnnhaaQWyCostI
import Derived.Test.YtfciecoigfnnhaaQWyTchM
import Derived.Test.YtfciecoigfnnhaaQWyPullI
import Derived.Test.YtfciecoigfnnhaaQWyClrI
import Derived.Deep.RegionHeld
import Derived.Deep.CutRange
namespace Go.Proofs.Ytfciecoigfnnhaa
open Go.RowKit

theorem cst_le {s d a b : Int} (hs : 0 ≤ s ∧ 0 ≤ d ∧ s + d ≤ 255) (ha : 0 ≤ a ∧ a ≤ 256) (hb : 0 ≤ b ∧ b ≤ 256) (h : ky s d ≤ ky a b) : ¬ 0 < cstV s d a b := by
  have e : cstB s d a b = true := by simp [cstB, stB]; omega
  unfold cstV
  rw [if_pos e, cmp_key (by omega) (by omega)]
  unfold ky sgI at *
  repeat' split
  all_goals omega
theorem wayS_le (W : Int) (n : Nat) (f : Nat → Int) (m : Nat) (g : Nat → Int) (s : Int) : 0 ≤ wayS W n f m g s ∧ wayS W n f m g s ≤ 256 := by
  unfold wayS
  split
  · next h =>
    have := kindK_le W n f g s (m - 1)
    simp only [wayQ, Bool.and_eq_true, decide_eq_true_eq] at h
    omega
  · omega

set_option maxRecDepth 20000 in
set_option maxHeartbeats 16000000 in
theorem waysLaw (b1 b2 : Option Addr) (m1 d1 m2 d2 : Nat) (w : World) (h1 : m1 ≤ 1048576) (h2 : m2 ≤ 1048576)
    (hD : Calls Try.prog 9 #[.slice b1 m1 d1] w fun e w' => (∃ W q n c f x y, e = .returned (.tuple #[cel W q n c, .int .i64 x, .int .i64 y]) ∧ n ≤ 1048576 ∧ IL w' q n f) ∧ Below w.heap.size w w')
    (hS : ∀ W q n c f w', Below w.heap.size w w' → n ≤ 1048576 → IL w' q n f → Calls Try.prog 10 #[.slice b2 m2 d2, cel W q n c] w' fun e w'' => (∃ b m d g, e = .returned (.slice b m d) ∧ m ≤ 1048576 ∧ m ≤ d ∧ IL w'' b m g) ∧ Below w'.heap.size w' w'') :
    Calls Try.prog 3 #[.slice b1 m1 d1, .slice b2 m2 d2] w fun e w' => e = .returned (.bool true) ∧ Below w.heap.size w w' := by
  have l1 : ¬ (1048576 : Int) < (m1 : Int) := by omega
  have l2 : ¬ (1048576 : Int) < (m2 : Int) := by omega
  go_enter Try.func3, Try.ntmps3
  go_wp2_with fail
  refine hD.mono ?_
  rintro e w1 ⟨⟨W, q, n, c, f, xx, yy, rfl, hn, hf⟩, hb1⟩
  have hal : Below w1.heap.size w1 (w1.alloc (celO W q n c 25)) := (Below.refl _ _).alloc (Nat.le_refl _) _
  have bM := bx_new (w := w1) (celL W q n c) 25 rfl
  have hB1 := stepA hb1 hal
  have hf1 := hf.below hal
  have kS := hS W q n c f (w1.alloc (celO W q n c 25)) hB1 hn hf1
  have x0 := bM.c0
  have x1 := bM.c1
  clear hD hS hb1 hf hal
  go_wp2_with fail
  refine kS.mono ?_
  rintro e w2 ⟨⟨b, m, d, g, rfl, hm, hmd, hg⟩, hb2⟩
  have HMD : Hid (m ≤ d) := hmd
  clear hmd
  have bM2 := bM.on hb2
  have hB2 := stepA hB1 hb2
  have hf2 := hf1.below hb2
  clear kS x0 x1 bM hf1 hB1 hb2
  generalize w1.heap.size = M at bM2 ⊢
  cases m with
  | zero =>
    go_wp2
    go_ret
    exact ⟨rfl, hB2⟩
  | succ mm =>
    obtain ⟨bb, bo, rfl, hbb, hbc⟩ := hg (by omega)
    have y0 : w2.cell? ⟨bb, bo, none⟩ = some (.int .i64 (g 0)) := hbc 0 (by omega)
    have y1 := hbc mm (by omega)
    have x0 := bM2.c0
    have x1 := bM2.c1
    have j0 : (0 : Int) ≤ (mm : Int) := by omega
    have jz : (((mm + 1 : Nat) : Int) == 0) = false := by simp; omega
    have HG : Hid _ := hbc
    clear hbc
    go_wp2_with fail
    refine (implShortC W q n c f (g 0) (g mm) w2 hn hf2).mono ?_
    rintro e w3 ⟨⟨L, S, D, Q, hSh, la, lc, rfl, hLQ, hcap⟩, hb3⟩
    have HCAP : Hid (L.length ≤ lc) := hcap
    clear hcap
    have hal : Below w3.heap.size w3 (w3.alloc (.cells #[.slice la L.length lc, .int .i64 S, .int .i64 D] 30)) := (Below.refl _ _).alloc (Nat.le_refl _) _
    have bN := bx_new (w := w3) [.slice la L.length lc, .int .i64 S, .int .i64 D] 30 rfl
    have hb3' := stepA hb3 hal
    have bM3 := bM2.on hb3'
    have hB3 := stepA hB2 hb3'
    have hf3 := hf2.below hb3'
    have hg3 := hg.below hb3'
    have hL3 := hLQ.il.below hal
    have HSH : Hid (Shrt W n f (g 0) (g mm) L S D Q) := hSh
    clear hSh hLQ y0 y1 x0 x1 hal hb3 hb3' bM2 hf2 HG hg hbb hB2
    have x0 := bM3.c0
    have x1 := bM3.c1
    go_wp2_with fail
    refine (specShort W q n c f (g 0) (g mm) _ hn hf3).mono ?_
    rintro e w4 ⟨⟨L', S', D', Q', hSh', la', lc', rfl, _⟩, hb4⟩
    obtain ⟨rfl, rfl, rfl, rfl⟩ := Shrt.uniq HSH.out hSh'
    have hal : Below w4.heap.size w4 (w4.alloc (.cells #[.slice la' L.length lc', .int .i64 S, .int .i64 D] 30)) := (Below.refl _ _).alloc (Nat.le_refl _) _
    have hb4' := stepA hb4 hal
    have bM4 := bM3.on hb4'
    have bN4 := bN.on hb4'
    have hB4 := stepA hB3 hb4'
    have hf4 := hf3.below hb4'
    have hg4 := hg3.below hb4'
    have hL4 := hL3.below hb4'
    clear hSh' x0 x1 hal hb4 hb4' bM3 bN hf3 hg3 hL3 hB3
    have x0 := bM4.c0
    have x1 := bM4.c1
    go_wp2_with fail
    refine (implCost W q (some ⟨bb, bo, none⟩) n c (mm + 1) d f g _ hn hm HMD.out hf4 hg4).mono ?_
    rintro e w5 ⟨rfl, hb5⟩
    have bM5 := bM4.on hb5
    have bN5 := bN4.on hb5
    have hB5 := stepA hB4 hb5
    have hf5 := hf4.below hb5
    have hL5 := hL4.below hb5
    generalize w3.heap.size = N at bN4 bN5 ⊢
    clear x0 x1 bM4 bN4 hb5 hf4 hg4 hL4 hB4
    have HLE : Hid (wayQ W n f (mm + 1) g = true → Q = true ∧ ky S D ≤ ky (wayS W n f (mm + 1) g 1) (wayS W n f (mm + 1) g 2)) := fun h => shrt_least (m := mm + 1) HSH.out h
    have hw1 := wayS_le W n f (mm + 1) g 1
    have hw2 := wayS_le W n f (mm + 1) g 2
    generalize wayS W n f (mm + 1) g 1 = ca at *
    generalize wayS W n f (mm + 1) g 2 = cb at *
    generalize wayQ W n f (mm + 1) g = is at *
    cases Q with
    | false =>
      cases is with
      | true => exact absurd (HLE.out rfl).1 (by decide)
      | false =>
        clear HLE HSH
        go_wp2
        go_ret
        exact ⟨rfl, hB5⟩
    | true =>
      obtain ⟨s1, s2, s3, s4, s5, s6, s7, s8, s9, s10⟩ := shrt_way HSH.out
      obtain ⟨t1, t2, t3, t4, t5, t6⟩ := pull_way s1
      have HCL : Hid (∀ i, i + 1 < (pullL W n f L.length (gl L)).length → clrB W n f (gl (pullL W n f L.length (gl L)) i) (gl (pullL W n f L.length (gl L)) (i + 1)) = true) := t6
      have hcel : celB W n f = true := by
        simp only [wayQ, Bool.and_eq_true] at s1
        exact s1.1.1.1.1
      have HCEL : Hid (celB W n f = true) := hcel
      have kW := fun w h h' => implCost W q la n c L.length lc f (gl L) w hn (by omega) HCAP.out h h'
      rw [s1, s2, s3] at kW
      have kP := fun w h h' => implPull W q la n c L.length lc f (gl L) w hn (by omega) HCAP.out h h'
      rw [t1] at kP
      have HCST : Hid (is = true → ¬ 0 < cstV S D ca cb) := fun h => cst_le ⟨s8, s9, s10⟩ hw1 hw2 (HLE.out h).2
      clear s1 s2 s3 t1 t6 HLE hcel HSH HCAP HMD
      generalize hPP : pullL W n f L.length (gl L) = PP at *
      clear hPP
      generalize gl L = G at *
      generalize L.length = NL at *
      obtain ⟨nl, rfl⟩ : ∃ nl, NL = nl + 1 := ⟨NL - 1, by omega⟩
      have e9 : nl + 1 - 1 = nl := by omega
      rw [e9] at s7
      rw [e9] at t5
      clear e9
      obtain ⟨lb, lo, rfl, hlb, hlc⟩ := hL5 (by omega)
      have HLC : Hid _ := hlc
      go_upto_region 14 with fail
      go_cut [83] from 79 to 83 (fun s wx => s = .bool false ∧ wx = w5)
      case first =>
        cases is with
        | true =>
          go_wp2_with fail
          go_meet
          case rel => exact ⟨rfl, rfl⟩
        | false =>
          go_wp2_with fail
          go_meet
          case rel => exact ⟨rfl, rfl⟩
      case rest =>
      obtain ⟨rfl, hwc⟩ := hcut
      have hs9 := hwc.symm
      clear hwc
      subst hs9
      have x0 := bM5.c0
      have x1 := bM5.c1
      have n0 := bN5.c0
      go_wp2_with fail
      refine (kW _ hf5 hL5).mono ?_
      rintro e w6 ⟨rfl, hb6⟩
      have bM6 := bM5.on hb6
      have bN6 := bN5.on hb6
      have hB6 := stepA hB5 hb6
      have hf6 := hf5.below hb6
      have hL6 := hL5.below hb6
      have y0 : w6.cell? ⟨lb, lo, none⟩ = some (.int .i64 (G 0)) := (hb6.cell (p := ⟨lb, lo, none⟩) hlb).trans (hlc 0 (by omega))
      have y1 := (hb6.cell (p := ⟨lb, lo + nl, none⟩) hlb).trans (hlc nl (by omega))
      rw [s6] at y0
      rw [s7] at y1
      clear x0 x1 n0 bM5 bN5 hf5 hL5 hlc HLC hb6 hB5 hlb
      have n0 := bN6.c0
      have n1 := bN6.c1
      have n2 := bN6.c2
      have j0 : (0 : Int) ≤ (nl : Int) := by omega
      have kC := fun w => iCmpCost S D ca cb w
      generalize cstV S D ca cb = cv at kC HCST
      generalize cstB S D ca cb = cq at kC
      go_wp2_with fail
      refine (kC _).mono ?_
      rintro e w7 ⟨rfl, hb7⟩
      have bM7 := bM6.on hb7
      have bN7 := bN6.on hb7
      have hB7 := stepA hB6 hb7
      have hf7 := hf6.below hb7
      have hL7 := hL6.below hb7
      clear n0 n1 n2 y0 y1 bM6 bN6 hf6 hL6 hb7 hB6
      go_upto_region 22 with fail
      go_cut [140] from 136 to 140 (fun s wx => s = .bool false ∧ wx = w7)
      case first =>
        cases is with
        | true =>
          have hc0 := HCST.out rfl
          go_wp2_with fail
          go_meet
          case rel => exact ⟨congrArg Value.bool (decide_eq_false (by omega)), rfl⟩
        | false =>
          go_wp2_with fail
          go_meet
          case rel => exact ⟨rfl, rfl⟩
      case rest =>
      obtain ⟨rfl, hwc⟩ := hcut
      have hs9 := hwc.symm
      clear hwc
      subst hs9
      have x0 := bM7.c0
      have x1 := bM7.c1
      have n0 := bN7.c0
      clear HCST kC kW
      go_wp2_with fail
      refine (kP _ hf7 hL7).mono ?_
      rintro e w8 ⟨⟨pa, pc, rfl, hPQ⟩, hb8⟩
      have bM8 := bM7.on hb8
      have bN8 := bN7.on hb8
      have hB8 := stepA hB7 hb8
      have hf8 := hf7.below hb8
      have hP8 := hPQ.il
      clear kP x0 x1 n0 bM7 bN7 hf7 hL7 hb8 hB7 hPQ
      generalize gl PP = PG at *
      generalize PP.length = NP at *
      obtain ⟨np, rfl⟩ : ∃ np, NP = np + 1 := ⟨NP - 1, by omega⟩
      have e9 : np + 1 - 1 = np := by omega
      rw [e9] at t5
      clear e9
      obtain ⟨pb, po, rfl, hpb, hpc⟩ := hP8 (by omega)
      have y0 : w8.cell? ⟨pb, po, none⟩ = some (.int .i64 (PG 0)) := hpc 0 (by omega)
      have y1 := hpc np (by omega)
      rw [t4, s6] at y0
      rw [t5, s7] at y1
      have HPC : Hid _ := hpc
      have n0 := bN8.c0
      have k0 : (0 : Int) ≤ (np : Int) := by omega
      have k1 : ¬ (nl : Int) < (np : Int) := by omega
      have k2 : ¬ ((nl : Int) + 1) < ((np : Int) + 1) := by omega
      have kz : (((np : Int) + 1) == 0) = false := by simp; omega
      have k3 : ¬ nl < np := by omega
      clear hpc
      go_upto_region 27 with fail
      clear y0 y1 n0 bN8 kz
      go_wp2
      go_loopw [25] (fun i wr => ∃ k : Nat, k ≤ np ∧ i = .int .i64 ((k : Int) + 1) ∧ Below w8.heap.size w8 wr) (fun i _ => np + 2 - (intOf i).toNat)
      case atStart => exact ⟨0, by omega, rfl, Below.refl _ _⟩
      case round =>
        obtain ⟨k, hk, rfl, hbel⟩ := hrel
        by_cases hlt : k < np
        · have j1 : (k : Int) + 1 < (np : Int) + 1 := by omega
          have j0 : (0 : Int) ≤ (k : Int) := by omega
          have j3 : (0 : Int) ≤ (k : Int) + 1 := by omega
          have j4 : ((k : Int) + 1).toNat = k + 1 := by omega
          have j5 : IntKind.i64.wrap ((k : Int) + 1 - 1) = (k : Int) := by rw [IntWalk.i64_in _ ⟨by omega, by omega⟩]; omega
          have j6 : IntKind.i64.wrap (k : Int) = (k : Int) := IntWalk.i64_in _ ⟨by omega, by omega⟩
          have j7 : (k : Int) < (np : Int) + 1 := by omega
          have bM := bM8.on hbel
          have p0 := (hbel.cell (p := ⟨pb, po + k, none⟩) hpb).trans (HPC.out k (by omega))
          have p1 := (hbel.cell (p := ⟨pb, po + (k + 1), none⟩) hpb).trans (HPC.out (k + 1) (by omega))
          have hpb' : pb < wr.heap.size := Nat.lt_of_lt_of_le hpb hbel.size
          have hFr := hf8.below hbel
          have hcl := HCL.out k (by omega)
          have kc1 := fun w h => implClear W q n c f (PG k) (PG (k + 1)) w hn h
          have kc2 := fun w h => specClear W q n c f (PG (k + 1)) (PG k) w hn h
          have ec1 : clearB W n f (PG k) (PG (k + 1)) = true := by simp [clearB, HCEL.out, hcl]
          have ec2 : clearB W n f (PG (k + 1)) (PG k) = true := by simp [clearB, HCEL.out, clrB_swap, hcl]
          rw [ec1] at kc1
          rw [ec2] at kc2
          clear ec1 ec2 hcl HCL HCEL HPC
          generalize PG k = ga at p0 kc1 kc2
          generalize PG (k + 1) = gb at p1 kc1 kc2
          have hw0 := Below.refl wr.heap.size wr
          have hB9 := stepA hB8 hbel
          go_upto_region 30 with fail
          go_cut [211] from 186 to 211 (fun s wx => s = .bool false ∧ Below wr.heap.size wr wx)
          case first =>
            refine wp_region_held (S := fun w' => w'.cell? ⟨M, 0, none⟩ = some (.int .i64 W) ∧ w'.cell? ⟨M, 1, none⟩ = some (.slice q n c) ∧ w'.cell? ⟨pb, po + k, none⟩ = some (.int .i64 ga) ∧ w'.cell? ⟨pb, po + (k + 1), none⟩ = some (.int .i64 gb)) (by kernel_rfl) ?_
            change wpAnyH _ _ _ _ _ _ _ _ (World.drew _)
            have hSw := (⟨(bM.on hw0.drew).c0, (bM.on hw0.drew).c1, (hw0.drew.cell (p := ⟨pb, po + k, none⟩) hpb').trans p0, (hw0.drew.cell (p := ⟨pb, po + (k + 1), none⟩) hpb').trans p1⟩ : _ ∧ _ ∧ _ ∧ _)
            refine wpAnyH_take (i := 0) (v := cel W q n c) rfl (by kernel_rfl) (by kernel_rfl) (by kernel_rfl) (fun _ _ _ h => h) (Or.inl ⟨by rfl, ?_⟩) hSw ?_
            · intro wz hsz
              obtain ⟨z0, z1, z2, z3⟩ := hsz
              go_simp
            try simp [Act.put]
            refine wpAnyH_take (i := 1) (v := .slice (some ⟨pb, po, none⟩) (np + 1) pc) rfl (by kernel_rfl) (by kernel_rfl) (by kernel_rfl) (fun _ _ _ h => h) (Or.inl ⟨by rfl, ?_⟩) hSw ?_
            · intro wz hsz
              obtain ⟨z0, z1, z2, z3⟩ := hsz
              go_simp
            try simp [Act.put]
            refine wpAnyH_take (i := 2) (v := .int .i64 ((k : Int) + 1)) rfl (by kernel_rfl) (by kernel_rfl) (by kernel_rfl) (fun _ _ _ h => h) (Or.inl ⟨by rfl, ?_⟩) hSw ?_
            · intro wz hsz
              obtain ⟨z0, z1, z2, z3⟩ := hsz
              go_simp
            try simp [Act.put]
            refine wpAnyH_take (i := 3) (v := .int .i64 ((k : Int))) rfl (by kernel_rfl) (by kernel_rfl) (by kernel_rfl) (fun _ _ _ h => h) (Or.inl ⟨by rfl, ?_⟩) hSw ?_
            · intro wz hsz
              obtain ⟨z0, z1, z2, z3⟩ := hsz
              go_simp
              try exact j5
            try simp [Act.put]
            refine wpAnyH_take (i := 4) (v := .pointer (some ⟨pb, po + k, none⟩)) rfl (by kernel_rfl) (by kernel_rfl) (by kernel_rfl) (fun _ _ _ h => h) (Or.inl ⟨by rfl, ?_⟩) hSw ?_
            · intro wz hsz
              obtain ⟨z0, z1, z2, z3⟩ := hsz
              go_simp
            try simp [Act.put]
            refine wpAnyH_take (i := 5) (v := .int .i64 (ga)) rfl (by kernel_rfl) (by kernel_rfl) (by kernel_rfl) (fun _ _ _ h => h) (Or.inl ⟨by rfl, ?_⟩) hSw ?_
            · intro wz hsz
              obtain ⟨z0, z1, z2, z3⟩ := hsz
              go_simp
            try simp [Act.put]
            refine wpAnyH_take (i := 6) (v := .slice (some ⟨pb, po, none⟩) (np + 1) pc) rfl (by kernel_rfl) (by kernel_rfl) (by kernel_rfl) (fun _ _ _ h => h) (Or.inl ⟨by rfl, ?_⟩) hSw ?_
            · intro wz hsz
              obtain ⟨z0, z1, z2, z3⟩ := hsz
              go_simp
            try simp [Act.put]
            refine wpAnyH_take (i := 7) (v := .int .i64 ((k : Int) + 1)) rfl (by kernel_rfl) (by kernel_rfl) (by kernel_rfl) (fun _ _ _ h => h) (Or.inl ⟨by rfl, ?_⟩) hSw ?_
            · intro wz hsz
              obtain ⟨z0, z1, z2, z3⟩ := hsz
              go_simp
            try simp [Act.put]
            refine wpAnyH_take (i := 8) (v := .pointer (some ⟨pb, po + (k + 1), none⟩)) rfl (by kernel_rfl) (by kernel_rfl) (by kernel_rfl) (fun _ _ _ h => h) (Or.inl ⟨by rfl, ?_⟩) hSw ?_
            · intro wz hsz
              obtain ⟨z0, z1, z2, z3⟩ := hsz
              go_simp
            try simp [Act.put]
            refine wpAnyH_take (i := 9) (v := .int .i64 (gb)) rfl (by kernel_rfl) (by kernel_rfl) (by kernel_rfl) (fun _ _ _ h => h) (Or.inl ⟨by rfl, ?_⟩) hSw ?_
            · intro wz hsz
              obtain ⟨z0, z1, z2, z3⟩ := hsz
              go_simp
            try simp [Act.put]
            refine wpAnyH_ready (rs := [10]) (by kernel_rfl) (by simp) ?_
            refine AllReadyH.cons rfl (fun K hK => ?_) AllReadyH.nil
            go_simp
            go_wp2_with (first | (go_at_call 16; refine (kc1 _ (hFr.below hw0.drew)).mono ?_; rintro e w15 ⟨rfl, hb15⟩; have hw1 := stepA hw0.drew hb15; clear hb15) | (fail))
            refine hK.out _ _ (⟨(bM.on hw1).c0, (bM.on hw1).c1, (hw1.cell (p := ⟨pb, po + k, none⟩) hpb').trans p0, (hw1.cell (p := ⟨pb, po + (k + 1), none⟩) hpb').trans p1⟩) (fun hSn => ?_)
            clear hK K hSw
            have hSw := hSn
            clear hSn
            try simp [Act.put]
            refine wpAnyH_take (i := 11) (v := .bool false) rfl (by kernel_rfl) (by kernel_rfl) (by kernel_rfl) (fun _ _ _ h => h) (Or.inl ⟨by rfl, ?_⟩) hSw ?_
            · intro wz hsz
              obtain ⟨z0, z1, z2, z3⟩ := hsz
              go_simp
            try simp [Act.put]
            refine wpAnyH_take (i := 12) (v := .bool false) rfl (by kernel_rfl) (by kernel_rfl) (by kernel_rfl) (fun _ _ _ h => h) (Or.inl ⟨by rfl, ?_⟩) hSw ?_
            · intro wz hsz
              obtain ⟨z0, z1, z2, z3⟩ := hsz
              go_simp
            try simp [Act.put]
            refine wpAnyH_take (i := 13) (v := cel W q n c) rfl (by kernel_rfl) (by kernel_rfl) (by kernel_rfl) (fun _ _ _ h => h) (Or.inl ⟨by rfl, ?_⟩) hSw ?_
            · intro wz hsz
              obtain ⟨z0, z1, z2, z3⟩ := hsz
              go_simp
            try simp [Act.put]
            refine wpAnyH_take (i := 14) (v := .slice (some ⟨pb, po, none⟩) (np + 1) pc) rfl (by kernel_rfl) (by kernel_rfl) (by kernel_rfl) (fun _ _ _ h => h) (Or.inl ⟨by rfl, ?_⟩) hSw ?_
            · intro wz hsz
              obtain ⟨z0, z1, z2, z3⟩ := hsz
              go_simp
            try simp [Act.put]
            refine wpAnyH_take (i := 15) (v := .int .i64 ((k : Int) + 1)) rfl (by kernel_rfl) (by kernel_rfl) (by kernel_rfl) (fun _ _ _ h => h) (Or.inl ⟨by rfl, ?_⟩) hSw ?_
            · intro wz hsz
              obtain ⟨z0, z1, z2, z3⟩ := hsz
              go_simp
            try simp [Act.put]
            refine wpAnyH_take (i := 16) (v := .pointer (some ⟨pb, po + (k + 1), none⟩)) rfl (by kernel_rfl) (by kernel_rfl) (by kernel_rfl) (fun _ _ _ h => h) (Or.inl ⟨by rfl, ?_⟩) hSw ?_
            · intro wz hsz
              obtain ⟨z0, z1, z2, z3⟩ := hsz
              go_simp
            try simp [Act.put]
            refine wpAnyH_take (i := 17) (v := .int .i64 (gb)) rfl (by kernel_rfl) (by kernel_rfl) (by kernel_rfl) (fun _ _ _ h => h) (Or.inl ⟨by rfl, ?_⟩) hSw ?_
            · intro wz hsz
              obtain ⟨z0, z1, z2, z3⟩ := hsz
              go_simp
            try simp [Act.put]
            refine wpAnyH_take (i := 18) (v := .slice (some ⟨pb, po, none⟩) (np + 1) pc) rfl (by kernel_rfl) (by kernel_rfl) (by kernel_rfl) (fun _ _ _ h => h) (Or.inl ⟨by rfl, ?_⟩) hSw ?_
            · intro wz hsz
              obtain ⟨z0, z1, z2, z3⟩ := hsz
              go_simp
            try simp [Act.put]
            refine wpAnyH_take (i := 19) (v := .int .i64 ((k : Int) + 1)) rfl (by kernel_rfl) (by kernel_rfl) (by kernel_rfl) (fun _ _ _ h => h) (Or.inl ⟨by rfl, ?_⟩) hSw ?_
            · intro wz hsz
              obtain ⟨z0, z1, z2, z3⟩ := hsz
              go_simp
            try simp [Act.put]
            refine wpAnyH_take (i := 20) (v := .int .i64 ((k : Int))) rfl (by kernel_rfl) (by kernel_rfl) (by kernel_rfl) (fun _ _ _ h => h) (Or.inl ⟨by rfl, ?_⟩) hSw ?_
            · intro wz hsz
              obtain ⟨z0, z1, z2, z3⟩ := hsz
              go_simp
              try exact j5
            try simp [Act.put]
            refine wpAnyH_take (i := 21) (v := .pointer (some ⟨pb, po + k, none⟩)) rfl (by kernel_rfl) (by kernel_rfl) (by kernel_rfl) (fun _ _ _ h => h) (Or.inl ⟨by rfl, ?_⟩) hSw ?_
            · intro wz hsz
              obtain ⟨z0, z1, z2, z3⟩ := hsz
              go_simp
            try simp [Act.put]
            refine wpAnyH_take (i := 22) (v := .int .i64 (ga)) rfl (by kernel_rfl) (by kernel_rfl) (by kernel_rfl) (fun _ _ _ h => h) (Or.inl ⟨by rfl, ?_⟩) hSw ?_
            · intro wz hsz
              obtain ⟨z0, z1, z2, z3⟩ := hsz
              go_simp
            try simp [Act.put]
            refine wpAnyH_ready (rs := [23]) (by kernel_rfl) (by simp) ?_
            refine AllReadyH.cons rfl (fun K hK => ?_) AllReadyH.nil
            go_simp
            go_wp2_with (first | (go_at_call 17; refine (kc2 _ (hFr.below hw1)).mono ?_; rintro e w16 ⟨rfl, hb16⟩; have hw2 := stepA hw1 hb16; clear hb16) | (fail))
            refine hK.out _ _ (⟨(bM.on hw2).c0, (bM.on hw2).c1, (hw2.cell (p := ⟨pb, po + k, none⟩) hpb').trans p0, (hw2.cell (p := ⟨pb, po + (k + 1), none⟩) hpb').trans p1⟩) (fun hSn => ?_)
            clear hK K hSw
            have hSw := hSn
            clear hSn
            try simp [Act.put]
            refine wpAnyH_take (i := 24) (v := .bool false) rfl (by kernel_rfl) (by kernel_rfl) (by kernel_rfl) (fun _ _ _ h => h) (Or.inl ⟨by rfl, ?_⟩) hSw ?_
            · intro wz hsz
              obtain ⟨z0, z1, z2, z3⟩ := hsz
              go_simp
            try simp [Act.put]
            refine wpAnyH_take (i := 25) (v := .bool false) rfl (by kernel_rfl) (by kernel_rfl) (by kernel_rfl) (fun _ _ _ h => h) (Or.inl ⟨by rfl, ?_⟩) hSw ?_
            · intro wz hsz
              obtain ⟨z0, z1, z2, z3⟩ := hsz
              go_simp
            try simp [Act.put]
            refine wpAnyH_done (by kernel_rfl) ?_ _
            go_wp2_with fail
            go_meet
            case rel => exact ⟨rfl, hw2⟩
          case rest =>
            obtain ⟨rfl, hbs⟩ := hcut
            have hbel2 := stepA hbel hbs
            clear p0 p1 hw0 kc1 kc2 hFr
            go_wp2
            exact ⟨⟨k + 1, by omega, by go_num, hbel2⟩, by simp [intOf]; omega⟩
        · have hke : k = np := by omega
          subst hke
          have j1 : ¬ (k : Int) + 1 < (k : Int) + 1 := by omega
          have hB9 := stepA hB8 hbel
          clear HCL HCEL HPC
          go_wp2
          go_ret
          exact ⟨rfl, hB9⟩
end Go.Proofs.Ytfciecoigfnnhaa
