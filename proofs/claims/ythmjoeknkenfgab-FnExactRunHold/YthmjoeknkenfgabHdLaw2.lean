/- The law on HoldStep, walked. -/
import Derived.Test.YthmjoeknkenfgabHdStepA
namespace Go.Proofs.Ythmjoeknkenfgab
open Go.RowKit

set_option maxHeartbeats 1000000 in
theorem eqHold_any (h : Hd) (w : World) :
    Calls Try.prog 12 #[hv h, hv h] w fun e w' => e = .returned (.bool true) ∧ Below w.heap.size w w' := by
  go_enter Try.func12, Try.ntmps12
  go_wp2
  go_ret
  refine ⟨rfl, ?_⟩
  repeat' (first | exact Below.refl _ _ | refine below_dr ?_ _ | refine Below.alloc ?_ (by simp <;> omega) _ | refine Below.setCell ?_ (by simp <;> omega) _)

theorem keepLH {W w2 : World} {b0 b1 : Nat} {l : Lp} {h : Hd} (c0 : Bx W b0 (lvs l)) (c1 : Bx W b1 (hvs h)) (k : Below W.heap.size W w2) :
    w2.cell? ⟨b0, 0, none⟩ = some (.int .i64 l.P) ∧ w2.cell? ⟨b0, 1, none⟩ = some (.int .i64 l.I) ∧ w2.cell? ⟨b0, 2, none⟩ = some (.int .i64 l.D) ∧ w2.cell? ⟨b0, 3, none⟩ = some (.int .i64 l.S) ∧ w2.cell? ⟨b0, 4, none⟩ = some (.int .i64 l.M) ∧ w2.cell? ⟨b0, 5, none⟩ = some (.int .i64 l.W) ∧ w2.cell? ⟨b0, 6, none⟩ = some (.int .i64 l.L) ∧ w2.cell? ⟨b1, 0, none⟩ = some (.bool h.on) ∧ w2.cell? ⟨b1, 1, none⟩ = some (.int .i64 h.sum) ∧ w2.cell? ⟨b1, 2, none⟩ = some (.int .i64 h.last) ∧ w2.cell? ⟨b1, 3, none⟩ = some (.int .i64 h.out) := by
  obtain ⟨x0, x1, x2, x3, x4, x5, x6⟩ := loop_at (c0.on k)
  exact ⟨x0, x1, x2, x3, x4, x5, x6, hold_at (c1.on k)⟩

set_option maxHeartbeats 4000000 in
set_option maxRecDepth 20000 in
theorem stepLaw (l : Lp) (h : Hd) (want seen : Int) (w : World) :
    Calls Try.prog 3 #[lv l, hv h, .int .i64 want, .int .i64 seen] w fun e w' => e = .returned (.bool true) ∧ Below w.heap.size w w' := by
  have hI := fun w => implStep l h want seen w
  have hS := fun w => specStep l h want seen w
  generalize stepH l h want seen = R at hI hS
  generalize okS l h want seen = B at hI hS
  have hB0 := Below.refl w.heap.size w
  have z1 := bx_new (b := w.heap.size) (w := w) (lvs l) 23 (by first | rfl | simp only [size_al])
  have hx2 : Below w.heap.size w (w.alloc (.cells #[.int .i64 l.P, .int .i64 l.I, .int .i64 l.D, .int .i64 l.S, .int .i64 l.M, .int .i64 l.W, .int .i64 l.L] 23)) := (Below.refl _ _).alloc (Nat.le_refl _) _
  have hB3 := stepA hB0 hx2
  clear hB0 hx2
  have z4 := bx_new (b := w.heap.size + 1) (w := (w.alloc (.cells #[.int .i64 l.P, .int .i64 l.I, .int .i64 l.D, .int .i64 l.S, .int .i64 l.M, .int .i64 l.W, .int .i64 l.L] 23))) (hvs h) 25 (by first | rfl | simp only [size_al])
  have hx5 : Below (w.alloc (.cells #[.int .i64 l.P, .int .i64 l.I, .int .i64 l.D, .int .i64 l.S, .int .i64 l.M, .int .i64 l.W, .int .i64 l.L] 23)).heap.size (w.alloc (.cells #[.int .i64 l.P, .int .i64 l.I, .int .i64 l.D, .int .i64 l.S, .int .i64 l.M, .int .i64 l.W, .int .i64 l.L] 23)) ((w.alloc (.cells #[.int .i64 l.P, .int .i64 l.I, .int .i64 l.D, .int .i64 l.S, .int .i64 l.M, .int .i64 l.W, .int .i64 l.L] 23)).alloc (.cells #[.bool h.on, .int .i64 h.sum, .int .i64 h.last, .int .i64 h.out] 25)) := (Below.refl _ _).alloc (Nat.le_refl _) _
  have z6 := z1.on hx5
  clear z1
  have hB7 := stepA hB3 hx5
  clear hB3 hx5
  go_enter Try.func3, Try.ntmps3
  obtain ⟨x8, x9, x10, x11, x12, x13, x14⟩ := loop_at z6
  obtain ⟨x15, x16, x17, x18⟩ := hold_at z4
  go_upto_region 1 with fail
  generalize ((w.alloc (.cells #[.int .i64 l.P, .int .i64 l.I, .int .i64 l.D, .int .i64 l.S, .int .i64 l.M, .int .i64 l.W, .int .i64 l.L] 23)).alloc (.cells #[.bool h.on, .int .i64 h.sum, .int .i64 h.last, .int .i64 h.out] 25)) = W19 at z6 z4 hB7 x8 x9 x10 x11 x12 x13 x14 x15 x16 x17 x18 ⊢
  have hw20 := Below.refl W19.heap.size W19
  go_cut [9, 10] from 13 to 22 (fun s9 s10 wx => ∃ g, s9 = .pointer (some ⟨g, 0, none⟩) ∧ W19.heap.size ≤ g ∧ Bx wx g (hvs R) ∧ Below W19.heap.size W19 wx ∧ s10 = .bool B)
  case first =>
    go_region_held3 (fun w' => w'.cell? ⟨w.heap.size, 0, none⟩ = some (.int .i64 l.P) ∧ w'.cell? ⟨w.heap.size, 1, none⟩ = some (.int .i64 l.I) ∧ w'.cell? ⟨w.heap.size, 2, none⟩ = some (.int .i64 l.D) ∧ w'.cell? ⟨w.heap.size, 3, none⟩ = some (.int .i64 l.S) ∧ w'.cell? ⟨w.heap.size, 4, none⟩ = some (.int .i64 l.M) ∧ w'.cell? ⟨w.heap.size, 5, none⟩ = some (.int .i64 l.W) ∧ w'.cell? ⟨w.heap.size, 6, none⟩ = some (.int .i64 l.L) ∧ w'.cell? ⟨w.heap.size + 1, 0, none⟩ = some (.bool h.on) ∧ w'.cell? ⟨w.heap.size + 1, 1, none⟩ = some (.int .i64 h.sum) ∧ w'.cell? ⟨w.heap.size + 1, 2, none⟩ = some (.int .i64 h.last) ∧ w'.cell? ⟨w.heap.size + 1, 3, none⟩ = some (.int .i64 h.out))
      (first | (exact keepLH z6 z4 hw20.drew) | (exact keepLH z6 z4 hw24) | (exact keepLH z6 z4 hw25) | (exact keepLH z6 z4 hw26) | (exact keepLH z6 z4 ((hw20.alloc (Nat.le_refl _) _).drew)) | (exact keepLH z6 z4 (hw24.alloc hw24.size _)) | (exact keepLH z6 z4 (hw25.alloc hw25.size _)) | (exact keepLH z6 z4 (hw26.alloc hw26.size _)) | (exact keepLH z6 z4 (below_four hw26 hw20.size _ _ _ _)) | (exact keepLH z6 z4 (below_four hw26 hw24.size _ _ _ _)) | (exact keepLH z6 z4 (below_four hw26 hw25.size _ _ _ _)) | (fail))
      (first | (go_at_call 9; refine (toLoop_any l _).mono ?_; rintro e w21 ⟨rfl, hbn⟩; (first | (have hw24 := stepA hw20.drew hbn; have tk := hbn) | (have tk := below_al ((Below.refl _ _).drew.trans hbn); have hw24 := stepA hw20 tk; have nb := (bx_new (b := W19.heap.size) (w := W19) (hvs hd0) 26 rfl).on ((Below.refl _ _).drew.trans hbn))); (try (have nb := nb.on tk)); clear hbn) | (go_at_call 10; refine (toHold_any h _).mono ?_; rintro e w22 ⟨rfl, hbn⟩; (first | (have hw25 := stepA hw24 hbn; have tk := hbn) | (have tk := below_al hbn; have hw25 := stepA hw24 tk; have nb := (bx_new (b := w21.heap.size) (w := w21) (hvs hd0) 26 rfl).on hbn)); (try (have nb := nb.on tk)); clear hbn) | (go_at_call 8; refine (hS _).mono ?_; rintro e w23 ⟨rfl, hbn⟩; (first | (have hw26 := stepA hw25 hbn; have tk := hbn) | (have tk := below_al hbn; have hw26 := stepA hw25 tk; have nb := (bx_new (b := w22.heap.size) (w := w22) (hvs hd0) 26 rfl).on hbn)); (try (have nb := nb.on tk)); clear hbn; (try (obtain ⟨m0, m1, m2, m3⟩ := hold_at nb; have f0 := nb.fz 0; have f1 := nb.fz 1; have f2 := nb.fz 2; have f3 := nb.fz 3))) | (fail))
    all_goals
      go_wp2_with fail
      go_meet
      case rel =>
        first
        | exact ⟨_, rfl, hw26.size, bx_new _ _ rfl, hw26.alloc hw26.size _, rfl⟩
        | exact ⟨_, rfl, hw25.size, nb.set4 _, below_four hw26 hw25.size _ _ _ _, rfl⟩
        | exact ⟨_, rfl, hw24.size, nb.set4 _, below_four hw26 hw24.size _ _ _ _, rfl⟩
        | exact ⟨_, rfl, hw20.size, nb.set4 _, below_four hw26 hw20.size _ _ _ _, rfl⟩
  case rest =>
    clear x8 x9 x10 x11 x12 x13 x14 x15 x16 x17 x18
    obtain ⟨g27, rfl, hg30, z28, hb29, rfl⟩ := hcut
    generalize wc = w31 at *
    have hs32 := hb29.size
    try simp only [size_al] at hs32 hg30
    have z33 := z6.on hb29
    have z34 := z4.on hb29
    clear z6 z4
    have hB35 := stepA hB7 hb29
    clear hB7 hb29 hw20
    obtain ⟨x36, x37, x38, x39, x40, x41, x42⟩ := loop_at z33
    obtain ⟨x43, x44, x45, x46⟩ := hold_at z34
    obtain ⟨x47, x48, x49, x50⟩ := hold_at z28
    go_upto_region 2 with fail
    have hw51 := Below.refl w31.heap.size w31
    go_cut [11, 12] from 23 to 32 (fun s11 s12 wx => ∃ g, s11 = .pointer (some ⟨g, 0, none⟩) ∧ w31.heap.size ≤ g ∧ Bx wx g (hvs R) ∧ Below w31.heap.size w31 wx ∧ s12 = .bool B)
    case first =>
      go_region_held3 (fun w' => w'.cell? ⟨w.heap.size, 0, none⟩ = some (.int .i64 l.P) ∧ w'.cell? ⟨w.heap.size, 1, none⟩ = some (.int .i64 l.I) ∧ w'.cell? ⟨w.heap.size, 2, none⟩ = some (.int .i64 l.D) ∧ w'.cell? ⟨w.heap.size, 3, none⟩ = some (.int .i64 l.S) ∧ w'.cell? ⟨w.heap.size, 4, none⟩ = some (.int .i64 l.M) ∧ w'.cell? ⟨w.heap.size, 5, none⟩ = some (.int .i64 l.W) ∧ w'.cell? ⟨w.heap.size, 6, none⟩ = some (.int .i64 l.L) ∧ w'.cell? ⟨w.heap.size + 1, 0, none⟩ = some (.bool h.on) ∧ w'.cell? ⟨w.heap.size + 1, 1, none⟩ = some (.int .i64 h.sum) ∧ w'.cell? ⟨w.heap.size + 1, 2, none⟩ = some (.int .i64 h.last) ∧ w'.cell? ⟨w.heap.size + 1, 3, none⟩ = some (.int .i64 h.out))
        (first | (exact keepLH z33 z34 hw51.drew) | (exact keepLH z33 z34 hw55) | (exact keepLH z33 z34 hw56) | (exact keepLH z33 z34 hw57) | (exact keepLH z33 z34 ((hw51.alloc (Nat.le_refl _) _).drew)) | (exact keepLH z33 z34 (hw55.alloc hw55.size _)) | (exact keepLH z33 z34 (hw56.alloc hw56.size _)) | (exact keepLH z33 z34 (hw57.alloc hw57.size _)) | (exact keepLH z33 z34 (below_four hw57 hw51.size _ _ _ _)) | (exact keepLH z33 z34 (below_four hw57 hw55.size _ _ _ _)) | (exact keepLH z33 z34 (below_four hw57 hw56.size _ _ _ _)) | (fail))
        (first | (go_at_call 9; refine (toLoop_any l _).mono ?_; rintro e w52 ⟨rfl, hbn⟩; (first | (have hw55 := stepA hw51.drew hbn; have tk := hbn) | (have tk := below_al ((Below.refl _ _).drew.trans hbn); have hw55 := stepA hw51 tk; have nb := (bx_new (b := w31.heap.size) (w := w31) (hvs hd0) 26 rfl).on ((Below.refl _ _).drew.trans hbn))); (try (have nb := nb.on tk)); clear hbn) | (go_at_call 10; refine (toHold_any h _).mono ?_; rintro e w53 ⟨rfl, hbn⟩; (first | (have hw56 := stepA hw55 hbn; have tk := hbn) | (have tk := below_al hbn; have hw56 := stepA hw55 tk; have nb := (bx_new (b := w52.heap.size) (w := w52) (hvs hd0) 26 rfl).on hbn)); (try (have nb := nb.on tk)); clear hbn) | (go_at_call 11; refine (hI _).mono ?_; rintro e w54 ⟨rfl, hbn⟩; (first | (have hw57 := stepA hw56 hbn; have tk := hbn) | (have tk := below_al hbn; have hw57 := stepA hw56 tk; have nb := (bx_new (b := w53.heap.size) (w := w53) (hvs hd0) 26 rfl).on hbn)); (try (have nb := nb.on tk)); clear hbn; (try (obtain ⟨m0, m1, m2, m3⟩ := hold_at nb; have f0 := nb.fz 0; have f1 := nb.fz 1; have f2 := nb.fz 2; have f3 := nb.fz 3))) | (fail))
      all_goals
        go_wp2_with fail
        go_meet
        case rel =>
          first
          | exact ⟨_, rfl, hw57.size, bx_new _ _ rfl, hw57.alloc hw57.size _, rfl⟩
          | exact ⟨_, rfl, hw56.size, nb.set4 _, below_four hw57 hw56.size _ _ _ _, rfl⟩
          | exact ⟨_, rfl, hw55.size, nb.set4 _, below_four hw57 hw55.size _ _ _ _, rfl⟩
          | exact ⟨_, rfl, hw51.size, nb.set4 _, below_four hw57 hw51.size _ _ _ _, rfl⟩
    case rest =>
      clear x36 x37 x38 x39 x40 x41 x42 x43 x44 x45 x46 x47 x48 x49 x50
      obtain ⟨g58, rfl, hg61, z59, hb60, rfl⟩ := hcut
      generalize wc = w62 at *
      have hs63 := hb60.size
      try simp only [size_al] at hs63 hg61
      have z64 := z33.on hb60
      have z65 := z34.on hb60
      have z66 := z28.on hb60
      clear z33 z34 z28
      have hB67 := stepA hB35 hb60
      clear hB35 hb60 hw51
      clear z64
      clear z65
      obtain ⟨x68, x69, x70, x71⟩ := hold_at z66
      obtain ⟨x72, x73, x74, x75⟩ := hold_at z59
      go_wp2_with fail
      refine (eqHold_any R _).mono ?_
      rintro e w76 ⟨rfl, hb77⟩
      have hs78 := hb77.size
      have z79 := z66.on hb77
      have z80 := z59.on hb77
      clear z66 z59
      have hB81 := stepA hB67 hb77
      clear hB67 hb77
      try simp only [size_al] at hs78
      clear x68 x69 x70 x71 x72 x73 x74 x75
      clear z79
      clear z80
      go_wp2
      go_ret
      exact ⟨rfl, hB81⟩
end Go.Proofs.Ythmjoeknkenfgab
