/- The law on RunHold, walked. -/
import Derived.Test.YthmjoeknkenfgabHdRunS
import Derived.Test.YthmjoeknkenfgabHdLaw2
import Derived.Test.YthmjoeknkenfgabLqMark
namespace Go.Proofs.Ythmjoeknkenfgab
open Go.RowKit

theorem runN_le (l : Lp) (h : Hd) (n m : Nat) (f g : Nat → Int) : runN l h n m f g ≤ 60 := by
  unfold runN
  by_cases e : runB l h n m f g = true
  · rw [if_pos e]
    unfold runB at e
    simp only [Bool.and_eq_true, decide_eq_true_eq] at e
    exact e.1.1.2
  · rw [if_neg e]; omega

set_option maxHeartbeats 8000000 in
set_option maxRecDepth 40000 in
theorem runLaw_in (l : Lp) (h : Hd) (a b : Option Addr) (n c m d : Nat) (f g : Nat → Int) (w : World) (hn : n ≤ 1048576) (hm : m ≤ 1048576) (hA : IL w a n f) (hC : IL w b m g) :
    Calls Try.prog 4 #[lv l, hv h, .slice a n c, .slice b m d] w fun e w' => e = .returned (.bool true) ∧ Below w.heap.size w w' := by
  have hI := fun x y c d w h1 h2 => implRun l h x y n c m d f g w h1 h2
  have hS := fun x y c d w h1 h2 => specRun l h x y n c m d f g w h1 h2
  have hN := runN_le l h n m f g
  generalize runN l h n m f g = N at hI hS hN
  generalize runH l h n m f g = H at hI hS
  generalize runB l h n m f g = B at hI hS
  generalize outF l h f g = F at hI hS
  have j1 : (n : Int) ≤ 1048576 := by omega
  have j2 : (m : Int) ≤ 1048576 := by omega
  have hB0 := Below.refl w.heap.size w
  have z1 := bx_new (b := w.heap.size) (w := w) (lvs l) 23 (by first | rfl | simp only [size_al])
  have hx2 : Below w.heap.size w (w.alloc (.cells #[.int .i64 l.P, .int .i64 l.I, .int .i64 l.D, .int .i64 l.S, .int .i64 l.M, .int .i64 l.W, .int .i64 l.L] 23)) := (Below.refl _ _).alloc (Nat.le_refl _) _
  have hB3 := stepA hB0 hx2
  clear hB0 hx2
  have z4 := bx_new (b := w.heap.size + 1) (w := (w.alloc (.cells #[.int .i64 l.P, .int .i64 l.I, .int .i64 l.D, .int .i64 l.S, .int .i64 l.M, .int .i64 l.W, .int .i64 l.L] 23))) (hvs h) 25 (by first | rfl | simp only [size_al])
  have hx5 : Below (w.alloc (.cells #[.int .i64 l.P, .int .i64 l.I, .int .i64 l.D, .int .i64 l.S, .int .i64 l.M, .int .i64 l.W, .int .i64 l.L] 23)).heap.size (w.alloc (.cells #[.int .i64 l.P, .int .i64 l.I, .int .i64 l.D, .int .i64 l.S, .int .i64 l.M, .int .i64 l.W, .int .i64 l.L] 23)) ((w.alloc (.cells #[.int .i64 l.P, .int .i64 l.I, .int .i64 l.D, .int .i64 l.S, .int .i64 l.M, .int .i64 l.W, .int .i64 l.L] 23)).alloc (.cells #[.bool h.on, .int .i64 h.sum, .int .i64 h.last, .int .i64 h.out] 25)) := (Below.refl _ _).alloc (Nat.le_refl _) _
  have z6 := z1.on hx5
  clear z1
  have hB7 := stepA hB3 hx5
  clear hB3 hx5
  go_enter Try.func4, Try.ntmps4
  obtain ⟨x8, x9, x10, x11, x12, x13, x14⟩ := loop_at z6
  obtain ⟨x15, x16, x17, x18⟩ := hold_at z4
  go_upto_region 5 with fail
  generalize hW : ((w.alloc (.cells #[.int .i64 l.P, .int .i64 l.I, .int .i64 l.D, .int .i64 l.S, .int .i64 l.M, .int .i64 l.W, .int .i64 l.L] 23)).alloc (.cells #[.bool h.on, .int .i64 h.sum, .int .i64 h.last, .int .i64 h.out] 25)) = W19 at z6 z4 hB7 x8 x9 x10 x11 x12 x13 x14 x15 x16 x17 x18 ⊢
  have hWs : w.heap.size + 1 + 1 ≤ W19.heap.size := by rw [← hW]; simp only [size_al]; omega
  clear hW
  have hw20 := Below.refl W19.heap.size W19
  go_cut [10, 9, 11] from 29 to 41 (fun sb sl sk wx => ∃ g, sb = .pointer (some ⟨g, 0, none⟩) ∧ W19.heap.size ≤ g ∧ Bx wx g (hvs H) ∧ Below W19.heap.size W19 wx ∧ sk = .bool B ∧ ∃ x cx lo hi, sl = .slice x N cx ∧ LQ wx lo hi x N F ∧ W19.heap.size ≤ lo ∧ hi ≤ wx.heap.size ∧ (g < lo ∨ hi ≤ g))
  case first =>
    go_region_held3 (fun w' => w'.cell? ⟨w.heap.size, 0, none⟩ = some (.int .i64 l.P) ∧ w'.cell? ⟨w.heap.size, 1, none⟩ = some (.int .i64 l.I) ∧ w'.cell? ⟨w.heap.size, 2, none⟩ = some (.int .i64 l.D) ∧ w'.cell? ⟨w.heap.size, 3, none⟩ = some (.int .i64 l.S) ∧ w'.cell? ⟨w.heap.size, 4, none⟩ = some (.int .i64 l.M) ∧ w'.cell? ⟨w.heap.size, 5, none⟩ = some (.int .i64 l.W) ∧ w'.cell? ⟨w.heap.size, 6, none⟩ = some (.int .i64 l.L) ∧ w'.cell? ⟨w.heap.size + 1, 0, none⟩ = some (.bool h.on) ∧ w'.cell? ⟨w.heap.size + 1, 1, none⟩ = some (.int .i64 h.sum) ∧ w'.cell? ⟨w.heap.size + 1, 2, none⟩ = some (.int .i64 h.last) ∧ w'.cell? ⟨w.heap.size + 1, 3, none⟩ = some (.int .i64 h.out))
      (first | (exact keepLH z6 z4 hw20.drew) | (exact keepLH z6 z4 hw26) | (exact keepLH z6 z4 hw27) | (exact keepLH z6 z4 hw28) | (exact keepLH z6 z4 hw29) | (exact keepLH z6 z4 hw30) | (exact keepLH z6 z4 ((hw20.alloc (Nat.le_refl _) _).drew)) | (exact keepLH z6 z4 (hw26.alloc hw26.size _)) | (exact keepLH z6 z4 (hw27.alloc hw27.size _)) | (exact keepLH z6 z4 (hw28.alloc hw28.size _)) | (exact keepLH z6 z4 (hw29.alloc hw29.size _)) | (exact keepLH z6 z4 (hw30.alloc hw30.size _)) | (exact keepLH z6 z4 (below_four hw30 hw20.size _ _ _ _)) | (exact keepLH z6 z4 (below_four hw30 hw26.size _ _ _ _)) | (exact keepLH z6 z4 (below_four hw30 hw27.size _ _ _ _)) | (exact keepLH z6 z4 (below_four hw30 hw28.size _ _ _ _)) | (exact keepLH z6 z4 (below_four hw30 hw29.size _ _ _ _)) | (fail))
      (first | (go_at_call 9; refine (toLoop_any l _).mono ?_; rintro e w21 ⟨rfl, hbn⟩; (first | (have hw26 := stepA hw20.drew hbn; have tk := hbn) | (have tk := below_al ((Below.refl _ _).drew.trans hbn); have hw26 := stepA hw20 tk; have nb := (bx_new (b := W19.heap.size) (w := W19) (hvs hd0) 26 rfl).on ((Below.refl _ _).drew.trans hbn))); (try (have nb := nb.on tk)); clear hbn) | (go_at_call 10; refine (toHold_any h _).mono ?_; rintro e w22 ⟨rfl, hbn⟩; (first | (have hw27 := stepA hw26 hbn; have tk := hbn) | (have tk := below_al hbn; have hw27 := stepA hw26 tk; have nb := (bx_new (b := w21.heap.size) (w := w21) (hvs hd0) 26 rfl).on hbn)); (try (have nb := nb.on tk)); clear hbn) | (go_at_call_of 14 a; refine (copyQ a n c f _ hn ?_).mono ?_; (first | exact hA.below (stepA hB7 hw27) | exact hA.below (stepA hB7 (hw27.alloc hw27.size _))); rintro e w23 ⟨rfl, q1, -, hbn⟩; (try simp only [size_al] at q1); (first | (have hw28 := stepA hw27 hbn; have tk := hbn) | (have tk := below_al hbn; have hw28 := stepA hw27 tk; have nb := (bx_new (b := w22.heap.size) (w := w22) (hvs hd0) 26 rfl).on hbn)); (try (have nb := nb.on tk)); clear hbn) | (go_at_call 14; refine (copyQ b m d g _ hm ?_).mono ?_; (first | exact hC.below (stepA hB7 hw28) | exact hC.below (stepA hB7 (hw28.alloc hw28.size _))); rintro e w24 ⟨rfl, q2, -, hbn⟩; (try simp only [size_al] at q2); (first | (have hw29 := stepA hw28 hbn; have tk := hbn) | (have tk := below_al hbn; have hw29 := stepA hw28 tk; have nb := (bx_new (b := w23.heap.size) (w := w23) (hvs hd0) 26 rfl).on hbn)); (try (have nb := nb.on tk)); (have q1 := q1.on tk); clear hbn) | (go_at_call 13; refine (hS _ _ _ _ _ ?_ ?_).mono ?_; (first | exact q1.il | exact (q1.on (below_al (Below.refl _ _))).il); (first | exact q2.il | exact (q2.on (below_al (Below.refl _ _))).il); rintro e w25 ⟨x, cx, rfl, qr, hbn⟩; (try (have ng := nb.lt)); (first | (have hw30 := stepA hw29 hbn; have tk := hbn) | (have tk := below_al hbn; have hw30 := stepA hw29 tk; have nb := (bx_new (b := w24.heap.size) (w := w24) (hvs hd0) 26 rfl).on hbn)); (try (have nb := nb.on tk)); (have q1 := q1.on tk); (have q2 := q2.on tk); clear hbn; (try (obtain ⟨m0, m1, m2, m3⟩ := hold_at nb; have f0 := nb.fz 0; have f1 := nb.fz 1; have f2 := nb.fz 2; have f3 := nb.fz 3))) | (fail))
    all_goals
      have hz1 := hw29.size
      have hz2 := hw30.size
      go_wp2_with fail
      go_meet
      case rel =>
        first
        | exact ⟨_, rfl, hz2, bx_new _ _ rfl, hw30.alloc hz2 _, rfl, _, _, _, _, rfl, qr.on ((Below.refl _ _).alloc (Nat.le_refl _) _), hz1, by simp, .inr (Nat.le_refl _)⟩
        | exact ⟨_, rfl, hw29.size, nb.set4 _, below_four hw30 hw29.size _ _ _ _, rfl, _, _, _, _, rfl, lq_four qr (.inl (by simp)) _ _ _ _, (by simp; omega), by simp, .inl (by simp)⟩
        | exact ⟨_, rfl, hw28.size, nb.set4 _, below_four hw30 hw28.size _ _ _ _, rfl, _, _, _, _, rfl, lq_four qr (.inl ng) _ _ _ _, hz1, by simp, .inl ng⟩
        | exact ⟨_, rfl, hw27.size, nb.set4 _, below_four hw30 hw27.size _ _ _ _, rfl, _, _, _, _, rfl, lq_four qr (.inl ng) _ _ _ _, hz1, by simp, .inl ng⟩
        | exact ⟨_, rfl, hw26.size, nb.set4 _, below_four hw30 hw26.size _ _ _ _, rfl, _, _, _, _, rfl, lq_four qr (.inl ng) _ _ _ _, hz1, by simp, .inl ng⟩
        | exact ⟨_, rfl, hw20.size, nb.set4 _, below_four hw30 hw20.size _ _ _ _, rfl, _, _, _, _, rfl, lq_four qr (.inl ng) _ _ _ _, hz1, by simp, .inl ng⟩
  case rest =>
    clear x8 x9 x10 x11 x12 x13 x14 x15 x16 x17 x18
    obtain ⟨g31, rfl, hg34, z32, hb33, rfl, x36, cx37, lo38, hi39, rfl, z40, hr41, hr42, hr43⟩ := hcut
    generalize wc = w35 at *
    have hs44 := hb33.size
    have z45 := z6.on hb33
    have z46 := z4.on hb33
    clear z6 z4
    have hB47 := stepA hB7 hb33
    have hl48 := z32.lt
    clear hB7 hb33 hw20
    obtain ⟨x51, x52, x53, x54, x55, x56, x57⟩ := loop_at z45
    obtain ⟨x58, x59, x60, x61⟩ := hold_at z46
    obtain ⟨x62, x63, x64, x65⟩ := hold_at z32
    go_wp2_with fail
    refine (copyQ a n c f _ hn (hA.below hB47)).mono ?_
    rintro e w66 ⟨rfl, z49, hs50, hb67⟩
    have hs68 := hb67.size
    have z69 := z45.on hb67
    have z70 := z46.on hb67
    have z71 := z32.on hb67
    have z72 := z40.on hb67
    clear z45 z46 z32 z40
    have hB73 := stepA hB47 hb67
    clear hB47 hb67
    try simp only [size_al] at hs68
    try simp only [size_al] at z49
    clear x51 x52 x53 x54 x55 x56 x57 x58 x59 x60 x61 x62 x63 x64 x65
    obtain ⟨x76, x77, x78, x79, x80, x81, x82⟩ := loop_at z69
    obtain ⟨x83, x84, x85, x86⟩ := hold_at z70
    obtain ⟨x87, x88, x89, x90⟩ := hold_at z71
    go_wp2_with fail
    refine (copyQ b m d g _ hm (hC.below hB73)).mono ?_
    rintro e w91 ⟨rfl, z74, hs75, hb92⟩
    have hs93 := hb92.size
    have z94 := z69.on hb92
    have z95 := z70.on hb92
    have z96 := z71.on hb92
    have z97 := z72.on hb92
    have z98 := z49.on hb92
    clear z69 z70 z71 z72 z49
    have hB99 := stepA hB73 hb92
    clear hB73 hb92
    try simp only [size_al] at hs93
    try simp only [size_al] at z74
    clear x76 x77 x78 x79 x80 x81 x82 x83 x84 x85 x86 x87 x88 x89 x90
    obtain ⟨x100, x101, x102, x103, x104, x105, x106⟩ := loop_at z94
    obtain ⟨x107, x108, x109, x110⟩ := hold_at z95
    obtain ⟨x111, x112, x113, x114⟩ := hold_at z96
    go_upto_region 8 with fail
    have hw115 := Below.refl w91.heap.size w91
    go_cut [15, 14, 16] from 46 to 56 (fun sb sl sk wx => ∃ g, sb = .pointer (some ⟨g, 0, none⟩) ∧ w91.heap.size ≤ g ∧ Bx wx g (hvs H) ∧ Below w91.heap.size w91 wx ∧ sk = .bool B ∧ ∃ x cx lo hi, sl = .slice x N cx ∧ LQ wx lo hi x N F ∧ w91.heap.size ≤ lo ∧ hi ≤ wx.heap.size ∧ (g < lo ∨ hi ≤ g))
    case first =>
      go_region_held3 (fun w' => w'.cell? ⟨w.heap.size, 0, none⟩ = some (.int .i64 l.P) ∧ w'.cell? ⟨w.heap.size, 1, none⟩ = some (.int .i64 l.I) ∧ w'.cell? ⟨w.heap.size, 2, none⟩ = some (.int .i64 l.D) ∧ w'.cell? ⟨w.heap.size, 3, none⟩ = some (.int .i64 l.S) ∧ w'.cell? ⟨w.heap.size, 4, none⟩ = some (.int .i64 l.M) ∧ w'.cell? ⟨w.heap.size, 5, none⟩ = some (.int .i64 l.W) ∧ w'.cell? ⟨w.heap.size, 6, none⟩ = some (.int .i64 l.L) ∧ w'.cell? ⟨w.heap.size + 1, 0, none⟩ = some (.bool h.on) ∧ w'.cell? ⟨w.heap.size + 1, 1, none⟩ = some (.int .i64 h.sum) ∧ w'.cell? ⟨w.heap.size + 1, 2, none⟩ = some (.int .i64 h.last) ∧ w'.cell? ⟨w.heap.size + 1, 3, none⟩ = some (.int .i64 h.out))
        (first | (exact keepLH z94 z95 hw115.drew) | (exact keepLH z94 z95 hw119) | (exact keepLH z94 z95 hw120) | (exact keepLH z94 z95 hw121) | (exact keepLH z94 z95 ((hw115.alloc (Nat.le_refl _) _).drew)) | (exact keepLH z94 z95 (hw119.alloc hw119.size _)) | (exact keepLH z94 z95 (hw120.alloc hw120.size _)) | (exact keepLH z94 z95 (hw121.alloc hw121.size _)) | (exact keepLH z94 z95 (below_four hw121 hw115.size _ _ _ _)) | (exact keepLH z94 z95 (below_four hw121 hw119.size _ _ _ _)) | (exact keepLH z94 z95 (below_four hw121 hw120.size _ _ _ _)) | (fail))
        (first | (go_at_call 9; refine (toLoop_any l _).mono ?_; rintro e w116 ⟨rfl, hbn⟩; (first | (have hw119 := stepA hw115.drew hbn; have tk := hbn) | (have tk := below_al ((Below.refl _ _).drew.trans hbn); have hw119 := stepA hw115 tk; have nb := (bx_new (b := w91.heap.size) (w := w91) (hvs hd0) 26 rfl).on ((Below.refl _ _).drew.trans hbn))); (try (have nb := nb.on tk)); clear hbn) | (go_at_call 10; refine (toHold_any h _).mono ?_; rintro e w117 ⟨rfl, hbn⟩; (first | (have hw120 := stepA hw119 hbn; have tk := hbn) | (have tk := below_al hbn; have hw120 := stepA hw119 tk; have nb := (bx_new (b := w116.heap.size) (w := w116) (hvs hd0) 26 rfl).on hbn)); (try (have nb := nb.on tk)); clear hbn) | (go_at_call 15; refine (hI _ _ _ _ _ ?_ ?_).mono ?_; (first | exact (z98.on hw120).il | exact (z98.on (hw120.alloc hw120.size _)).il); (first | exact (z74.on hw120).il | exact (z74.on (hw120.alloc hw120.size _)).il); rintro e w118 ⟨x, cx, rfl, qr, hbn⟩; (try (have ng := nb.lt)); (first | (have hw121 := stepA hw120 hbn; have tk := hbn) | (have tk := below_al hbn; have hw121 := stepA hw120 tk; have nb := (bx_new (b := w117.heap.size) (w := w117) (hvs hd0) 26 rfl).on hbn)); (try (have nb := nb.on tk)); clear hbn; (try (obtain ⟨m0, m1, m2, m3⟩ := hold_at nb; have f0 := nb.fz 0; have f1 := nb.fz 1; have f2 := nb.fz 2; have f3 := nb.fz 3))) | (fail))
      all_goals
        have hz1 := hw120.size
        have hz2 := hw121.size
        go_wp2_with fail
        go_meet
        case rel =>
          first
          | exact ⟨_, rfl, hz2, bx_new _ _ rfl, hw121.alloc hz2 _, rfl, _, _, _, _, rfl, qr.on ((Below.refl _ _).alloc (Nat.le_refl _) _), hz1, by simp, .inr (Nat.le_refl _)⟩
          | exact ⟨_, rfl, hw120.size, nb.set4 _, below_four hw121 hw120.size _ _ _ _, rfl, _, _, _, _, rfl, lq_four qr (.inl (by simp)) _ _ _ _, (by simp; omega), by simp, .inl (by simp)⟩
          | exact ⟨_, rfl, hw119.size, nb.set4 _, below_four hw121 hw119.size _ _ _ _, rfl, _, _, _, _, rfl, lq_four qr (.inl ng) _ _ _ _, hz1, by simp, .inl ng⟩
          | exact ⟨_, rfl, hw115.size, nb.set4 _, below_four hw121 hw115.size _ _ _ _, rfl, _, _, _, _, rfl, lq_four qr (.inl ng) _ _ _ _, hz1, by simp, .inl ng⟩
    case rest =>
      clear x100 x101 x102 x103 x104 x105 x106 x107 x108 x109 x110 x111 x112 x113 x114
      obtain ⟨g122, rfl, hg125, z123, hb124, rfl, x127, cx128, lo129, hi130, rfl, z131, hr132, hr133, hr134⟩ := hcut
      generalize wc = w126 at *
      have hs135 := hb124.size
      have z136 := z94.on hb124
      have z137 := z95.on hb124
      have z138 := z96.on hb124
      have z139 := z97.on hb124
      have z140 := z98.on hb124
      have z141 := z74.on hb124
      clear z94 z95 z96 z97 z98 z74
      have hB142 := stepA hB99 hb124
      have hl143 := z123.lt
      clear hB99 hb124 hw115
      obtain ⟨x144, x145, x146, x147, x148, x149, x150⟩ := loop_at z136
      obtain ⟨x151, x152, x153, x154⟩ := hold_at z137
      obtain ⟨x155, x156, x157, x158⟩ := hold_at z138
      obtain ⟨x159, x160, x161, x162⟩ := hold_at z123
      go_wp2_with fail
      refine (eqI_any x127 x36 N cx128 cx37 F _ (by omega) z131.il z139.il).mono ?_
      rintro e w163 ⟨rfl, hb164⟩
      have hs165 := hb164.size
      have z166 := z136.on hb164
      have z167 := z137.on hb164
      have z168 := z138.on hb164
      have z169 := z139.on hb164
      have z170 := z140.on hb164
      have z171 := z141.on hb164
      have z172 := z123.on hb164
      have z173 := z131.on hb164
      clear z136 z137 z138 z139 z140 z141 z123 z131
      have hB174 := stepA hB142 hb164
      clear hB142 hb164
      try simp only [size_al] at hs165
      clear x144 x145 x146 x147 x148 x149 x150 x151 x152 x153 x154 x155 x156 x157 x158 x159 x160 x161 x162
      obtain ⟨x175, x176, x177, x178, x179, x180, x181⟩ := loop_at z166
      obtain ⟨x182, x183, x184, x185⟩ := hold_at z167
      obtain ⟨x186, x187, x188, x189⟩ := hold_at z168
      obtain ⟨x190, x191, x192, x193⟩ := hold_at z172
      go_wp2_with fail
      refine (eqHold_any H _).mono ?_
      rintro e w194 ⟨rfl, hb195⟩
      have hs196 := hb195.size
      have z197 := z166.on hb195
      have z198 := z167.on hb195
      have z199 := z168.on hb195
      have z200 := z169.on hb195
      have z201 := z170.on hb195
      have z202 := z171.on hb195
      have z203 := z172.on hb195
      have z204 := z173.on hb195
      clear z166 z167 z168 z169 z170 z171 z172 z173
      have hB205 := stepA hB174 hb195
      clear hB174 hb195
      try simp only [size_al] at hs196
      clear x175 x176 x177 x178 x179 x180 x181 x182 x183 x184 x185 x186 x187 x188 x189 x190 x191 x192 x193
      obtain ⟨x208, x209, x210, x211, x212, x213, x214⟩ := loop_at z197
      obtain ⟨x215, x216, x217, x218⟩ := hold_at z198
      obtain ⟨x219, x220, x221, x222⟩ := hold_at z199
      obtain ⟨x223, x224, x225, x226⟩ := hold_at z203
      go_wp2_with fail
      refine (copyQ a n c f _ hn (hA.below hB205)).mono ?_
      rintro e w227 ⟨rfl, z206, hs207, hb228⟩
      have hs229 := hb228.size
      have z230 := z197.on hb228
      have z231 := z198.on hb228
      have z232 := z199.on hb228
      have z233 := z200.on hb228
      have z234 := z201.on hb228
      have z235 := z202.on hb228
      have z236 := z203.on hb228
      have z237 := z204.on hb228
      clear z197 z198 z199 z200 z201 z202 z203 z204
      have hB238 := stepA hB205 hb228
      clear hB205 hb228
      try simp only [size_al] at hs229
      try simp only [size_al] at z206
      clear x208 x209 x210 x211 x212 x213 x214 x215 x216 x217 x218 x219 x220 x221 x222 x223 x224 x225 x226
      obtain ⟨x239, x240, x241, x242, x243, x244, x245⟩ := loop_at z230
      obtain ⟨x246, x247, x248, x249⟩ := hold_at z231
      obtain ⟨x250, x251, x252, x253⟩ := hold_at z232
      obtain ⟨x254, x255, x256, x257⟩ := hold_at z236
      go_wp2_with fail
      refine (eqI_any (some ⟨w35.heap.size, 0, none⟩) (some ⟨w194.heap.size, 0, none⟩) n n n f _ hn z234.il z206.il).mono ?_
      rintro e w258 ⟨rfl, hb259⟩
      have hs260 := hb259.size
      have z261 := z230.on hb259
      have z262 := z231.on hb259
      have z263 := z232.on hb259
      have z264 := z233.on hb259
      have z265 := z234.on hb259
      have z266 := z235.on hb259
      have z267 := z236.on hb259
      have z268 := z237.on hb259
      have z269 := z206.on hb259
      clear z230 z231 z232 z233 z234 z235 z236 z237 z206
      have hB270 := stepA hB238 hb259
      clear hB238 hb259
      try simp only [size_al] at hs260
      clear z269
      clear x239 x240 x241 x242 x243 x244 x245 x246 x247 x248 x249 x250 x251 x252 x253 x254 x255 x256 x257
      obtain ⟨x273, x274, x275, x276, x277, x278, x279⟩ := loop_at z261
      obtain ⟨x280, x281, x282, x283⟩ := hold_at z262
      obtain ⟨x284, x285, x286, x287⟩ := hold_at z263
      obtain ⟨x288, x289, x290, x291⟩ := hold_at z267
      go_wp2_with fail
      refine (copyQ b m d g _ hm (hC.below hB270)).mono ?_
      rintro e w292 ⟨rfl, z271, hs272, hb293⟩
      have hs294 := hb293.size
      have z295 := z261.on hb293
      have z296 := z262.on hb293
      have z297 := z263.on hb293
      have z298 := z264.on hb293
      have z299 := z265.on hb293
      have z300 := z266.on hb293
      have z301 := z267.on hb293
      have z302 := z268.on hb293
      clear z261 z262 z263 z264 z265 z266 z267 z268
      have hB303 := stepA hB270 hb293
      clear hB270 hb293
      try simp only [size_al] at hs294
      try simp only [size_al] at z271
      clear x273 x274 x275 x276 x277 x278 x279 x280 x281 x282 x283 x284 x285 x286 x287 x288 x289 x290 x291
      obtain ⟨x304, x305, x306, x307, x308, x309, x310⟩ := loop_at z295
      obtain ⟨x311, x312, x313, x314⟩ := hold_at z296
      obtain ⟨x315, x316, x317, x318⟩ := hold_at z297
      obtain ⟨x319, x320, x321, x322⟩ := hold_at z301
      go_wp2_with fail
      refine (eqI_any (some ⟨w66.heap.size, 0, none⟩) (some ⟨w258.heap.size, 0, none⟩) m m m g _ hm z300.il z271.il).mono ?_
      rintro e w323 ⟨rfl, hb324⟩
      have hs325 := hb324.size
      have z326 := z295.on hb324
      have z327 := z296.on hb324
      have z328 := z297.on hb324
      have z329 := z298.on hb324
      have z330 := z299.on hb324
      have z331 := z300.on hb324
      have z332 := z301.on hb324
      have z333 := z302.on hb324
      have z334 := z271.on hb324
      clear z295 z296 z297 z298 z299 z300 z301 z302 z271
      have hB335 := stepA hB303 hb324
      clear hB303 hb324
      try simp only [size_al] at hs325
      clear z334
      clear x304 x305 x306 x307 x308 x309 x310 x311 x312 x313 x314 x315 x316 x317 x318 x319 x320 x321 x322
      obtain ⟨x336, x337, x338, x339, x340, x341, x342⟩ := loop_at z326
      obtain ⟨x343, x344, x345, x346⟩ := hold_at z327
      obtain ⟨x347, x348, x349, x350⟩ := hold_at z328
      obtain ⟨x351, x352, x353, x354⟩ := hold_at z332
      go_wp2_with fail
      refine (markZ (some ⟨w35.heap.size, 0, none⟩) n n (1) (w35.heap.size) (w35.heap.size + 1) f _ hn (by omega) (by omega) z330).mono ?_
      rintro e w355 ⟨rfl, z357, ht356⟩
      have hs358 := ht356.size
      try simp only [size_al] at hs358
      have z359 := z326.turns ht356 (by first | omega | (simp only [size_al]; omega))
      have z360 := z327.turns ht356 (by first | omega | (simp only [size_al]; omega))
      have z361 := z328.turns ht356 (by first | omega | (simp only [size_al]; omega))
      have z362 := z329.turns ht356 (by first | omega | (simp only [size_al]; omega))
      have z363 := z331.turns ht356 (by first | omega | (simp only [size_al]; omega))
      have z364 := z332.turns ht356 (by first | omega | (simp only [size_al]; omega))
      have z365 := z333.turns ht356 (by first | omega | (simp only [size_al]; omega))
      clear z326 z327 z328 z329 z331 z332 z333
      have hB366 := hB335.trans (ht356.below (by omega) (by first | omega | (simp only [size_al]; omega)))
      clear hB335 ht356 z330
      clear z357
      clear x336 x337 x338 x339 x340 x341 x342 x343 x344 x345 x346 x347 x348 x349 x350 x351 x352 x353 x354
      obtain ⟨x367, x368, x369, x370, x371, x372, x373⟩ := loop_at z359
      obtain ⟨x374, x375, x376, x377⟩ := hold_at z360
      obtain ⟨x378, x379, x380, x381⟩ := hold_at z361
      obtain ⟨x382, x383, x384, x385⟩ := hold_at z364
      go_wp2_with fail
      refine (markZ (some ⟨w66.heap.size, 0, none⟩) m m (1 + (n : Int)) (w66.heap.size) (w66.heap.size + 1) g _ hm (by omega) (by omega) z363).mono ?_
      rintro e w386 ⟨rfl, z388, ht387⟩
      have hs389 := ht387.size
      try simp only [size_al] at hs389
      have z390 := z359.turns ht387 (by first | omega | (simp only [size_al]; omega))
      have z391 := z360.turns ht387 (by first | omega | (simp only [size_al]; omega))
      have z392 := z361.turns ht387 (by first | omega | (simp only [size_al]; omega))
      have z393 := z362.turns ht387 (by first | omega | (simp only [size_al]; omega))
      have z394 := z364.turns ht387 (by first | omega | (simp only [size_al]; omega))
      have z395 := z365.turns ht387 (by first | omega | (simp only [size_al]; omega))
      clear z359 z360 z361 z362 z364 z365
      have hB396 := hB366.trans (ht387.below (by omega) (by first | omega | (simp only [size_al]; omega)))
      clear hB366 ht387 z363
      clear z388
      have jk : ¬ 1 + (n : Int) + (m : Int) < 0 := by omega
      clear x367 x368 x369 x370 x371 x372 x373 x374 x375 x376 x377 x378 x379 x380 x381 x382 x383 x384 x385
      obtain ⟨x397, x398, x399, x400, x401, x402, x403⟩ := loop_at z390
      obtain ⟨x404, x405, x406, x407⟩ := hold_at z391
      obtain ⟨x408, x409, x410, x411⟩ := hold_at z392
      obtain ⟨x412, x413, x414, x415⟩ := hold_at z394
      go_wp2_with fail
      refine (eqI_any x127 x36 N cx128 cx37 F _ (by omega) z395.il z393.il).mono ?_
      rintro e w416 ⟨rfl, hb417⟩
      have hs418 := hb417.size
      have z419 := z390.on hb417
      have z420 := z391.on hb417
      have z421 := z392.on hb417
      have z422 := z393.on hb417
      have z423 := z394.on hb417
      have z424 := z395.on hb417
      clear z390 z391 z392 z393 z394 z395
      have hB425 := stepA hB396 hb417
      clear hB396 hb417
      try simp only [size_al] at hs418
      clear x397 x398 x399 x400 x401 x402 x403 x404 x405 x406 x407 x408 x409 x410 x411 x412 x413 x414 x415
      obtain ⟨x426, x427, x428, x429, x430, x431, x432⟩ := loop_at z419
      obtain ⟨x433, x434, x435, x436⟩ := hold_at z420
      obtain ⟨x437, x438, x439, x440⟩ := hold_at z421
      obtain ⟨x441, x442, x443, x444⟩ := hold_at z423
      go_wp2_with fail
      refine (eqHold_any H _).mono ?_
      rintro e w445 ⟨rfl, hb446⟩
      have hs447 := hb446.size
      have z448 := z419.on hb446
      have z449 := z420.on hb446
      have z450 := z421.on hb446
      have z451 := z422.on hb446
      have z452 := z423.on hb446
      have z453 := z424.on hb446
      clear z419 z420 z421 z422 z423 z424
      have hB454 := stepA hB425 hb446
      clear hB425 hb446
      try simp only [size_al] at hs447
      clear z452
      have hN2 : N ≤ 1048576 := by omega
      clear x426 x427 x428 x429 x430 x431 x432 x433 x434 x435 x436 x437 x438 x439 x440 x441 x442 x443 x444
      obtain ⟨x455, x456, x457, x458, x459, x460, x461⟩ := loop_at z448
      obtain ⟨x462, x463, x464, x465⟩ := hold_at z449
      obtain ⟨x466, x467, x468, x469⟩ := hold_at z450
      go_wp2_with fail
      refine (markZ x127 N cx128 (1) (lo129) (hi130) F _ hN2 (by omega) (by omega) z453).mono ?_
      rintro e w470 ⟨rfl, z472, ht471⟩
      have hs473 := ht471.size
      try simp only [size_al] at hs473
      have z474 := z448.turns ht471 (by first | omega | (simp only [size_al]; omega))
      have z475 := z449.turns ht471 (by first | omega | (simp only [size_al]; omega))
      have z476 := z450.turns ht471 (by first | omega | (simp only [size_al]; omega))
      have z477 := z451.turns ht471 (by first | omega | (simp only [size_al]; omega))
      clear z448 z449 z450 z451
      have hB478 := hB454.trans (ht471.below (by omega) (by first | omega | (simp only [size_al]; omega)))
      clear hB454 ht471 z453
      clear x455 x456 x457 x458 x459 x460 x461 x462 x463 x464 x465 x466 x467 x468 x469
      obtain ⟨x479, x480, x481, x482, x483, x484, x485⟩ := loop_at z474
      obtain ⟨x486, x487, x488, x489⟩ := hold_at z475
      obtain ⟨x490, x491, x492, x493⟩ := hold_at z476
      go_wp2_with fail
      refine (heldZ x127 N cx128 (1) (lo129) (hi130) _ hN2 (by omega) (by omega) z472).mono ?_
      rintro e w494 ⟨rfl, hb495⟩
      have hs' := hb495.symm
      clear hb495
      subst hs'
      have jn : ¬ 1 + (N : Int) < 0 := by omega
      clear x479 x480 x481 x482 x483 x484 x485 x486 x487 x488 x489 x490 x491 x492 x493
      obtain ⟨x496, x497, x498, x499, x500, x501, x502⟩ := loop_at z474
      obtain ⟨x503, x504, x505, x506⟩ := hold_at z475
      obtain ⟨x507, x508, x509, x510⟩ := hold_at z476
      go_upto_region 28 with fail
      have hw511 := Below.refl w470.heap.size w470
      go_cut [21, 20, 22] from 118 to 130 (fun sb sl sk wx => ∃ g, sb = .pointer (some ⟨g, 0, none⟩) ∧ w470.heap.size ≤ g ∧ Bx wx g (hvs H) ∧ Below w470.heap.size w470 wx ∧ sk = .bool B ∧ ∃ x cx lo hi, sl = .slice x N cx ∧ LQ wx lo hi x N F ∧ w470.heap.size ≤ lo ∧ hi ≤ wx.heap.size ∧ (g < lo ∨ hi ≤ g))
      case first =>
        go_region_held3 (fun w' => w'.cell? ⟨w.heap.size, 0, none⟩ = some (.int .i64 l.P) ∧ w'.cell? ⟨w.heap.size, 1, none⟩ = some (.int .i64 l.I) ∧ w'.cell? ⟨w.heap.size, 2, none⟩ = some (.int .i64 l.D) ∧ w'.cell? ⟨w.heap.size, 3, none⟩ = some (.int .i64 l.S) ∧ w'.cell? ⟨w.heap.size, 4, none⟩ = some (.int .i64 l.M) ∧ w'.cell? ⟨w.heap.size, 5, none⟩ = some (.int .i64 l.W) ∧ w'.cell? ⟨w.heap.size, 6, none⟩ = some (.int .i64 l.L) ∧ w'.cell? ⟨w.heap.size + 1, 0, none⟩ = some (.bool h.on) ∧ w'.cell? ⟨w.heap.size + 1, 1, none⟩ = some (.int .i64 h.sum) ∧ w'.cell? ⟨w.heap.size + 1, 2, none⟩ = some (.int .i64 h.last) ∧ w'.cell? ⟨w.heap.size + 1, 3, none⟩ = some (.int .i64 h.out))
          (first | (exact keepLH z474 z475 hw511.drew) | (exact keepLH z474 z475 hw517) | (exact keepLH z474 z475 hw518) | (exact keepLH z474 z475 hw519) | (exact keepLH z474 z475 hw520) | (exact keepLH z474 z475 hw521) | (exact keepLH z474 z475 ((hw511.alloc (Nat.le_refl _) _).drew)) | (exact keepLH z474 z475 (hw517.alloc hw517.size _)) | (exact keepLH z474 z475 (hw518.alloc hw518.size _)) | (exact keepLH z474 z475 (hw519.alloc hw519.size _)) | (exact keepLH z474 z475 (hw520.alloc hw520.size _)) | (exact keepLH z474 z475 (hw521.alloc hw521.size _)) | (exact keepLH z474 z475 (below_four hw521 hw511.size _ _ _ _)) | (exact keepLH z474 z475 (below_four hw521 hw517.size _ _ _ _)) | (exact keepLH z474 z475 (below_four hw521 hw518.size _ _ _ _)) | (exact keepLH z474 z475 (below_four hw521 hw519.size _ _ _ _)) | (exact keepLH z474 z475 (below_four hw521 hw520.size _ _ _ _)) | (fail))
          (first | (go_at_call 9; refine (toLoop_any l _).mono ?_; rintro e w512 ⟨rfl, hbn⟩; (first | (have hw517 := stepA hw511.drew hbn; have tk := hbn) | (have tk := below_al ((Below.refl _ _).drew.trans hbn); have hw517 := stepA hw511 tk; have nb := (bx_new (b := w470.heap.size) (w := w470) (hvs hd0) 26 rfl).on ((Below.refl _ _).drew.trans hbn))); (try (have nb := nb.on tk)); clear hbn) | (go_at_call 10; refine (toHold_any h _).mono ?_; rintro e w513 ⟨rfl, hbn⟩; (first | (have hw518 := stepA hw517 hbn; have tk := hbn) | (have tk := below_al hbn; have hw518 := stepA hw517 tk; have nb := (bx_new (b := w512.heap.size) (w := w512) (hvs hd0) 26 rfl).on hbn)); (try (have nb := nb.on tk)); clear hbn) | (go_at_call_of 14 a; refine (copyQ a n c f _ hn ?_).mono ?_; (first | exact hA.below (stepA hB478 hw518) | exact hA.below (stepA hB478 (hw518.alloc hw518.size _))); rintro e w514 ⟨rfl, q1, -, hbn⟩; (try simp only [size_al] at q1); (first | (have hw519 := stepA hw518 hbn; have tk := hbn) | (have tk := below_al hbn; have hw519 := stepA hw518 tk; have nb := (bx_new (b := w513.heap.size) (w := w513) (hvs hd0) 26 rfl).on hbn)); (try (have nb := nb.on tk)); clear hbn) | (go_at_call 14; refine (copyQ b m d g _ hm ?_).mono ?_; (first | exact hC.below (stepA hB478 hw519) | exact hC.below (stepA hB478 (hw519.alloc hw519.size _))); rintro e w515 ⟨rfl, q2, -, hbn⟩; (try simp only [size_al] at q2); (first | (have hw520 := stepA hw519 hbn; have tk := hbn) | (have tk := below_al hbn; have hw520 := stepA hw519 tk; have nb := (bx_new (b := w514.heap.size) (w := w514) (hvs hd0) 26 rfl).on hbn)); (try (have nb := nb.on tk)); (have q1 := q1.on tk); clear hbn) | (go_at_call 15; refine (hI _ _ _ _ _ ?_ ?_).mono ?_; (first | exact q1.il | exact (q1.on (below_al (Below.refl _ _))).il); (first | exact q2.il | exact (q2.on (below_al (Below.refl _ _))).il); rintro e w516 ⟨x, cx, rfl, qr, hbn⟩; (try (have ng := nb.lt)); (first | (have hw521 := stepA hw520 hbn; have tk := hbn) | (have tk := below_al hbn; have hw521 := stepA hw520 tk; have nb := (bx_new (b := w515.heap.size) (w := w515) (hvs hd0) 26 rfl).on hbn)); (try (have nb := nb.on tk)); (have q1 := q1.on tk); (have q2 := q2.on tk); clear hbn; (try (obtain ⟨m0, m1, m2, m3⟩ := hold_at nb; have f0 := nb.fz 0; have f1 := nb.fz 1; have f2 := nb.fz 2; have f3 := nb.fz 3))) | (fail))
        all_goals
          have hz1 := hw520.size
          have hz2 := hw521.size
          go_wp2_with fail
          go_meet
          case rel =>
            first
            | exact ⟨_, rfl, hz2, bx_new _ _ rfl, hw521.alloc hz2 _, rfl, _, _, _, _, rfl, qr.on ((Below.refl _ _).alloc (Nat.le_refl _) _), hz1, by simp, .inr (Nat.le_refl _)⟩
            | exact ⟨_, rfl, hw520.size, nb.set4 _, below_four hw521 hw520.size _ _ _ _, rfl, _, _, _, _, rfl, lq_four qr (.inl (by simp)) _ _ _ _, (by simp; omega), by simp, .inl (by simp)⟩
            | exact ⟨_, rfl, hw519.size, nb.set4 _, below_four hw521 hw519.size _ _ _ _, rfl, _, _, _, _, rfl, lq_four qr (.inl ng) _ _ _ _, hz1, by simp, .inl ng⟩
            | exact ⟨_, rfl, hw518.size, nb.set4 _, below_four hw521 hw518.size _ _ _ _, rfl, _, _, _, _, rfl, lq_four qr (.inl ng) _ _ _ _, hz1, by simp, .inl ng⟩
            | exact ⟨_, rfl, hw517.size, nb.set4 _, below_four hw521 hw517.size _ _ _ _, rfl, _, _, _, _, rfl, lq_four qr (.inl ng) _ _ _ _, hz1, by simp, .inl ng⟩
            | exact ⟨_, rfl, hw511.size, nb.set4 _, below_four hw521 hw511.size _ _ _ _, rfl, _, _, _, _, rfl, lq_four qr (.inl ng) _ _ _ _, hz1, by simp, .inl ng⟩
      case rest =>
        clear x496 x497 x498 x499 x500 x501 x502 x503 x504 x505 x506 x507 x508 x509 x510
        obtain ⟨g522, rfl, hg525, z523, hb524, rfl, x527, cx528, lo529, hi530, rfl, z531, hr532, hr533, hr534⟩ := hcut
        generalize wc = w526 at *
        have hs535 := hb524.size
        have z536 := z474.on hb524
        have z537 := z475.on hb524
        have z538 := z476.on hb524
        have z539 := z477.on hb524
        have z540 := z472.on hb524
        clear z474 z475 z476 z477 z472
        have hB541 := stepA hB478 hb524
        have hl542 := z523.lt
        clear hB478 hb524 hw511
        obtain ⟨x543, x544, x545, x546, x547, x548, x549⟩ := loop_at z536
        obtain ⟨x550, x551, x552, x553⟩ := hold_at z537
        obtain ⟨x554, x555, x556, x557⟩ := hold_at z538
        obtain ⟨x558, x559, x560, x561⟩ := hold_at z523
        go_wp2_with fail
        refine (eqI_any x527 x36 N cx528 cx37 F _ (by omega) z531.il z539.il).mono ?_
        rintro e w562 ⟨rfl, hb563⟩
        have hs564 := hb563.size
        have z565 := z536.on hb563
        have z566 := z537.on hb563
        have z567 := z538.on hb563
        have z568 := z539.on hb563
        have z569 := z540.on hb563
        have z570 := z523.on hb563
        have z571 := z531.on hb563
        clear z536 z537 z538 z539 z540 z523 z531
        have hB572 := stepA hB541 hb563
        clear hB541 hb563
        try simp only [size_al] at hs564
        clear x543 x544 x545 x546 x547 x548 x549 x550 x551 x552 x553 x554 x555 x556 x557 x558 x559 x560 x561
        obtain ⟨x573, x574, x575, x576, x577, x578, x579⟩ := loop_at z565
        obtain ⟨x580, x581, x582, x583⟩ := hold_at z566
        obtain ⟨x584, x585, x586, x587⟩ := hold_at z567
        obtain ⟨x588, x589, x590, x591⟩ := hold_at z570
        go_wp2_with fail
        refine (eqHold_any H _).mono ?_
        rintro e w592 ⟨rfl, hb593⟩
        have hs594 := hb593.size
        have z595 := z565.on hb593
        have z596 := z566.on hb593
        have z597 := z567.on hb593
        have z598 := z568.on hb593
        have z599 := z569.on hb593
        have z600 := z570.on hb593
        have z601 := z571.on hb593
        clear z565 z566 z567 z568 z569 z570 z571
        have hB602 := stepA hB572 hb593
        clear hB572 hb593
        try simp only [size_al] at hs594
        clear x573 x574 x575 x576 x577 x578 x579 x580 x581 x582 x583 x584 x585 x586 x587 x588 x589 x590 x591
        obtain ⟨x603, x604, x605, x606, x607, x608, x609⟩ := loop_at z595
        obtain ⟨x610, x611, x612, x613⟩ := hold_at z596
        obtain ⟨x614, x615, x616, x617⟩ := hold_at z597
        obtain ⟨x618, x619, x620, x621⟩ := hold_at z600
        go_wp2_with fail
        refine (heldZ x127 N cx128 (1) (lo129) (hi130) _ hN2 (by omega) (by omega) z599).mono ?_
        rintro e w622 ⟨rfl, hb623⟩
        have hs' := hb623.symm
        clear hb623
        subst hs'
        clear x603 x604 x605 x606 x607 x608 x609 x610 x611 x612 x613 x614 x615 x616 x617 x618 x619 x620 x621
        clear z595
        clear z596
        clear z597
        clear z598
        clear z599
        clear z600
        clear z601
        go_wp2
        go_ret
        exact ⟨rfl, hB602⟩

set_option maxHeartbeats 1000000 in
theorem runLaw (l : Lp) (h : Hd) (a b : Option Addr) (n c m d : Nat) (f g : Nat → Int) (w : World) (h1 : n ≤ 9223372036854775807) (h2 : m ≤ 9223372036854775807) (hA : IL w a n f) (hC : IL w b m g) :
    Calls Try.prog 4 #[lv l, hv h, .slice a n c, .slice b m d] w fun e w' => e = .returned (.bool true) ∧ Below w.heap.size w w' := by
  by_cases hn : n ≤ 1048576
  · by_cases hm : m ≤ 1048576
    · exact runLaw_in l h a b n c m d f g w hn hm hA hC
    · have j1 : (n : Int) ≤ 1048576 := by omega
      have j2 : ¬ (m : Int) ≤ 1048576 := by omega
      go_enter Try.func4, Try.ntmps4
      go_wp2
      go_ret
      refine ⟨rfl, ?_⟩
      repeat' (first | exact Below.refl _ _ | refine below_dr ?_ _ | refine Below.alloc ?_ (by simp <;> omega) _ | refine Below.setCell ?_ (by simp <;> omega) _)
  · have j1 : ¬ (n : Int) ≤ 1048576 := by omega
    go_enter Try.func4, Try.ntmps4
    go_wp2
    go_ret
    refine ⟨rfl, ?_⟩
    repeat' (first | exact Below.refl _ _ | refine below_dr ?_ _ | refine Below.alloc ?_ (by simp <;> omega) _ | refine Below.setCell ?_ (by simp <;> omega) _)
end Go.Proofs.Ythmjoeknkenfgab
