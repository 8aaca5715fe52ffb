/- The laws on GoodLoop and GoodHold, walked. -/
import Derived.Test.YthmjoeknkenfgaaHdGoodH
namespace Go.Proofs.Ythmjoeknkenfgaa
open Go.RowKit

set_option maxHeartbeats 1000000 in
theorem loopLaw (l : Lp) (w : World) :
    Calls Try.prog 7 #[lv l] w fun e w' => e = .returned (.bool true) ∧ Below w.heap.size w w' := by
  have hB0 := Below.refl w.heap.size w
  have z1 := bx_new (b := w.heap.size) (w := w) (lvs l) 56 (by first | rfl | simp only [size_al])
  have hx2 : Below w.heap.size w (w.alloc (.cells #[.int .i64 l.P, .int .i64 l.I, .int .i64 l.D, .int .i64 l.S, .int .i64 l.M, .int .i64 l.W, .int .i64 l.L] 56)) := (Below.refl _ _).alloc (Nat.le_refl _) _
  have hB3 := stepA hB0 hx2
  clear hB0 hx2
  go_enter Try.func7, Try.ntmps7
  obtain ⟨x4, x5, x6, x7, x8, x9, x10⟩ := loop_at z1
  go_wp2_with fail
  refine (toLoop_any l _).mono ?_
  rintro e w11 ⟨rfl, hb12⟩
  have hs13 := hb12.size
  have z14 := z1.on hb12
  clear z1
  have hB15 := stepA hB3 hb12
  clear hB3 hb12
  try simp only [size_al] at hs13
  clear x4 x5 x6 x7 x8 x9 x10
  obtain ⟨x16, x17, x18, x19, x20, x21, x22⟩ := loop_at z14
  go_wp2_with fail
  refine (specGoodL l _).mono ?_
  rintro e w23 ⟨rfl, hb24⟩
  have hs25 := hb24.size
  have z26 := z14.on hb24
  clear z14
  have hB27 := stepA hB15 hb24
  clear hB15 hb24
  try simp only [size_al] at hs25
  clear x16 x17 x18 x19 x20 x21 x22
  obtain ⟨x28, x29, x30, x31, x32, x33, x34⟩ := loop_at z26
  go_wp2_with fail
  refine (toLoop_any l _).mono ?_
  rintro e w35 ⟨rfl, hb36⟩
  have hs37 := hb36.size
  have z38 := z26.on hb36
  clear z26
  have hB39 := stepA hB27 hb36
  clear hB27 hb36
  try simp only [size_al] at hs37
  clear x28 x29 x30 x31 x32 x33 x34
  obtain ⟨x40, x41, x42, x43, x44, x45, x46⟩ := loop_at z38
  go_wp2_with fail
  refine (implGoodL l _).mono ?_
  rintro e w47 ⟨rfl, hb48⟩
  have hs49 := hb48.size
  have z50 := z38.on hb48
  clear z38
  have hB51 := stepA hB39 hb48
  clear hB39 hb48
  try simp only [size_al] at hs49
  clear x40 x41 x42 x43 x44 x45 x46
  clear z50
  go_wp2
  go_ret
  exact ⟨rfl, hB51⟩

set_option maxHeartbeats 1000000 in
theorem holdLaw (l : Lp) (h : Hd) (w : World) :
    Calls Try.prog 8 #[lv l, hv h] w fun e w' => e = .returned (.bool true) ∧ Below w.heap.size w w' := by
  have hB0 := Below.refl w.heap.size w
  have z1 := bx_new (b := w.heap.size) (w := w) (lvs l) 56 (by first | rfl | simp only [size_al])
  have hx2 : Below w.heap.size w (w.alloc (.cells #[.int .i64 l.P, .int .i64 l.I, .int .i64 l.D, .int .i64 l.S, .int .i64 l.M, .int .i64 l.W, .int .i64 l.L] 56)) := (Below.refl _ _).alloc (Nat.le_refl _) _
  have hB3 := stepA hB0 hx2
  clear hB0 hx2
  have z4 := bx_new (b := w.heap.size + 1) (w := (w.alloc (.cells #[.int .i64 l.P, .int .i64 l.I, .int .i64 l.D, .int .i64 l.S, .int .i64 l.M, .int .i64 l.W, .int .i64 l.L] 56))) (hvs h) 60 (by first | rfl | simp only [size_al])
  have hx5 : Below (w.alloc (.cells #[.int .i64 l.P, .int .i64 l.I, .int .i64 l.D, .int .i64 l.S, .int .i64 l.M, .int .i64 l.W, .int .i64 l.L] 56)).heap.size (w.alloc (.cells #[.int .i64 l.P, .int .i64 l.I, .int .i64 l.D, .int .i64 l.S, .int .i64 l.M, .int .i64 l.W, .int .i64 l.L] 56)) ((w.alloc (.cells #[.int .i64 l.P, .int .i64 l.I, .int .i64 l.D, .int .i64 l.S, .int .i64 l.M, .int .i64 l.W, .int .i64 l.L] 56)).alloc (.cells #[.bool h.on, .int .i64 h.sum, .int .i64 h.last, .int .i64 h.out] 60)) := (Below.refl _ _).alloc (Nat.le_refl _) _
  have z6 := z1.on hx5
  clear z1
  have hB7 := stepA hB3 hx5
  clear hB3 hx5
  go_enter Try.func8, Try.ntmps8
  obtain ⟨x8, x9, x10, x11, x12, x13, x14⟩ := loop_at z6
  obtain ⟨x15, x16, x17, x18⟩ := hold_at z4
  go_wp2_with fail
  have hw19 := Below.refl ((w.alloc (.cells #[.int .i64 l.P, .int .i64 l.I, .int .i64 l.D, .int .i64 l.S, .int .i64 l.M, .int .i64 l.W, .int .i64 l.L] 56)).alloc (.cells #[.bool h.on, .int .i64 h.sum, .int .i64 h.last, .int .i64 h.out] 60)).heap.size ((w.alloc (.cells #[.int .i64 l.P, .int .i64 l.I, .int .i64 l.D, .int .i64 l.S, .int .i64 l.M, .int .i64 l.W, .int .i64 l.L] 56)).alloc (.cells #[.bool h.on, .int .i64 h.sum, .int .i64 h.last, .int .i64 h.out] 60))
  go_region_held3 (fun w' => w'.cell? ⟨w.heap.size, 0, none⟩ = some (.int .i64 l.P) ∧ w'.cell? ⟨w.heap.size, 1, none⟩ = some (.int .i64 l.I) ∧ w'.cell? ⟨w.heap.size, 2, none⟩ = some (.int .i64 l.D) ∧ w'.cell? ⟨w.heap.size, 3, none⟩ = some (.int .i64 l.S) ∧ w'.cell? ⟨w.heap.size, 4, none⟩ = some (.int .i64 l.M) ∧ w'.cell? ⟨w.heap.size, 5, none⟩ = some (.int .i64 l.W) ∧ w'.cell? ⟨w.heap.size, 6, none⟩ = some (.int .i64 l.L) ∧ w'.cell? ⟨w.heap.size + 1, 0, none⟩ = some (.bool h.on) ∧ w'.cell? ⟨w.heap.size + 1, 1, none⟩ = some (.int .i64 h.sum) ∧ w'.cell? ⟨w.heap.size + 1, 2, none⟩ = some (.int .i64 h.last) ∧ w'.cell? ⟨w.heap.size + 1, 3, none⟩ = some (.int .i64 h.out))
    (first | (exact ⟨(loop_at (z6.on hw19.drew)).1, (loop_at (z6.on hw19.drew)).2.1, (loop_at (z6.on hw19.drew)).2.2.1, (loop_at (z6.on hw19.drew)).2.2.2.1, (loop_at (z6.on hw19.drew)).2.2.2.2.1, (loop_at (z6.on hw19.drew)).2.2.2.2.2.1, (loop_at (z6.on hw19.drew)).2.2.2.2.2.2, hold_at (z4.on hw19.drew)⟩) | (exact ⟨(loop_at (z6.on hw22)).1, (loop_at (z6.on hw22)).2.1, (loop_at (z6.on hw22)).2.2.1, (loop_at (z6.on hw22)).2.2.2.1, (loop_at (z6.on hw22)).2.2.2.2.1, (loop_at (z6.on hw22)).2.2.2.2.2.1, (loop_at (z6.on hw22)).2.2.2.2.2.2, hold_at (z4.on hw22)⟩) | (exact ⟨(loop_at (z6.on hw25)).1, (loop_at (z6.on hw25)).2.1, (loop_at (z6.on hw25)).2.2.1, (loop_at (z6.on hw25)).2.2.2.1, (loop_at (z6.on hw25)).2.2.2.2.1, (loop_at (z6.on hw25)).2.2.2.2.2.1, (loop_at (z6.on hw25)).2.2.2.2.2.2, hold_at (z4.on hw25)⟩) | (exact ⟨(loop_at (z6.on hw28)).1, (loop_at (z6.on hw28)).2.1, (loop_at (z6.on hw28)).2.2.1, (loop_at (z6.on hw28)).2.2.2.1, (loop_at (z6.on hw28)).2.2.2.2.1, (loop_at (z6.on hw28)).2.2.2.2.2.1, (loop_at (z6.on hw28)).2.2.2.2.2.2, hold_at (z4.on hw28)⟩) | (fail))
    (first | (go_at_call 30; refine (toLoop_any l _).mono ?_; rintro e w20 ⟨rfl, hb21⟩; have hw22 := stepA hw19.drew hb21; clear hb21) | (go_at_call 32; refine (toHold_any h _).mono ?_; rintro e w23 ⟨rfl, hb24⟩; have hw25 := stepA hw22 hb24; clear hb24) | (go_at_call 18; refine (specGoodH l h _).mono ?_; rintro e w26 ⟨rfl, hb27⟩; have hw28 := stepA hw25 hb27; clear hb27) | (fail))
  have hs29 := hw28.size
  try simp only [size_al] at hs29
  have z30 := z6.on hw28
  have z31 := z4.on hw28
  clear z6 z4
  have hB32 := stepA hB7 hw28
  clear hB7
  clear x8 x9 x10 x11 x12 x13 x14 x15 x16 x17 x18
  obtain ⟨x33, x34, x35, x36, x37, x38, x39⟩ := loop_at z30
  obtain ⟨x40, x41, x42, x43⟩ := hold_at z31
  go_wp2_with fail
  have hw44 := Below.refl w26.heap.size w26
  go_region_held3 (fun w' => w'.cell? ⟨w.heap.size, 0, none⟩ = some (.int .i64 l.P) ∧ w'.cell? ⟨w.heap.size, 1, none⟩ = some (.int .i64 l.I) ∧ w'.cell? ⟨w.heap.size, 2, none⟩ = some (.int .i64 l.D) ∧ w'.cell? ⟨w.heap.size, 3, none⟩ = some (.int .i64 l.S) ∧ w'.cell? ⟨w.heap.size, 4, none⟩ = some (.int .i64 l.M) ∧ w'.cell? ⟨w.heap.size, 5, none⟩ = some (.int .i64 l.W) ∧ w'.cell? ⟨w.heap.size, 6, none⟩ = some (.int .i64 l.L) ∧ w'.cell? ⟨w.heap.size + 1, 0, none⟩ = some (.bool h.on) ∧ w'.cell? ⟨w.heap.size + 1, 1, none⟩ = some (.int .i64 h.sum) ∧ w'.cell? ⟨w.heap.size + 1, 2, none⟩ = some (.int .i64 h.last) ∧ w'.cell? ⟨w.heap.size + 1, 3, none⟩ = some (.int .i64 h.out))
    (first | (exact ⟨(loop_at (z30.on hw44.drew)).1, (loop_at (z30.on hw44.drew)).2.1, (loop_at (z30.on hw44.drew)).2.2.1, (loop_at (z30.on hw44.drew)).2.2.2.1, (loop_at (z30.on hw44.drew)).2.2.2.2.1, (loop_at (z30.on hw44.drew)).2.2.2.2.2.1, (loop_at (z30.on hw44.drew)).2.2.2.2.2.2, hold_at (z31.on hw44.drew)⟩) | (exact ⟨(loop_at (z30.on hw47)).1, (loop_at (z30.on hw47)).2.1, (loop_at (z30.on hw47)).2.2.1, (loop_at (z30.on hw47)).2.2.2.1, (loop_at (z30.on hw47)).2.2.2.2.1, (loop_at (z30.on hw47)).2.2.2.2.2.1, (loop_at (z30.on hw47)).2.2.2.2.2.2, hold_at (z31.on hw47)⟩) | (exact ⟨(loop_at (z30.on hw50)).1, (loop_at (z30.on hw50)).2.1, (loop_at (z30.on hw50)).2.2.1, (loop_at (z30.on hw50)).2.2.2.1, (loop_at (z30.on hw50)).2.2.2.2.1, (loop_at (z30.on hw50)).2.2.2.2.2.1, (loop_at (z30.on hw50)).2.2.2.2.2.2, hold_at (z31.on hw50)⟩) | (exact ⟨(loop_at (z30.on hw53)).1, (loop_at (z30.on hw53)).2.1, (loop_at (z30.on hw53)).2.2.1, (loop_at (z30.on hw53)).2.2.2.1, (loop_at (z30.on hw53)).2.2.2.2.1, (loop_at (z30.on hw53)).2.2.2.2.2.1, (loop_at (z30.on hw53)).2.2.2.2.2.2, hold_at (z31.on hw53)⟩) | (fail))
    (first | (go_at_call 30; refine (toLoop_any l _).mono ?_; rintro e w45 ⟨rfl, hb46⟩; have hw47 := stepA hw44.drew hb46; clear hb46) | (go_at_call 32; refine (toHold_any h _).mono ?_; rintro e w48 ⟨rfl, hb49⟩; have hw50 := stepA hw47 hb49; clear hb49) | (go_at_call 33; refine (implGoodH l h _).mono ?_; rintro e w51 ⟨rfl, hb52⟩; have hw53 := stepA hw50 hb52; clear hb52) | (fail))
  have hs54 := hw53.size
  try simp only [size_al] at hs54
  have z55 := z30.on hw53
  have z56 := z31.on hw53
  clear z30 z31
  have hB57 := stepA hB32 hw53
  clear hB32
  clear x33 x34 x35 x36 x37 x38 x39 x40 x41 x42 x43
  clear z55
  clear z56
  go_wp2
  go_ret
  exact ⟨rfl, hB57⟩
end Go.Proofs.Ythmjoeknkenfgaa
