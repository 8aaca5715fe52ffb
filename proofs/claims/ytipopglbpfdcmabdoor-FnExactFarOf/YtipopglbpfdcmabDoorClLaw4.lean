/- The walk of the law on FarOf. -/
import Derived.Test.YtipopglbpfdcmabDoorClFar
import Derived.Test.YtipopglbpfdcmabDoorClBase
namespace Go.Proofs.YtipopglbpfdcmabDoor
open Go.RowKit
set_option maxHeartbeats 1000000 in
theorem farLaw (W : Int) (a : Option Addr) (n c : Nat) (f : Nat → Int) (p v : Int) (w : World) (hn : n ≤ 1048576) (hf : IL w a n f) (hT : Tab w) :
    Calls Tryd.prog 3 #[cel W a n c, .int .i64 p, .int .i64 v] w fun e w' => e = .returned (.bool true) ∧ Below w.heap.size w w' := by
  have j : ¬ (1048576 : Int) - (n : Int) < 0 := by omega
  go_enter Tryd.func3, Tryd.ntmps3
  have hB0 := Below.refl w.heap.size w
  have z1 := bx_new (w := w) [.int .i64 W, .slice a n c] 24 rfl
  have hx2 : Below w.heap.size w (w.alloc (.cells #[.int .i64 W, .slice a n c] 24)) := (Below.refl _ _).alloc (Nat.le_refl _) _
  have z3 := hT.on hx2
  clear hT
  have hB4 := stepA hB0 hx2
  clear hB0 hx2
  have x5 := z1.c0
  have x6 := z1.c1
  go_wp2_with fail
  refine (szCells_in W a n c _ hn).mono ?_
  rintro e w7 ⟨rfl, hb8⟩
  have hs9 := hb8.size
  have z10 := z3.on hb8
  have z11 := z1.on hb8
  clear z3 z1
  have hB12 := stepA hB4 hb8
  clear hB4 hb8
  try simp only [size_al] at hs9
  clear x5 x6
  have x13 := z11.c0
  have x14 := z11.c1
  go_wp2_with fail
  refine (toCells_any W a n c f _ hn (hf.below hB12)).mono ?_
  rintro e w15 ⟨a2, rfl, hL2, hb16⟩
  have hs17 := hb16.size
  have z18 := z10.on hb16
  have z19 := z11.on hb16
  clear z10 z11
  have hB20 := stepA hB12 hb16
  clear hB12 hb16
  try simp only [size_al] at hs17
  try simp only [size_al] at hL2
  clear x13 x14
  have x21 := z19.c0
  have x22 := z19.c1
  go_wp2_with fail
  refine (specFar W a2 n n f p v _ hn hL2.il).mono ?_
  rintro e w23 ⟨rfl, hb24⟩
  have hs25 := hb24.size
  have z26 := z18.on hb24
  have z27 := z19.on hb24
  have z28 := hL2.on hb24
  clear z18 z19 hL2
  have hB29 := stepA hB20 hb24
  clear hB20 hb24
  try simp only [size_al] at hs25
  clear z28
  generalize hq : farV W n f p v = q
  clear x21 x22
  have x30 := z27.c0
  have x31 := z27.c1
  go_wp2_with fail
  refine (toCells_any W a n c f _ hn (hf.below hB29)).mono ?_
  rintro e w32 ⟨a4, rfl, hL4, hb33⟩
  have hs34 := hb33.size
  have z35 := z26.on hb33
  have z36 := z27.on hb33
  clear z26 z27
  have hB37 := stepA hB29 hb33
  clear hB29 hb33
  try simp only [size_al] at hs34
  try simp only [size_al] at hL4
  have z38 := bx_new (w := w32) [.int .i64 W, .slice a4 n n] 27 rfl
  have hx39 : Below w32.heap.size w32 (w32.alloc (.cells #[.int .i64 W, .slice a4 n n] 27)) := (Below.refl _ _).alloc (Nat.le_refl _) _
  have z40 := z35.on hx39
  have z41 := z36.on hx39
  have z42 := hL4.on hx39
  clear z35 z36 hL4
  have hB43 := stepA hB37 hx39
  clear hB37 hx39
  clear x30 x31
  have x44 := z41.c0
  have x45 := z41.c1
  have x46 := z38.c0
  have x47 := z38.c1
  go_wp2_with fail
  refine (implFar W a4 n n f p v _ hn z42.il z40).mono ?_
  rintro e w48 ⟨rfl, hb49⟩
  have hs50 := hb49.size
  have z51 := z40.on hb49
  have z52 := z41.on hb49
  have z53 := z42.on hb49
  have z54 := z38.on hb49
  clear z40 z41 z42 z38
  have hB55 := stepA hB43 hb49
  clear hB43 hb49
  try simp only [size_al] at hs50
  rw [hq]
  clear hq
  clear x44 x45 x46 x47
  have x56 := z52.c0
  have x57 := z52.c1
  have x58 := z54.c0
  have x59 := z54.c1
  go_wp2_with fail
  have hw60 := Below.refl w48.heap.size w48
  go_region_held3 (fun w' => w'.cell? ⟨w.heap.size, 0, none⟩ = some (.int .i64 W) ∧ w'.cell? ⟨w.heap.size, 1, none⟩ = some (.slice a n c) ∧ w'.cell? ⟨w32.heap.size, 0, none⟩ = some (.int .i64 W) ∧ w'.cell? ⟨w32.heap.size, 1, none⟩ = some (.slice a4 n n))
    (first | (exact ⟨(z52.on hw60.drew).c0, (z52.on hw60.drew).c1, (z54.on hw60.drew).c0, (z54.on hw60.drew).c1⟩) | (exact ⟨(z52.on hw63).c0, (z52.on hw63).c1, (z54.on hw63).c0, (z54.on hw63).c1⟩) | (exact ⟨(z52.on hw66).c0, (z52.on hw66).c1, (z54.on hw66).c0, (z54.on hw66).c1⟩) | (fail))
    (first | (go_at_call 7; refine (toCells_any W a n c f _ hn (hf.below (stepA hB55 hw60.drew))).mono ?_; rintro e w61 ⟨a9, rfl, hL9, hb62⟩; have hw63 := stepA hw60.drew hb62; clear hb62) | (go_at_call 9; refine (eqCells_any W _ _ n _ _ f _ hn (z53.on hw63).il hL9.il).mono ?_; rintro e w64 ⟨rfl, hb65⟩; have hw66 := stepA hw63 hb65; clear hb65) | (fail))
  have hs67 := hw66.size
  try simp only [size_al] at hs67
  have z68 := z51.on hw66
  have z69 := z52.on hw66
  have z70 := z53.on hw66
  have z71 := z54.on hw66
  clear z51 z52 z53 z54
  have hB72 := stepA hB55 hw66
  clear hB55
  clear hL9
  clear x56 x57 x58 x59
  clear z68
  clear z69
  clear z70
  clear z71
  go_wp2
  go_ret
  exact ⟨rfl, hB72⟩
set_option maxHeartbeats 400000 in
theorem farLaw_long (W : Int) (a : Option Addr) (n c : Nat) (p v : Int) (w : World) (h : 1048576 < n) (hn : n ≤ 9223372036854775807) :
    Calls Tryd.prog 3 #[cel W a n c, .int .i64 p, .int .i64 v] w fun e w' => e = .returned (.bool true) ∧ Below w.heap.size w w' := by
  have hB0 : Below w.heap.size w (w.alloc (celO W a n c 24)) := (Below.refl _ _).alloc (Nat.le_refl _) _
  go_enter Tryd.func3, Tryd.ntmps3
  go_wp2_with fail
  refine (szCells_out W a n c _ h hn).mono ?_
  rintro e w1 ⟨rfl, hb1⟩
  have hB1 := stepA hB0 hb1
  go_wp2
  go_ret
  exact ⟨rfl, hB1⟩
theorem farAll (W : Int) (a : Option Addr) (n c : Nat) (f : Nat → Int) (p v : Int) (w : World) (hn : n ≤ 9223372036854775807) (hf : IL w a n f) (hT : Tab w) :
    Calls Tryd.prog 3 #[cel W a n c, .int .i64 p, .int .i64 v] w fun e w' => e = .returned (.bool true) ∧ Below w.heap.size w w' := by
  by_cases h : n ≤ 1048576
  · exact farLaw W a n c f p v w h hf hT
  · exact farLaw_long W a n c p v w (by omega) hn
end Go.Proofs.YtipopglbpfdcmabDoor
