/- The walk of the law on WayCost. -/
import Derived.Test.YtfciecoigfnnhaaWyCost
import Derived.Test.YtfciecoigfnnhaaWyCostI
import Derived.Test.YtfciecoigfnnhaaClBase
namespace Go.Proofs.Ytfciecoigfnnhaa
open Go.RowKit
set_option maxHeartbeats 4000000 in
theorem costLaw (W : Int) (a b : Option Addr) (n c m d : Nat) (f g : Nat → Int) (w : World) (hn : n ≤ 1048576) (hm : m ≤ 1048576) (hf : IL w a n f) (hg : IL w b m g) :
    Calls Try.prog 7 #[cel W a n c, .slice b m d] w fun e w' => e = .returned (.bool true) ∧ Below w.heap.size w w' := by
  have hI := fun a b c w h1 h2 => implCost W a b n c m m f g w hn hm (Nat.le_refl _) h1 h2
  have hS := fun a b c d w h1 h2 => specCost W a b n c m d f g w hn hm h1 h2
  generalize wayQ W n f m g = Q at hI hS
  generalize wayS W n f m g 1 = X at hI hS
  generalize wayS W n f m g 2 = Y at hI hS
  have j : ¬ (1048576 : Int) - (n : Int) < 0 := by omega
  have j3 : ¬ (1048576 : Int) < (m : Int) := by omega
  go_enter Try.func7, Try.ntmps7
  have hB0 := Below.refl w.heap.size w
  have z1 := bx_new (b := w.heap.size) (w := w) [.int .i64 W, .slice a n c] 53 (by first | rfl | simp only [size_al])
  have hx2 : Below w.heap.size w (w.alloc (.cells #[.int .i64 W, .slice a n c] 53)) := (Below.refl _ _).alloc (Nat.le_refl _) _
  have hB3 := stepA hB0 hx2
  clear hB0 hx2
  have x4 := z1.c0
  have x5 := z1.c1
  go_wp2_with fail
  refine (szCells_in W a n c _ hn).mono ?_
  rintro e w6 ⟨rfl, hb7⟩
  have hs8 := hb7.size
  have z9 := z1.on hb7
  clear z1
  have hB10 := stepA hB3 hb7
  clear hB3 hb7
  try simp only [size_al] at hs8
  clear x4 x5
  have x11 := z9.c0
  have x12 := z9.c1
  go_wp2_with fail
  refine (toCells_any W a n c f _ hn (hf.below hB10)).mono ?_
  rintro e w13 ⟨a2, rfl, hL2, hb14⟩
  have hs15 := hb14.size
  have z16 := z9.on hb14
  clear z9
  have hB17 := stepA hB10 hb14
  clear hB10 hb14
  try simp only [size_al] at hs15
  try simp only [size_al] at hL2
  clear x11 x12
  have x18 := z16.c0
  have x19 := z16.c1
  go_wp2_with fail
  refine (copyQ b m d g _ hm (hg.below hB17)).mono ?_
  rintro e w20 ⟨rfl, hM2, hM2s, hb21⟩
  have hs22 := hb21.size
  have z23 := z16.on hb21
  have z24 := hL2.on hb21
  clear z16 hL2
  have hB25 := stepA hB17 hb21
  clear hB17 hb21
  try simp only [size_al] at hs22
  try simp only [size_al] at hM2 hM2s
  clear x18 x19
  have x26 := z23.c0
  have x27 := z23.c1
  go_wp2_with fail
  refine (hS _ _ _ _ _ z24.il hM2.il).mono ?_
  rintro e w28 ⟨rfl, hb29⟩
  have hs30 := hb29.size
  have z31 := z23.on hb29
  have z32 := z24.on hb29
  have z33 := hM2.on hb29
  clear z23 z24 hM2
  have hB34 := stepA hB25 hb29
  clear hB25 hb29
  try simp only [size_al] at hs30
  clear z32
  clear z33
  clear x26 x27
  have x35 := z31.c0
  have x36 := z31.c1
  go_wp2_with fail
  refine (toCells_any W a n c f _ hn (hf.below hB34)).mono ?_
  rintro e w37 ⟨a4, rfl, hL4, hb38⟩
  have hs39 := hb38.size
  have z40 := z31.on hb38
  clear z31
  have hB41 := stepA hB34 hb38
  clear hB34 hb38
  try simp only [size_al] at hs39
  try simp only [size_al] at hL4
  have z42 := bx_new (b := w37.heap.size) (w := w37) [.int .i64 W, .slice a4 n n] 25 (by first | rfl | simp only [size_al])
  have hx43 : Below w37.heap.size w37 (w37.alloc (.cells #[.int .i64 W, .slice a4 n n] 25)) := (Below.refl _ _).alloc (Nat.le_refl _) _
  have z44 := z40.on hx43
  have z45 := hL4.on hx43
  clear z40 hL4
  have hB46 := stepA hB41 hx43
  clear hB41 hx43
  clear x35 x36
  have x47 := z44.c0
  have x48 := z44.c1
  have x49 := z42.c0
  have x50 := z42.c1
  go_wp2_with fail
  refine (copyQ b m d g _ hm (hg.below hB46)).mono ?_
  rintro e w51 ⟨rfl, hM4, hM4s, hb52⟩
  have hs53 := hb52.size
  have z54 := z44.on hb52
  have z55 := z45.on hb52
  have z56 := z42.on hb52
  clear z44 z45 z42
  have hB57 := stepA hB46 hb52
  clear hB46 hb52
  try simp only [size_al] at hs53
  try simp only [size_al] at hM4 hM4s
  clear x47 x48 x49 x50
  have x58 := z54.c0
  have x59 := z54.c1
  have x60 := z56.c0
  have x61 := z56.c1
  go_wp2_with fail
  refine (hI _ _ _ _ z55.il hM4.il).mono ?_
  rintro e w62 ⟨rfl, hb63⟩
  have hs64 := hb63.size
  have z65 := z54.on hb63
  have z66 := z55.on hb63
  have z67 := z56.on hb63
  have z68 := hM4.on hb63
  clear z54 z55 z56 hM4
  have hB69 := stepA hB57 hb63
  clear hB57 hb63
  try simp only [size_al] at hs64
  clear x58 x59 x60 x61
  have x70 := z65.c0
  have x71 := z65.c1
  have x72 := z67.c0
  have x73 := z67.c1
  go_wp2_with fail
  have hw74 := Below.refl w62.heap.size w62
  go_region_held3 (fun w' => w'.cell? ⟨w.heap.size, 0, none⟩ = some (.int .i64 W) ∧ w'.cell? ⟨w.heap.size, 1, none⟩ = some (.slice a n c) ∧ w'.cell? ⟨w37.heap.size, 0, none⟩ = some (.int .i64 W) ∧ w'.cell? ⟨w37.heap.size, 1, none⟩ = some (.slice a4 n n))
    (first | (exact ⟨(z65.on hw74.drew).c0, (z65.on hw74.drew).c1, (z67.on hw74.drew).c0, (z67.on hw74.drew).c1⟩) | (exact ⟨(z65.on hw77).c0, (z65.on hw77).c1, (z67.on hw77).c0, (z67.on hw77).c1⟩) | (exact ⟨(z65.on hw80).c0, (z65.on hw80).c1, (z67.on hw80).c0, (z67.on hw80).c1⟩) | (fail))
    (first | (go_at_call 30; refine (toCells_any W a n c f _ hn (hf.below (stepA hB69 hw74.drew))).mono ?_; rintro e w75 ⟨a9, rfl, hL9, hb76⟩; have hw77 := stepA hw74.drew hb76; clear hb76) | (go_at_call 32; refine (eqCells_any W _ _ n _ _ f _ hn (z66.on hw77).il hL9.il).mono ?_; rintro e w78 ⟨rfl, hb79⟩; have hw80 := stepA hw77 hb79; clear hb79) | (fail))
  have hs81 := hw80.size
  try simp only [size_al] at hs81
  have z82 := z65.on hw80
  have z83 := z66.on hw80
  have z84 := z67.on hw80
  have z85 := z68.on hw80
  clear z65 z66 z67 z68
  have hB86 := stepA hB69 hw80
  clear hB69
  clear hL9
  clear x70 x71 x72 x73
  have x87 := z82.c0
  have x88 := z82.c1
  have x89 := z84.c0
  have x90 := z84.c1
  go_wp2_with fail
  refine (copyQ b m d g _ hm (hg.below hB86)).mono ?_
  rintro e w91 ⟨rfl, hM6, hM6s, hb92⟩
  have hs93 := hb92.size
  have z94 := z82.on hb92
  have z95 := z83.on hb92
  have z96 := z84.on hb92
  have z97 := z85.on hb92
  clear z82 z83 z84 z85
  have hB98 := stepA hB86 hb92
  clear hB86 hb92
  try simp only [size_al] at hs93
  try simp only [size_al] at hM6 hM6s
  clear x87 x88 x89 x90
  have x99 := z94.c0
  have x100 := z94.c1
  have x101 := z96.c0
  have x102 := z96.c1
  go_wp2_with fail
  refine (eqI_any (some ⟨w37.heap.size + 1, 0, none⟩) (some ⟨w78.heap.size, 0, none⟩) m m m g _ hm z97.il hM6.il).mono ?_
  rintro e w103 ⟨rfl, hb104⟩
  have hs105 := hb104.size
  have z106 := z94.on hb104
  have z107 := z95.on hb104
  have z108 := z96.on hb104
  have z109 := z97.on hb104
  have z110 := hM6.on hb104
  clear z94 z95 z96 z97 hM6
  have hB111 := stepA hB98 hb104
  clear hB98 hb104
  try simp only [size_al] at hs105
  clear z110
  clear x99 x100 x101 x102
  clear z106
  clear z107
  clear z108
  clear z109
  go_wp2
  go_ret
  exact ⟨rfl, hB111⟩
set_option maxHeartbeats 400000 in
theorem costLaw_long (W : Int) (a b : Option Addr) (n c m d : Nat) (w : World) (hm : m ≤ 1048576) (h : 1048576 < n) (hn : n ≤ 9223372036854775807) :
    Calls Try.prog 7 #[cel W a n c, .slice b m d] w fun e w' => e = .returned (.bool true) ∧ Below w.heap.size w w' := by
  have hB0 : Below w.heap.size w (w.alloc (celO W a n c 53)) := (Below.refl _ _).alloc (Nat.le_refl _) _
  have j3 : ¬ (1048576 : Int) < (m : Int) := by omega
  go_enter Try.func7, Try.ntmps7
  go_wp2_with fail
  refine (szCells_out W a n c _ h hn).mono ?_
  rintro e w1 ⟨rfl, hb1⟩
  have hB1 := stepA hB0 hb1
  go_wp2
  go_ret
  exact ⟨rfl, hB1⟩
set_option maxHeartbeats 400000 in
theorem costLaw_long2 (W : Int) (a b : Option Addr) (n c m d : Nat) (w : World) (h : 1048576 < m) :
    Calls Try.prog 7 #[cel W a n c, .slice b m d] w fun e w' => e = .returned (.bool true) ∧ Below w.heap.size w w' := by
  have hB0 : Below w.heap.size w (w.alloc (celO W a n c 53)) := (Below.refl _ _).alloc (Nat.le_refl _) _
  have j3 : (1048576 : Int) < (m : Int) := by omega
  go_enter Try.func7, Try.ntmps7
  go_wp2
  go_ret
  exact ⟨rfl, hB0⟩
theorem costLawAll (W : Int) (a b : Option Addr) (n c m d : Nat) (f g : Nat → Int) (w : World) (hn : n ≤ 9223372036854775807) (hf : IL w a n f) (hg : IL w b m g) :
    Calls Try.prog 7 #[cel W a n c, .slice b m d] w fun e w' => e = .returned (.bool true) ∧ Below w.heap.size w w' := by
  by_cases h2 : m ≤ 1048576
  · by_cases h : n ≤ 1048576
    · exact costLaw W a b n c m d f g w h h2 hf hg
    · exact costLaw_long W a b n c m d w h2 (by omega) hn
  · exact costLaw_long2 W a b n c m d w (by omega)
end Go.Proofs.Ytfciecoigfnnhaa
