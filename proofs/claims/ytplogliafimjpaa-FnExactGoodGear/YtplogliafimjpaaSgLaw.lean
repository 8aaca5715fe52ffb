/- The laws on GoodGear and StopBound, walked. -/
import Derived.Test.YtplogliafimjpaaSgBnd
namespace Go.Proofs.Ytplogliafimjpaa
open Go.RowKit

set_option maxHeartbeats 1000000 in
theorem gearLaw (g : Gr) (w : World) :
    Calls Try.prog 3 #[grv g] w fun e w' => e = .returned (.bool true) ∧ Below w.heap.size w w' := by
  have hB0 := Below.refl w.heap.size w
  have z1 := bx_new (b := w.heap.size) (w := w) (grs g) 23 (by first | rfl | simp only [size_al])
  have hx2 : Below w.heap.size w (w.alloc (.cells #[.int .i64 g.D, .int .i64 g.W, .int .i64 g.B, .int .i64 g.R, .int .i64 g.M] 23)) := (Below.refl _ _).alloc (Nat.le_refl _) _
  have hB3 := stepA hB0 hx2
  clear hB0 hx2
  go_enter Try.func3, Try.ntmps3
  obtain ⟨x4, x5, x6, x7, x8⟩ := gear_at z1
  go_wp2_with fail
  refine (toGear_any g _).mono ?_
  rintro e w9 ⟨rfl, hb10⟩
  have hs11 := hb10.size
  have z12 := z1.on hb10
  clear z1
  have hB13 := stepA hB3 hb10
  clear hB3 hb10
  try simp only [size_al] at hs11
  clear x4 x5 x6 x7 x8
  obtain ⟨x14, x15, x16, x17, x18⟩ := gear_at z12
  go_wp2_with fail
  refine (sGoodG g _).mono ?_
  rintro e w19 ⟨rfl, hb20⟩
  have hs21 := hb20.size
  have z22 := z12.on hb20
  clear z12
  have hB23 := stepA hB13 hb20
  clear hB13 hb20
  try simp only [size_al] at hs21
  clear x14 x15 x16 x17 x18
  obtain ⟨x24, x25, x26, x27, x28⟩ := gear_at z22
  go_wp2_with fail
  refine (toGear_any g _).mono ?_
  rintro e w29 ⟨rfl, hb30⟩
  have hs31 := hb30.size
  have z32 := z22.on hb30
  clear z22
  have hB33 := stepA hB23 hb30
  clear hB23 hb30
  try simp only [size_al] at hs31
  clear x24 x25 x26 x27 x28
  obtain ⟨x34, x35, x36, x37, x38⟩ := gear_at z32
  go_wp2_with fail
  refine (iGoodG g _).mono ?_
  rintro e w39 ⟨rfl, hb40⟩
  have hs41 := hb40.size
  have z42 := z32.on hb40
  clear z32
  have hB43 := stepA hB33 hb40
  clear hB33 hb40
  try simp only [size_al] at hs41
  clear x34 x35 x36 x37 x38
  clear z42
  go_wp2
  go_ret
  exact ⟨rfl, hB43⟩

set_option maxHeartbeats 1000000 in
theorem boundLaw (g : Gr) (w : World) :
    Calls Try.prog 4 #[grv g] w fun e w' => e = .returned (.bool true) ∧ Below w.heap.size w w' := by
  have hB0 := Below.refl w.heap.size w
  have z1 := bx_new (b := w.heap.size) (w := w) (grs g) 23 (by first | rfl | simp only [size_al])
  have hx2 : Below w.heap.size w (w.alloc (.cells #[.int .i64 g.D, .int .i64 g.W, .int .i64 g.B, .int .i64 g.R, .int .i64 g.M] 23)) := (Below.refl _ _).alloc (Nat.le_refl _) _
  have hB3 := stepA hB0 hx2
  clear hB0 hx2
  go_enter Try.func4, Try.ntmps4
  obtain ⟨x4, x5, x6, x7, x8⟩ := gear_at z1
  go_wp2_with fail
  refine (toGear_any g _).mono ?_
  rintro e w9 ⟨rfl, hb10⟩
  have hs11 := hb10.size
  have z12 := z1.on hb10
  clear z1
  have hB13 := stepA hB3 hb10
  clear hB3 hb10
  try simp only [size_al] at hs11
  clear x4 x5 x6 x7 x8
  obtain ⟨x14, x15, x16, x17, x18⟩ := gear_at z12
  go_wp2_with fail
  refine (sBound g _).mono ?_
  rintro e w19 ⟨rfl, hb20⟩
  have hs21 := hb20.size
  have z22 := z12.on hb20
  clear z12
  have hB23 := stepA hB13 hb20
  clear hB13 hb20
  try simp only [size_al] at hs21
  clear x14 x15 x16 x17 x18
  obtain ⟨x24, x25, x26, x27, x28⟩ := gear_at z22
  go_wp2_with fail
  refine (toGear_any g _).mono ?_
  rintro e w29 ⟨rfl, hb30⟩
  have hs31 := hb30.size
  have z32 := z22.on hb30
  clear z22
  have hB33 := stepA hB23 hb30
  clear hB23 hb30
  try simp only [size_al] at hs31
  clear x24 x25 x26 x27 x28
  obtain ⟨x34, x35, x36, x37, x38⟩ := gear_at z32
  go_wp2_with fail
  refine (iBound g _).mono ?_
  rintro e w39 ⟨rfl, hb40⟩
  have hs41 := hb40.size
  have z42 := z32.on hb40
  clear z32
  have hB43 := stepA hB33 hb40
  clear hB33 hb40
  try simp only [size_al] at hs41
  clear x34 x35 x36 x37 x38
  clear z42
  go_wp2
  go_ret
  exact ⟨rfl, hB43⟩

end Go.Proofs.Ytplogliafimjpaa
