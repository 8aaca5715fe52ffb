/- The law FnPlant, walked. -/
import Derived.Test.YthmjoeknkenfgaaHdFine
import Derived.Test.YthmjoeknkenfgaaHdDrP
namespace Go.Proofs.Ythmjoeknkenfgaa
open Go.RowKit

theorem ansP_il {w w' : World} {n : Nat} {F G : Nat → Int} {b : Bool} {e : Ending} (h : AnsP2 w w' n F G b e) : ∃ x c y d, e = .returned (.tuple #[.slice x n c, .slice y n d, .bool b]) ∧ IL w' x n F ∧ IL w' y n G ∧ Below w.heap.size w w' := by
  obtain ⟨⟨x, c, y, d, he, h1⟩, hb⟩ := h
  refine ⟨x, c, y, d, he, fun h0 => ?_, fun h0 => ?_, hb⟩
  · obtain ⟨b1, b2, rfl, -, -, -, -, h2, -⟩ := h1 h0
    exact h2.il h0
  · obtain ⟨b1, b2, -, rfl, -, -, -, -, h2⟩ := h1 h0
    exact h2.il h0

set_option maxHeartbeats 4000000 in
set_option maxRecDepth 20000 in
theorem fnPlant_in (a : Option Addr) (len cap : Nat) (w : World) (hl : len ≤ 1048576) (hb : 0 < len → ∃ b off, a = some ⟨b, off, none⟩ ∧ b < w.heap.size ∧ ∀ i, i < len → ∃ v : Int, w.cell? ⟨b, off + i, none⟩ = some (.int .u8 v) ∧ 0 ≤ v ∧ v ≤ 255) :
    Calls Try.prog 5 #[.slice a len cap] w fun e w' => e = .returned (.bool true) ∧ Below w.heap.size w w' := by
  have hD := drawPlant a len cap w hl hb
  have j1 : (len : Int) ≤ 1048576 := by omega
  clear hb
  go_enter Try.func5, Try.ntmps5
  go_wp2_with fail
  refine hD.mono ?_
  rintro e w1 ⟨l, ms, x, m, c, F, rfl, hI, hm, hB1⟩
  have hA := (Below.refl w1.heap.size w1).alloc (Nat.le_refl _) (lvo l)
  have m2 := bx_new (b := w1.heap.size) (w := w1) (lvs l) 34 rfl
  have hI2 := hI.below hA
  have hB2 := stepA hB1 hA
  clear hA hD hI hB1
  have h1 := fun w (h : IL w x m F) => implPl l ms x m c F w h
  have h2 := fun w (h : IL w x m F) => specPl l ms x m c F w h
  have hf := fun (x y : Option Addr) (c d : Nat) (w : World) hb hX hY => plantFine_any l ms x y m c d F w hb hX hY
  go_upto_region 4 with fail
  generalize w1.alloc (lvo l) = w2 at m2 hI2 hB2 ⊢
  generalize w1.heap.size = M at m2 ⊢
  obtain ⟨x0, x1, x2, x3, x4, x5, x6⟩ := loop_at m2
  go_wp2_with fail
  refine (h1 _ hI2).mono ?_
  rintro e w3 hh
  obtain ⟨px, pc, py, pd, rfl, hX, hY, hb3⟩ := ansP_il hh
  have m3 := m2.on hb3
  have hI3 := hI2.below hb3
  have hB3 := stepA hB2 hb3
  clear hh hb3 m2 hI2 hB2 x0 x1 x2 x3 x4 x5 x6
  obtain ⟨x0, x1, x2, x3, x4, x5, x6⟩ := loop_at m3
  go_wp2_with fail
  refine (h2 _ hI3).mono ?_
  rintro e w4 ⟨⟨qx, qc, qy, qd, rfl, -, -⟩, hb4⟩
  have m4 := m3.on hb4
  have hX4 := hX.below hb4
  have hY4 := hY.below hb4
  have hB4 := stepA hB3 hb4
  clear hb4 m3 hI3 hB3 hX hY x0 x1 x2 x3 x4 x5 x6 h1 h2
  obtain ⟨x0, x1, x2, x3, x4, x5, x6⟩ := loop_at m4
  cases hp : plB l ms m F with
  | false =>
    go_wp2
    go_ret
    exact ⟨rfl, hB4⟩
  | true =>
    have hN : plN l ms m F = m := by unfold plN; rw [hp, if_pos rfl]
    rw [hN] at hX4 hY4 ⊢
    go_wp2_with fail
    refine (hf px py pc pd _ hp hX4 hY4).mono ?_
    rintro e w5 ⟨rfl, hb5⟩
    have hB5 := stepA hB4 hb5
    go_wp2
    go_ret
    exact ⟨rfl, hB5⟩
set_option maxHeartbeats 400000 in
theorem fnPlant_long (a : Option Addr) (len cap : Nat) (w : World) (hl : ¬ len ≤ 1048576) :
    Calls Try.prog 5 #[.slice a len cap] w fun e w' => e = .returned (.bool true) ∧ Below w.heap.size w w' := by
  have j1 : ¬ (len : Int) ≤ 1048576 := by omega
  go_enter Try.func5, Try.ntmps5
  go_wp2
  go_ret
  exact ⟨rfl, Below.refl _ _⟩
theorem fnPlantAll (a : Option Addr) (len cap : Nat) (w : World) (hb : 0 < len → ∃ b off, a = some ⟨b, off, none⟩ ∧ b < w.heap.size ∧ ∀ i, i < len → ∃ v : Int, w.cell? ⟨b, off + i, none⟩ = some (.int .u8 v) ∧ 0 ≤ v ∧ v ≤ 255) :
    Calls Try.prog 5 #[.slice a len cap] w fun e w' => e = .returned (.bool true) ∧ Below w.heap.size w w' := by
  by_cases h : len ≤ 1048576
  · exact fnPlant_in a len cap w h hb
  · exact fnPlant_long a len cap w h
end Go.Proofs.Ythmjoeknkenfgaa
