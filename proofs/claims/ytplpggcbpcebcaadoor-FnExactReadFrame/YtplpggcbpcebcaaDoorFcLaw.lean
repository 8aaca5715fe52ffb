/- The walk of the law on ReadFrame. -/
import Derived.Test.YtplpggcbpcebcaaDoorFcI
import Derived.Test.YtplpggcbpcebcaaDoorFcS
import Derived.Test.YtplpggcbpcebcaaDoorFcK
namespace Go.Proofs.YtplpggcbpcebcaaDoor
open Go.RowKit
set_option maxRecDepth 20000 in
set_option maxHeartbeats 4000000 in
theorem readLaw (s : ByteArray) (w : World) (hs : s.size ≤ 1048576) (hD : Db w) :
    Calls Tryd.prog 5 #[.string s] w fun e w' => e = .returned (.bool true) ∧ Below w.heap.size w w' := by
  have j : ¬ (1048576 : Int) < (s.size : Int) := by omega
  have kS := sRead s w hs
  have kI := fun w2 (h : Below w.heap.size w w2) => iRead s w2 hs (hD.on h)
  have hN := rdN_bd s
  have jn : ¬ (1 : Int) + (rdN s : Int) < 0 := by omega
  unfold AnsF at kS kI
  generalize rdI s = I at *
  generalize rdN s = N at *
  generalize rdB s = B at *
  generalize dtF (plT s) = D at *
  go_enter Tryd.func5, Tryd.ntmps5
  go_wp2_with fail
  refine kS.mono ?_
  rintro e w1 ⟨⟨a1, c1, rfl, hQ1⟩, hb1⟩
  clear kS
  have z1 := bx_new (w := w1) (frvL I a1 N c1) 24 rfl
  have hx1 : Below w1.heap.size w1 (w1.alloc (frvO I a1 N c1 24)) := (Below.refl _ _).alloc (Nat.le_refl _) _
  have hs1 : (w1.alloc (frvO I a1 N c1 24)).heap.size = w1.heap.size + 1 := size_al _ _
  have hQ2 := hQ1.on hx1
  have hB2 := stepA hb1 hx1
  have hn1 := hb1.size
  clear hQ1 hb1 hx1
  have kI2 := kI _ hB2
  go_wp2_with fail
  refine kI2.mono ?_
  rintro e w3 ⟨⟨a3, c3, rfl, hQ3⟩, hb3⟩
  clear kI2
  have z3 := z1.on hb3
  have hQ4 := hQ2.on hb3
  have hB3 := stepA hB2 hb3
  have hn3 := hb3.size
  rw [hs1] at hn3 hQ3
  clear hQ2 hb3 z1 hB2 hs1
  generalize w1.heap.size = L1 at *
  have zg := bx_new (w := w3) (frvL I a3 N c3) 24 rfl
  have hx3 : Below w3.heap.size w3 (w3.alloc (frvO I a3 N c3 24)) := (Below.refl _ _).alloc (Nat.le_refl _) _
  have hs3 : (w3.alloc (frvO I a3 N c3 24)).heap.size = w3.heap.size + 1 := size_al _ _
  have z4 := z3.on hx3
  have hQ5 := hQ4.on hx3
  have hQ6 := hQ3.on hx3
  have hB4 := stepA hB3 hx3
  clear hQ4 hQ3 hx3 z3 hB3
  have x0 := z4.c0
  have x1 := z4.c1
  have y0 := zg.c0
  have y1 := zg.c1
  have kE := eqFrame_any I a3 a1 N c3 c1 D (w3.alloc (frvO I a3 N c3 24)) (by omega) hQ6.yl hQ5.yl
  go_wp2_with fail
  refine kE.mono ?_
  rintro e w5 ⟨rfl, hb5⟩
  clear kE
  have z5 := z4.on hb5
  have zg5 := zg.on hb5
  have hQ7 := hQ5.on hb5
  have hQ8 := hQ6.on hb5
  have hB5 := stepA hB4 hb5
  have hn5 := hb5.size
  rw [hs3] at hn5
  clear hb5 z4 zg hQ5 hQ6 hB4 hs3 x0 x1 y0 y1
  generalize w3.heap.size = L3 at *
  have y0 := zg5.c0
  have y1 := zg5.c1
  have kM := markF I a3 N c3 (L1 + 1) L3 D w5 hN hQ8
  go_wp2_with fail
  refine kM.mono ?_
  rintro e w6 ⟨rfl, hQ9, hT6⟩
  clear kM hQ8
  have z6 := z5.turns hT6 (.inl (by omega))
  have zg6 := zg5.turns hT6 (.inr (Nat.le_refl _))
  have hQ10 := hQ7.turns hT6 (.inl (by omega))
  have hB6 : Below w.heap.size w w6 := hB5.trans (hT6.below (by omega) (by omega))
  have hn6 := hT6.size
  clear z5 zg5 hQ7 hB5 hT6 y0 y1
  have y0 := zg6.c0
  have y1 := zg6.c1
  have kH := heldF I a3 N c3 (L1 + 1) L3 w6 hN hQ9
  go_wp2_with fail
  refine kH.mono ?_
  rintro e w7 ⟨rfl, hb7⟩
  clear kH
  have z7 := z6.on hb7
  have zg7 := zg6.on hb7
  have hQ11 := hQ10.on hb7
  have hQ12 := hQ9.on hb7
  have hB7 := stepA hB6 hb7
  have hn7 := hb7.size
  clear hb7 z6 zg6 hQ10 hQ9 hB6 y0 y1
  have kI3 := kI _ hB7
  go_wp2_with fail
  refine kI3.mono ?_
  rintro e w8 ⟨⟨a8, c8, rfl, hQ13⟩, hb8⟩
  clear kI3 kI
  have z8 := z7.on hb8
  have zg8 := zg7.on hb8
  have hQ14 := hQ11.on hb8
  have hQ15 := hQ12.on hb8
  have hB8 := stepA hB7 hb8
  clear hb8 z7 zg7 hQ11 hQ12 hB7
  have zh := bx_new (w := w8) (frvL I a8 N c8) 24 rfl
  have hx8 : Below w8.heap.size w8 (w8.alloc (frvO I a8 N c8 24)) := (Below.refl _ _).alloc (Nat.le_refl _) _
  have z9 := z8.on hx8
  have zg9 := zg8.on hx8
  have hQ16 := hQ14.on hx8
  have hQ17 := hQ15.on hx8
  have hQ18 := hQ13.on hx8
  have hB9 := stepA hB8 hx8
  clear hx8 z8 zg8 hQ14 hQ15 hQ13 hB8
  have x0 := z9.c0
  have x1 := z9.c1
  have y0 := zh.c0
  have y1 := zh.c1
  have kE := eqFrame_any I a8 a1 N c8 c1 D (w8.alloc (frvO I a8 N c8 24)) (by omega) hQ18.yl hQ16.yl
  go_wp2_with fail
  refine kE.mono ?_
  rintro e w10 ⟨rfl, hb10⟩
  clear kE
  have zg10 := zg9.on hb10
  have hQ19 := hQ17.on hb10
  have hB10 := stepA hB9 hb10
  clear hb10 z9 zg9 zh hQ16 hQ17 hQ18 hB9 x0 x1 y0 y1
  have y0 := zg10.c0
  have y1 := zg10.c1
  have kH := heldF I a3 N c3 (L1 + 1) L3 w10 hN hQ19
  go_wp2_with fail
  refine kH.mono ?_
  rintro e w11 ⟨rfl, hb11⟩
  have hB11 := stepA hB10 hb11
  clear kH hb11 zg10 hQ19 hB10 y0 y1
  go_wp2
  go_ret
  exact ⟨rfl, hB11⟩
set_option maxHeartbeats 400000 in
theorem readLaw_long (s : ByteArray) (w : World) (hs : 1048576 < s.size) :
    Calls Tryd.prog 5 #[.string s] w fun e w' => e = .returned (.bool true) ∧ Below w.heap.size w w' := by
  have j : (1048576 : Int) < (s.size : Int) := by omega
  have hB := Below.refl w.heap.size w
  go_enter Tryd.func5, Tryd.ntmps5
  go_wp2
  go_ret
  exact ⟨rfl, hB⟩
theorem readAll (s : ByteArray) (w : World) (hD : Db w) :
    Calls Tryd.prog 5 #[.string s] w fun e w' => e = .returned (.bool true) ∧ Below w.heap.size w w' := by
  by_cases h : s.size ≤ 1048576
  · exact readLaw s w h hD
  · exact readLaw_long s w (by omega)
end Go.Proofs.YtplpggcbpcebcaaDoor
