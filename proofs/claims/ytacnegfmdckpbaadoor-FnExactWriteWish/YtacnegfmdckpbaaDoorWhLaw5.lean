/- The walk of the law on WriteWish (tools/gen_whlaw8.py). -/
import Derived.Test.YtacnegfmdckpbaaDoorWhWtS
import Derived.Test.YtacnegfmdckpbaaDoorU8Shelf
namespace Go.Proofs.YtacnegfmdckpbaaDoor
open Go.RowKit
theorem lefW_in {n : Nat} {f : Nat → ByteArray} {m : Nat} {g : Nat → ByteArray} {l : Int} (h : ¬ lefW n f m g l < 0) : (n : Int) ≤ l ∧ (∀ i, i < n → ((f i).size : Int) ≤ l) ∧ (m : Int) ≤ l ∧ (∀ i, i < m → ((g i).size : Int) ≤ l) := by
  unfold lefW at h
  by_cases h1 : lefB f n l < 0
  · rw [if_pos h1] at h; omega
  · rw [if_neg h1] at h
    obtain ⟨a1, a2, a3⟩ := lefB_in h1
    obtain ⟨b1, b2, _⟩ := lefB_in h
    exact ⟨a1, a2, by omega, fun i hi => by have := b2 i hi; omega⟩
set_option maxRecDepth 200000 in
set_option maxHeartbeats 16000000 in
theorem writeAll (ra : Option Addr) (rn rc : Nat) (re : Nat → ByteArray) (aa : Option Addr) (an ac : Nat) (av : Nat → ByteArray) (w : World) (hrn0 : rn ≤ 9223372036854775807) (han0 : an ≤ 9223372036854775807) (hre0 : ∀ i, i < rn → (re i).size ≤ 9223372036854775807) (hav0 : ∀ i, i < an → (av i).size ≤ 9223372036854775807)
    (hr : SL w ra rn re) (ha : SL w aa an av) (hT : U8 w)
    (hI0 : rn ≤ 1048576 → an ≤ 1048576 → (∀ i, i < rn → (re i).size ≤ 1048576) → (∀ i, i < an → (av i).size ≤ 1048576) → ∀ (ra : Option Addr) (rc : Nat) (aa : Option Addr) (ac : Nat) (w : World), rn ≤ rc → an ≤ ac → SL w ra rn re → SL w aa an av → U8 w → Calls Tryd.prog 10 #[wsv ra rn rc aa an ac] w fun e w' => e = .returned (.tuple #[.string (wrS rn re an av), .bool (wrB rn re an av)]) ∧ Below w.heap.size w w') :
    Calls Tryd.prog 6 #[wsv ra rn rc aa an ac] w fun e w' => e = .returned (.bool true) ∧ Below w.heap.size w w' := by
  have HT : Hid (U8 w) := hT
  clear hT
  go_enter Tryd.func6, Tryd.ntmps6
  have hB0 := Below.refl w.heap.size w
  have z1 := bx_new (b := w.heap.size) (w := w) [.slice ra rn rc, .slice aa an ac] 52 (by first | rfl | simp only [size_al])
  have hx2 : Below w.heap.size w (w.alloc (.cells #[.slice ra rn rc, .slice aa an ac] 52)) := (Below.refl _ _).alloc (Nat.le_refl _) _
  have hB3 := stepA hB0 hx2
  clear hB0 hx2
  have HW : Hid (¬ lefW rn re an av 1048576 < 0 → (rn : Int) ≤ 1048576 ∧ (∀ i, i < rn → ((re i).size : Int) ≤ 1048576) ∧ (an : Int) ≤ 1048576 ∧ (∀ i, i < an → ((av i).size : Int) ≤ 1048576)) := fun h => lefW_in h
  have kZ := fun w h h' => szWish_any ra aa rn rc an ac re av 1048576 w (by omega) (by omega) hrn0 han0 hre0 hav0 h h'
  generalize lefW rn re an av 1048576 = z at *
  have x4 := z1.c0
  have x5 := z1.c1
  go_wp2_with fail
  refine (kZ _ (hr.below hB3) (ha.below hB3)).mono ?_
  rintro e w6 ⟨rfl, hb7⟩
  have hs8 := hb7.size
  have z9 := z1.on hb7
  clear z1
  have hB10 := stepA hB3 hb7
  clear hB3 hb7
  try simp only [size_al] at hs8
  by_cases z0 : z < 0
  · clear HW kZ
    go_wp2
    go_ret
    exact ⟨rfl, hB10⟩
  obtain ⟨w1', w2', w3', w4'⟩ := HW.out (by omega)
  have hrn : rn ≤ 1048576 := by omega
  have han : an ≤ 1048576 := by omega
  have hre : ∀ i, i < rn → (re i).size ≤ 1048576 := fun i hi => by have := w2' i hi; omega
  have hav : ∀ i, i < an → (av i).size ≤ 1048576 := fun i hi => by have := w4' i hi; omega
  clear w1' w2' w3' w4' HW kZ hre0 hav0
  have hS := fun ra rc aa ac w h1 h2 h' h'' => sWrite ra rn rc re aa an ac av w hrn han h1 h2 hre hav h' h''
  have hI := hI0 hrn han hre hav
  clear hI0 hre hav
  generalize wrS rn re an av = V1 at hI hS
  generalize wrB rn re an av = V2 at hI hS
  have ev2 : (V2 == V2) = true := by simp
  have ev4 : (V2 != V2) = false := by simp
  clear x4 x5
  have x11 := z9.c0
  have x12 := z9.c1
  go_wp2_with fail
  refine (toWish_any ra aa rn rc an ac re av _ hrn han (hr.below (hB10)) (ha.below (hB10))).mono ?_
  rintro e w13 ⟨p4, p5, rfl, hWp, hb14⟩
  have hs15 := hb14.size
  have z16 := z9.on hb14
  clear z9
  have hB17 := stepA hB10 hb14
  clear hB10 hb14
  try simp only [size_al] at hs15
  try simp only [size_al] at hWp
  clear x11 x12
  have x18 := z16.c0
  have x19 := z16.c1
  go_wp2_with fail
  refine (hS p4 rn p5 an _ (Nat.le_refl _) (Nat.le_refl _) hWp.sl1 hWp.sl2).mono ?_
  rintro e w20 ⟨rfl, hb21⟩
  have hs22 := hb21.size
  have z23 := z16.on hb21
  have z24 := hWp.on hb21
  clear z16 hWp
  have hB25 := stepA hB17 hb21
  clear hB17 hb21
  try simp only [size_al] at hs22
  clear z24
  clear hS
  clear x18 x19
  have x26 := z23.c0
  have x27 := z23.c1
  go_wp2_with fail
  refine (toWish_any ra aa rn rc an ac re av _ hrn han (hr.below (hB25)) (ha.below (hB25))).mono ?_
  rintro e w28 ⟨q4, q5, rfl, hWq, hb29⟩
  have hs30 := hb29.size
  have z31 := z23.on hb29
  clear z23
  have hB32 := stepA hB25 hb29
  clear hB25 hb29
  try simp only [size_al] at hs30
  try simp only [size_al] at hWq
  have z33 := bx_new (b := w28.heap.size) (w := w28) [.slice q4 rn rn, .slice q5 an an] 25 (by first | rfl | simp only [size_al])
  have hx34 : Below w28.heap.size w28 (w28.alloc (.cells #[.slice q4 rn rn, .slice q5 an an] 25)) := (Below.refl _ _).alloc (Nat.le_refl _) _
  have z35 := z31.on hx34
  have z36 := hWq.on hx34
  clear z31 hWq
  have hB37 := stepA hB32 hx34
  clear hB32 hx34
  clear x26 x27
  have x38 := z35.c0
  have x39 := z35.c1
  have x40 := z33.c0
  have x41 := z33.c1
  go_wp2_with fail
  refine (hI q4 rn q5 an _ (Nat.le_refl _) (Nat.le_refl _) z36.sl1 z36.sl2 (HT.out.below hB37)).mono ?_
  rintro e w42 ⟨rfl, hb43⟩
  have hs44 := hb43.size
  have z45 := z35.on hb43
  have z46 := z36.on hb43
  have z47 := z33.on hb43
  clear z35 z36 z33
  have hB48 := stepA hB37 hb43
  clear hB37 hb43
  try simp only [size_al] at hs44
  clear x38 x39 x40 x41
  have x49 := z45.c0
  have x50 := z45.c1
  have x51 := z47.c0
  have x52 := z47.c1
  go_wp2_with fail
  have hw53 := Below.refl w42.heap.size w42
  go_region_held3 (fun w' => w'.cell? ⟨w.heap.size, 0, none⟩ = some (.slice ra rn rc) ∧ w'.cell? ⟨w.heap.size, 1, none⟩ = some (.slice aa an ac) ∧ w'.cell? ⟨w28.heap.size, 0, none⟩ = some (.slice q4 rn rn) ∧ w'.cell? ⟨w28.heap.size, 1, none⟩ = some (.slice q5 an an))
    (first | (exact ⟨(z45.on hw53.drew).c0, (z45.on hw53.drew).c1, (z47.on hw53.drew).c0, (z47.on hw53.drew).c1⟩) | (exact ⟨(z45.on hw56).c0, (z45.on hw56).c1, (z47.on hw56).c0, (z47.on hw56).c1⟩) | (exact ⟨(z45.on hw59).c0, (z45.on hw59).c1, (z47.on hw59).c0, (z47.on hw59).c1⟩) | (fail))
    (first | (go_at_call 28; refine (toWish_any ra aa rn rc an ac re av _ hrn han (hr.below (stepA hB48 (hw53.drew))) (ha.below (stepA hB48 (hw53.drew)))).mono ?_; rintro e w54 ⟨r12, r22, rfl, hR2, hb55⟩; have hw56 := stepA hw53.drew hb55; clear hb55) | (go_at_call 29; refine (eqWish_any _ _ _ _ rn _ an _ _ _ re av _ hrn han (z46.on (hw56)).sl1 (z46.on (hw56)).sl2 hR2.sl1 hR2.sl2).mono ?_; rintro e w57 ⟨rfl, hb58⟩; have hw59 := stepA hw56 hb58; clear hb58) | (fail))
  have hs60 := hw59.size
  try simp only [size_al] at hs60
  have z61 := z45.on hw59
  have z62 := z46.on hw59
  have z63 := z47.on hw59
  clear z45 z46 z47
  have hB64 := stepA hB48 hw59
  clear hB48
  clear hR2
  clear x49 x50 x51 x52
  clear z61
  clear z62
  clear z63
  go_wp2
  go_ret
  exact ⟨rfl, hB64⟩
end Go.Proofs.YtacnegfmdckpbaaDoor
