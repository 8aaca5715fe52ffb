/- The walk of the law on GoodBoard (tools/gen_whlaw.py). -/
import Derived.Test.YtacnegfmdckpbaaDoorWhGbS
import Derived.Test.YtacnegfmdckpbaaDoorU8Shelf
namespace Go.Proofs.YtacnegfmdckpbaaDoor
open Go.RowKit
set_option maxHeartbeats 4000000 in
theorem boardAll (a : Option Addr) (n c : Nat) (b : Option Addr) (m d : Nat) (x : Option Addr) (p q : Nat) (f : Nat → ByteArray) (g : Nat → Bool) (K : Nat → Nat) (R : Nat → Nat → Int) (w : World) (hn0 : n ≤ 9223372036854775807) (hm0 : m ≤ 9223372036854775807) (hp0 : p ≤ 9223372036854775807) (hf0 : ∀ i, i < n → (f i).size ≤ 9223372036854775807) (hK0 : ∀ i, i < p → K i ≤ 9223372036854775807) (h : BD w a n f b m g x p K R) (hT : U8 w)
    (hI0 : n ≤ 1048576 → m ≤ 1048576 → p ≤ 1048576 → (∀ i, i < n → (f i).size ≤ 1048576) → (∀ i, i < p → K i ≤ 1048576) → ∀ (a : Option Addr) (c : Nat) (b : Option Addr) (d : Nat) (x : Option Addr) (q : Nat) (w : World), n ≤ c → m ≤ d → p ≤ q → BD w a n f b m g x p K R → U8 w → Calls Tryd.prog 33 #[bdv a n c b m d x p q] w fun e w' => e = .returned (.bool (gbB n f m p K R)) ∧ Below w.heap.size w w') :
    Calls Tryd.prog 7 #[bdv a n c b m d x p q] w fun e w' => e = .returned (.bool true) ∧ Below w.heap.size w w' := by
  have HT : Hid (U8 w) := hT
  clear hT
  go_enter Tryd.func7, Tryd.ntmps7
  have hB0 := Below.refl w.heap.size w
  have z1 := bx_new (b := w.heap.size) (w := w) [.slice a n c, .slice b m d, .slice x p q] 57 (by first | rfl | simp only [size_al])
  have hx2 : Below w.heap.size w (w.alloc (.cells #[.slice a n c, .slice b m d, .slice x p q] 57)) := (Below.refl _ _).alloc (Nat.le_refl _) _
  have hB3 := stepA hB0 hx2
  clear hB0 hx2
  have x4 := z1.c0
  have x5 := z1.c1
  have x6 := z1.c2
  go_wp2_with fail
  refine (szBoard_any a n c b m d x p q f g K R 1048576 _ (by omega) (by omega) hn0 hm0 hp0 hf0 hK0 (h.below hB3)).mono ?_
  rintro e w7 ⟨y, rfl, hy, hb8⟩
  have hs9 := hb8.size
  have z10 := z1.on hb8
  clear z1
  have hB11 := stepA hB3 hb8
  clear hB3 hb8
  try simp only [size_al] at hs9
  rcases hy with rfl | ⟨y0, y1, hn', hm', hp', hf', hK'⟩
  · go_wp2
    go_ret
    exact ⟨rfl, hB11⟩
  have hn : n ≤ 1048576 := by omega
  have hm : m ≤ 1048576 := by omega
  have hp : p ≤ 1048576 := by omega
  have hf : ∀ i, i < n → (f i).size ≤ 1048576 := fun i hi => by have := hf' i hi; omega
  have hK : ∀ i, i < p → K i ≤ 1048576 := fun i hi => by have := hK' i hi; omega
  have y2 : ¬ y < 0 := by omega
  have hS := fun a c b d x q w h => sGoodBoard a n c b m d x p q f g K R w hn hm hp hf hK h
  have hI := hI0 hn hm hp hf hK
  clear hI0 hn' hm' hp' hf' hK' hf0 hK0 hf
  generalize gbB n f m p K R = V at hI hS
  clear x4 x5 x6
  have x12 := z10.c0
  have x13 := z10.c1
  have x14 := z10.c2
  go_wp2_with fail
  refine (toBoard_any a n c b m d x p q f g K R _ hn hm hp hK (h.below (hB11))).mono ?_
  rintro e w15 ⟨p1, p2, p3, rfl, hP, hb16⟩
  have hs17 := hb16.size
  have z18 := z10.on hb16
  clear z10
  have hB19 := stepA hB11 hb16
  clear hB11 hb16
  try simp only [size_al] at hs17
  clear x12 x13 x14
  have x20 := z18.c0
  have x21 := z18.c1
  have x22 := z18.c2
  go_wp2_with fail
  refine (hS p1 n p2 m p3 p _ hP).mono ?_
  rintro e w23 ⟨rfl, hb24⟩
  have hs25 := hb24.size
  have z26 := z18.on hb24
  have z27 := hP.on hb24
  clear z18 hP
  have hB28 := stepA hB19 hb24
  clear hB19 hb24
  try simp only [size_al] at hs25
  clear z27
  clear x20 x21 x22
  have x29 := z26.c0
  have x30 := z26.c1
  have x31 := z26.c2
  go_wp2_with fail
  refine (toBoard_any a n c b m d x p q f g K R _ hn hm hp hK (h.below (hB28))).mono ?_
  rintro e w32 ⟨q1, q2, q3, rfl, hQ, hb33⟩
  have hs34 := hb33.size
  have z35 := z26.on hb33
  clear z26
  have hB36 := stepA hB28 hb33
  clear hB28 hb33
  try simp only [size_al] at hs34
  have z37 := bx_new (b := w32.heap.size) (w := w32) [.slice q1 n n, .slice q2 m m, .slice q3 p p] 38 (by first | rfl | simp only [size_al])
  have hx38 : Below w32.heap.size w32 (w32.alloc (.cells #[.slice q1 n n, .slice q2 m m, .slice q3 p p] 38)) := (Below.refl _ _).alloc (Nat.le_refl _) _
  have z39 := z35.on hx38
  have z40 := hQ.on hx38
  clear z35 hQ
  have hB41 := stepA hB36 hx38
  clear hB36 hx38
  clear x29 x30 x31
  have x42 := z39.c0
  have x43 := z39.c1
  have x44 := z39.c2
  have x45 := z37.c0
  have x46 := z37.c1
  have x47 := z37.c2
  go_wp2_with fail
  refine (hI q1 n q2 m q3 p _ (Nat.le_refl _) (Nat.le_refl _) (Nat.le_refl _) z40 (HT.out.below hB41)).mono ?_
  rintro e w48 ⟨rfl, hb49⟩
  have hs50 := hb49.size
  have z51 := z39.on hb49
  have z52 := z40.on hb49
  have z53 := z37.on hb49
  clear z39 z40 z37
  have hB54 := stepA hB41 hb49
  clear hB41 hb49
  try simp only [size_al] at hs50
  clear x42 x43 x44 x45 x46 x47
  have x55 := z51.c0
  have x56 := z51.c1
  have x57 := z51.c2
  have x58 := z53.c0
  have x59 := z53.c1
  have x60 := z53.c2
  go_wp2_with fail
  have hw61 := Below.refl w48.heap.size w48
  go_region_held3 (fun w' => w'.cell? ⟨w.heap.size, 0, none⟩ = some (.slice a n c) ∧ w'.cell? ⟨w.heap.size, 1, none⟩ = some (.slice b m d) ∧ w'.cell? ⟨w.heap.size, 2, none⟩ = some (.slice x p q) ∧ w'.cell? ⟨w32.heap.size, 0, none⟩ = some (.slice q1 n n) ∧ w'.cell? ⟨w32.heap.size, 1, none⟩ = some (.slice q2 m m) ∧ w'.cell? ⟨w32.heap.size, 2, none⟩ = some (.slice q3 p p))
    (first | (exact ⟨(z51.on hw61.drew).c0, (z51.on hw61.drew).c1, (z51.on hw61.drew).c2, (z53.on hw61.drew).c0, (z53.on hw61.drew).c1, (z53.on hw61.drew).c2⟩) | (exact ⟨(z51.on hw64).c0, (z51.on hw64).c1, (z51.on hw64).c2, (z53.on hw64).c0, (z53.on hw64).c1, (z53.on hw64).c2⟩) | (exact ⟨(z51.on hw67).c0, (z51.on hw67).c1, (z51.on hw67).c2, (z53.on hw67).c0, (z53.on hw67).c1, (z53.on hw67).c2⟩) | (fail))
    (first | (go_at_call 32; refine (toBoard_any a n c b m d x p q f g K R _ hn hm hp hK (h.below (stepA hB54 (hw61.drew)))).mono ?_; rintro e w62 ⟨r11, r21, r31, rfl, hR1, hb63⟩; have hw64 := stepA hw61.drew hb63; clear hb63) | (go_at_call 34; refine (eqBoard_any _ _ n _ _ _ _ m _ _ _ _ p _ _ f g K R _ hn hm hp hK (z52.on (hw64)) hR1).mono ?_; rintro e w65 ⟨rfl, hb66⟩; have hw67 := stepA hw64 hb66; clear hb66) | (fail))
  have hs68 := hw67.size
  try simp only [size_al] at hs68
  have z69 := z51.on hw67
  have z70 := z52.on hw67
  have z71 := z53.on hw67
  clear z51 z52 z53
  have hB72 := stepA hB54 hw67
  clear hB54
  clear hR1
  clear x55 x56 x57 x58 x59 x60
  clear z69
  clear z70
  clear z71
  go_wp2
  go_ret
  exact ⟨rfl, hB72⟩
end Go.Proofs.YtacnegfmdckpbaaDoor
