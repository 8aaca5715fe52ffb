/- The walk of the law on EnterState. -/
import Derived.Test.YtjefakfongehdaaRChEsS
namespace Go.Proofs.YtjefakfongehdaaR
open Go.RowKit
set_option maxHeartbeats 4000000 in
theorem enterLaw (a b : Option Addr) (n c m d : Nat) (f g : Nat → Int) (s : Int) (w : World) (h : n + m ≤ 1048576) (hf : IL w a (n * 2) f) (hg : IL w b (m * 3) g)
    (hI : ∀ (a b : Option Addr) (c d : Nat) (w : World), n ≤ c → IL w a (n * 2) f → IL w b (m * 3) g → Calls Try.prog 13 #[chv a n c b m d, .int .i64 s] w fun e w' => e = .returned (.int .i64 (enterV n f m g s)) ∧ Below w.heap.size w w') :
    Calls Try.prog 5 #[chv a n c b m d, .int .i64 s] w fun e w' => e = .returned (.bool true) ∧ Below w.heap.size w w' := by
  have hn : n ≤ 1048576 := by omega
  have hm : m ≤ 1048576 := by omega
  have j1 : ¬ (1048576 : Int) - (n : Int) - (m : Int) < 0 := by omega
  have hS := fun a b c d w h h' => sEnterState a b n c m d f g s w hn hm h h'
  generalize enterV n f m g s = V at hI hS
  go_enter Try.func5, Try.ntmps5
  have hB0 := Below.refl w.heap.size w
  have z1 := bx_new (b := w.heap.size) (w := w) [.slice a n c, .slice b m d] 43 (by first | rfl | simp only [size_al])
  have hx2 : Below w.heap.size w (w.alloc (.cells #[.slice a n c, .slice b m d] 43)) := (Below.refl _ _).alloc (Nat.le_refl _) _
  have hB3 := stepA hB0 hx2
  clear hB0 hx2
  have x4 := z1.c0
  have x5 := z1.c1
  go_wp2_with fail
  refine (szChart_in a b n c m d 1048576 _ (by omega) (by omega)).mono ?_
  rintro e w6 ⟨rfl, hb7⟩
  have hs8 := hb7.size
  have z9 := z1.on hb7
  clear z1
  have hB10 := stepA hB3 hb7
  clear hB3 hb7
  try simp only [size_al] at hs8
  clear x4 x5
  have x11 := z9.c0
  have x12 := z9.c1
  go_wp2_with fail
  refine (toChart_any a b n c m d f g _ hn hm (hf.below (hB10)) (hg.below (hB10))).mono ?_
  rintro e w13 ⟨p1, p2, rfl, hP, hb14⟩
  have hs15 := hb14.size
  have z16 := z9.on hb14
  clear z9
  have hB17 := stepA hB10 hb14
  clear hB10 hb14
  try simp only [size_al] at hs15
  try simp only [size_al] at hP
  clear x11 x12
  have x18 := z16.c0
  have x19 := z16.c1
  go_wp2_with fail
  refine (hS p1 p2 n m _ hP.il1 hP.il2).mono ?_
  rintro e w20 ⟨rfl, hb21⟩
  have hs22 := hb21.size
  have z23 := z16.on hb21
  have z24 := hP.on hb21
  clear z16 hP
  have hB25 := stepA hB17 hb21
  clear hB17 hb21
  try simp only [size_al] at hs22
  clear z24
  clear x18 x19
  have x26 := z23.c0
  have x27 := z23.c1
  go_wp2_with fail
  refine (toChart_any a b n c m d f g _ hn hm (hf.below (hB25)) (hg.below (hB25))).mono ?_
  rintro e w28 ⟨q1, q2, rfl, hQ, hb29⟩
  have hs30 := hb29.size
  have z31 := z23.on hb29
  clear z23
  have hB32 := stepA hB25 hb29
  clear hB25 hb29
  try simp only [size_al] at hs30
  try simp only [size_al] at hQ
  have z33 := bx_new (b := w28.heap.size) (w := w28) [.slice q1 n n, .slice q2 m m] 26 (by first | rfl | simp only [size_al])
  have hx34 : Below w28.heap.size w28 (w28.alloc (.cells #[.slice q1 n n, .slice q2 m m] 26)) := (Below.refl _ _).alloc (Nat.le_refl _) _
  have z35 := z31.on hx34
  have z36 := hQ.on hx34
  clear z31 hQ
  have hB37 := stepA hB32 hx34
  clear hB32 hx34
  clear x26 x27
  have x38 := z35.c0
  have x39 := z35.c1
  have x40 := z33.c0
  have x41 := z33.c1
  go_wp2_with fail
  refine (hI q1 q2 n m _ (Nat.le_refl _) z36.il1 z36.il2).mono ?_
  rintro e w42 ⟨rfl, hb43⟩
  have hs44 := hb43.size
  have z45 := z35.on hb43
  have z46 := z36.on hb43
  have z47 := z33.on hb43
  clear z35 z36 z33
  have hB48 := stepA hB37 hb43
  clear hB37 hb43
  try simp only [size_al] at hs44
  clear x38 x39 x40 x41
  have x49 := z45.c0
  have x50 := z45.c1
  have x51 := z47.c0
  have x52 := z47.c1
  go_wp2_with fail
  have hw53 := Below.refl w42.heap.size w42
  go_region_held3 (fun w' => w'.cell? ⟨w.heap.size, 0, none⟩ = some (.slice a n c) ∧ w'.cell? ⟨w.heap.size, 1, none⟩ = some (.slice b m d) ∧ w'.cell? ⟨w28.heap.size, 0, none⟩ = some (.slice q1 n n) ∧ w'.cell? ⟨w28.heap.size, 1, none⟩ = some (.slice q2 m m))
    (first | (exact ⟨(z45.on hw53.drew).c0, (z45.on hw53.drew).c1, (z47.on hw53.drew).c0, (z47.on hw53.drew).c1⟩) | (exact ⟨(z45.on hw56).c0, (z45.on hw56).c1, (z47.on hw56).c0, (z47.on hw56).c1⟩) | (exact ⟨(z45.on hw59).c0, (z45.on hw59).c1, (z47.on hw59).c0, (z47.on hw59).c1⟩) | (fail))
    (first | (go_at_call 17; refine (toChart_any a b n c m d f g _ hn hm (hf.below (stepA hB48 (hw53.drew))) (hg.below (stepA hB48 (hw53.drew)))).mono ?_; rintro e w54 ⟨r11, r21, rfl, hR1, hb55⟩; have hw56 := stepA hw53.drew hb55; clear hb55) | (go_at_call 19; refine (eqChart_any _ _ _ _ n _ m _ _ _ f g _ hn hm (z46.on (hw56)).il1 (z46.on (hw56)).il2 hR1.il1 hR1.il2).mono ?_; rintro e w57 ⟨rfl, hb58⟩; have hw59 := stepA hw56 hb58; clear hb58) | (fail))
  have hs60 := hw59.size
  try simp only [size_al] at hs60
  have z61 := z45.on hw59
  have z62 := z46.on hw59
  have z63 := z47.on hw59
  clear z45 z46 z47
  have hB64 := stepA hB48 hw59
  clear hB48
  clear hR1
  clear x49 x50 x51 x52
  clear z61
  clear z62
  clear z63
  go_wp2
  go_ret
  exact ⟨rfl, hB64⟩
set_option maxHeartbeats 1000000 in
theorem enterLaw_long (a b : Option Addr) (n c m d : Nat) (s : Int) (w : World) (h : 1048576 < n + m) (hn : n ≤ 9223372036854775807) (hm : m ≤ 9223372036854775807) :
    Calls Try.prog 5 #[chv a n c b m d, .int .i64 s] w fun e w' => e = .returned (.bool true) ∧ Below w.heap.size w w' := by
  have hB0 : Below w.heap.size w (w.alloc (chO a n c b m d 43)) := (Below.refl _ _).alloc (Nat.le_refl _) _
  go_enter Try.func5, Try.ntmps5
  go_wp2_with fail
  refine (szChart_out a b n c m d 1048576 _ (by omega) (by omega) (by omega) hn hm).mono ?_
  rintro e w1 ⟨rfl, hb1⟩
  have hB1 := stepA hB0 hb1
  go_wp2
  go_ret
  exact ⟨rfl, hB1⟩
theorem enterAll (a b : Option Addr) (n c m d : Nat) (f g : Nat → Int) (s : Int) (w : World) (hn : n ≤ 9223372036854775807) (hm : m ≤ 9223372036854775807) (hf : IL w a (n * 2) f) (hg : IL w b (m * 3) g)
    (hI : n ≤ 1048576 → m ≤ 1048576 → ∀ (a b : Option Addr) (c d : Nat) (w : World), n ≤ c → IL w a (n * 2) f → IL w b (m * 3) g → Calls Try.prog 13 #[chv a n c b m d, .int .i64 s] w fun e w' => e = .returned (.int .i64 (enterV n f m g s)) ∧ Below w.heap.size w w') :
    Calls Try.prog 5 #[chv a n c b m d, .int .i64 s] w fun e w' => e = .returned (.bool true) ∧ Below w.heap.size w w' := by
  by_cases h : n + m ≤ 1048576
  · exact enterLaw a b n c m d f g s w h hf hg (hI (by omega) (by omega))
  · exact enterLaw_long a b n c m d s w (by omega) hn hm
end Go.Proofs.YtjefakfongehdaaR
