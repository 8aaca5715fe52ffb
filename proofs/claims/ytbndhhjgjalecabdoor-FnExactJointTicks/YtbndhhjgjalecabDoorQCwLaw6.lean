/- The walk of the law on JointTicks. -/
import Derived.Test.YtbndhhjgjalecabDoorQCwJtS
import Derived.Test.YtbndhhjgjalecabDoorQClBase
import Derived.Test.YtbndhhjgjalecabDoorQClKind
namespace Go.Proofs.YtbndhhjgjalecabDoor
open Go.RowKit
set_option maxHeartbeats 4000000 in
theorem jointLaw (W : Int) (a : Option Addr) (n c : Nat) (f : Nat → Int) (s t s2 t2 : Int) (w : World) (hn : n ≤ 1048576) (hf : IL w a n f)
    (hT : Tab w) (hI : ∀ (a : Option Addr) (c : Nat) (w : World), Tab w → IL w a n f → Calls Tryd.prog 8 #[cel W a n c, tpv s t, tpv s2 t2] w fun e w' => ∃ d, e = .returned (.int .i64 d) ∧ JntIs W n f s t s2 t2 d ∧ Below w.heap.size w w') :
    Calls Tryd.prog 3 #[cel W a n c, tpv s t, tpv s2 t2] w fun e w' => e = .returned (.bool true) ∧ Below w.heap.size w w' := by
  have j : ¬ (1048576 : Int) - (n : Int) < 0 := by omega
  go_enter Tryd.func3, Tryd.ntmps3
  have hB0 := Below.refl w.heap.size w
  have z1 := bx_new (b := w.heap.size) (w := w) [.int .i64 W, .slice a n c] 24 (by first | rfl | simp only [size_al])
  have hx2 : Below w.heap.size w (w.alloc (.cells #[.int .i64 W, .slice a n c] 24)) := (Below.refl _ _).alloc (Nat.le_refl _) _
  have hB3 := stepA hB0 hx2
  clear hB0 hx2
  have z4 := bx_new (b := w.heap.size + 1) (w := (w.alloc (.cells #[.int .i64 W, .slice a n c] 24))) [.int .i64 s, .int .i64 t] 26 (by first | rfl | simp only [size_al])
  have hx5 : Below (w.alloc (.cells #[.int .i64 W, .slice a n c] 24)).heap.size (w.alloc (.cells #[.int .i64 W, .slice a n c] 24)) ((w.alloc (.cells #[.int .i64 W, .slice a n c] 24)).alloc (.cells #[.int .i64 s, .int .i64 t] 26)) := (Below.refl _ _).alloc (Nat.le_refl _) _
  have z6 := z1.on hx5
  clear z1
  have hB7 := stepA hB3 hx5
  clear hB3 hx5
  have z8 := bx_new (b := w.heap.size + 1 + 1) (w := ((w.alloc (.cells #[.int .i64 W, .slice a n c] 24)).alloc (.cells #[.int .i64 s, .int .i64 t] 26))) [.int .i64 s2, .int .i64 t2] 26 (by first | rfl | simp only [size_al])
  have hx9 : Below ((w.alloc (.cells #[.int .i64 W, .slice a n c] 24)).alloc (.cells #[.int .i64 s, .int .i64 t] 26)).heap.size ((w.alloc (.cells #[.int .i64 W, .slice a n c] 24)).alloc (.cells #[.int .i64 s, .int .i64 t] 26)) (((w.alloc (.cells #[.int .i64 W, .slice a n c] 24)).alloc (.cells #[.int .i64 s, .int .i64 t] 26)).alloc (.cells #[.int .i64 s2, .int .i64 t2] 26)) := (Below.refl _ _).alloc (Nat.le_refl _) _
  have z10 := z6.on hx9
  have z11 := z4.on hx9
  clear z6 z4
  have hB12 := stepA hB7 hx9
  clear hB7 hx9
  have x13 := z10.c0
  have x14 := z10.c1
  have x15 := z11.c0
  have x16 := z11.c1
  have x17 := z8.c0
  have x18 := z8.c1
  go_wp2_with fail
  refine (szCells_in W a n c _ hn).mono ?_
  rintro e w19 ⟨rfl, hb20⟩
  have hs21 := hb20.size
  have z22 := z10.on hb20
  have z23 := z11.on hb20
  have z24 := z8.on hb20
  clear z10 z11 z8
  have hB25 := stepA hB12 hb20
  clear hB12 hb20
  try simp only [size_al] at hs21
  clear x13 x14 x15 x16 x17 x18
  have x26 := z22.c0
  have x27 := z22.c1
  have x28 := z23.c0
  have x29 := z23.c1
  have x30 := z24.c0
  have x31 := z24.c1
  go_wp2_with fail
  have hw32 := Below.refl w19.heap.size w19
  go_region_held3 (fun w' => w'.cell? ⟨w.heap.size, 0, none⟩ = some (.int .i64 W) ∧ w'.cell? ⟨w.heap.size, 1, none⟩ = some (.slice a n c) ∧ w'.cell? ⟨w.heap.size + 1, 0, none⟩ = some (.int .i64 s) ∧ w'.cell? ⟨w.heap.size + 1, 1, none⟩ = some (.int .i64 t) ∧ w'.cell? ⟨w.heap.size + 1 + 1, 0, none⟩ = some (.int .i64 s2) ∧ w'.cell? ⟨w.heap.size + 1 + 1, 1, none⟩ = some (.int .i64 t2))
    (first | (exact ⟨(z22.on hw32.drew).c0, (z22.on hw32.drew).c1, (z23.on hw32.drew).c0, (z23.on hw32.drew).c1, (z24.on hw32.drew).c0, (z24.on hw32.drew).c1⟩) | (exact ⟨(z22.on hw35).c0, (z22.on hw35).c1, (z23.on hw35).c0, (z23.on hw35).c1, (z24.on hw35).c0, (z24.on hw35).c1⟩) | (exact ⟨(z22.on hw38).c0, (z22.on hw38).c1, (z23.on hw38).c0, (z23.on hw38).c1, (z24.on hw38).c0, (z24.on hw38).c1⟩) | (exact ⟨(z22.on hw41).c0, (z22.on hw41).c1, (z23.on hw41).c0, (z23.on hw41).c1, (z24.on hw41).c0, (z24.on hw41).c1⟩) | (exact ⟨(z22.on hw44).c0, (z22.on hw44).c1, (z23.on hw44).c0, (z23.on hw44).c1, (z24.on hw44).c0, (z24.on hw44).c1⟩) | (fail))
    (first | (go_at_call 6; refine (toCells_any W a n c f _ hn (hf.below (stepA hB25 hw32.drew))).mono ?_; rintro e w33 ⟨a9, rfl, hL9, hb34⟩; have hw35 := stepA hw32.drew hb34; clear hb34) | (go_at_call_of 7 (Value.agg #[Value.int IntKind.i64 s, Value.int IntKind.i64 t]); refine (toTrip_any s t _).mono ?_; rintro e w36 ⟨rfl, hb37⟩; have hL8 := hL9.on hb37; clear hL9; have hw38 := stepA hw35 hb37; clear hb37) | (go_at_call_of 7 (Value.agg #[Value.int IntKind.i64 s2, Value.int IntKind.i64 t2]); refine (toTrip_any s2 t2 _).mono ?_; rintro e w39 ⟨rfl, hb40⟩; have hL7 := hL8.on hb40; have hw41 := stepA hw38 hb40; clear hb40) | (go_at_call 5; refine (sJoint W a9 n n f s t s2 t2 _ hn hL7.il).mono ?_; rintro e w42 ⟨d1, rfl, hd1, hb43⟩; have hw44 := stepA hw41 hb43; clear hb43) | (fail))
  have hs45 := hw44.size
  try simp only [size_al] at hs45
  have z46 := z22.on hw44
  have z47 := z23.on hw44
  have z48 := z24.on hw44
  clear z22 z23 z24
  have hB49 := stepA hB25 hw44
  clear hB25
  clear hL8 hL7
  have HD1 : Hid (JntIs W n f s t s2 t2 d1) := hd1
  clear hd1
  clear x26 x27 x28 x29 x30 x31
  have x50 := z46.c0
  have x51 := z46.c1
  have x52 := z47.c0
  have x53 := z47.c1
  have x54 := z48.c0
  have x55 := z48.c1
  go_wp2_with fail
  refine (toCells_any W a n c f _ hn (hf.below hB49)).mono ?_
  rintro e w56 ⟨a4, rfl, hL4, hb57⟩
  have hs58 := hb57.size
  have z59 := z46.on hb57
  have z60 := z47.on hb57
  have z61 := z48.on hb57
  clear z46 z47 z48
  have hB62 := stepA hB49 hb57
  clear hB49 hb57
  try simp only [size_al] at hs58
  try simp only [size_al] at hL4
  have z63 := bx_new (b := w56.heap.size) (w := w56) [.int .i64 W, .slice a4 n n] 29 (by first | rfl | simp only [size_al])
  have hx64 : Below w56.heap.size w56 (w56.alloc (.cells #[.int .i64 W, .slice a4 n n] 29)) := (Below.refl _ _).alloc (Nat.le_refl _) _
  have z65 := z59.on hx64
  have z66 := z60.on hx64
  have z67 := z61.on hx64
  have z68 := hL4.on hx64
  clear z59 z60 z61 hL4
  have hB69 := stepA hB62 hx64
  clear hB62 hx64
  clear x50 x51 x52 x53 x54 x55
  have x70 := z65.c0
  have x71 := z65.c1
  have x72 := z66.c0
  have x73 := z66.c1
  have x74 := z67.c0
  have x75 := z67.c1
  have x76 := z63.c0
  have x77 := z63.c1
  go_wp2_with fail
  have hw78 := Below.refl (w56.alloc (.cells #[.int .i64 W, .slice a4 n n] 29)).heap.size (w56.alloc (.cells #[.int .i64 W, .slice a4 n n] 29))
  go_region_held3 (fun w' => w'.cell? ⟨w56.heap.size, 0, none⟩ = some (.int .i64 W) ∧ w'.cell? ⟨w56.heap.size, 1, none⟩ = some (.slice a4 n n) ∧ w'.cell? ⟨w.heap.size + 1, 0, none⟩ = some (.int .i64 s) ∧ w'.cell? ⟨w.heap.size + 1, 1, none⟩ = some (.int .i64 t) ∧ w'.cell? ⟨w.heap.size + 1 + 1, 0, none⟩ = some (.int .i64 s2) ∧ w'.cell? ⟨w.heap.size + 1 + 1, 1, none⟩ = some (.int .i64 t2))
    (first | (exact ⟨(z63.on hw78.drew).c0, (z63.on hw78.drew).c1, (z66.on hw78.drew).c0, (z66.on hw78.drew).c1, (z67.on hw78.drew).c0, (z67.on hw78.drew).c1⟩) | (exact ⟨(z63.on hw81).c0, (z63.on hw81).c1, (z66.on hw81).c0, (z66.on hw81).c1, (z67.on hw81).c0, (z67.on hw81).c1⟩) | (exact ⟨(z63.on hw84).c0, (z63.on hw84).c1, (z66.on hw84).c0, (z66.on hw84).c1, (z67.on hw84).c0, (z67.on hw84).c1⟩) | (exact ⟨(z63.on hw87).c0, (z63.on hw87).c1, (z66.on hw87).c0, (z66.on hw87).c1, (z67.on hw87).c0, (z67.on hw87).c1⟩) | (fail))
    (first | (go_at_call_of 7 (Value.agg #[Value.int IntKind.i64 s, Value.int IntKind.i64 t]); refine (toTrip_any s t _).mono ?_; rintro e w79 ⟨rfl, hb80⟩; have hw81 := stepA hw78.drew hb80; clear hb80) | (go_at_call_of 7 (Value.agg #[Value.int IntKind.i64 s2, Value.int IntKind.i64 t2]); refine (toTrip_any s2 t2 _).mono ?_; rintro e w82 ⟨rfl, hb83⟩; have hw84 := stepA hw81 hb83; clear hb83) | (go_at_call 8; refine (hI a4 n _ (hT.on (stepA hB69 hw84)) (z68.on hw84).il).mono ?_; rintro e w85 ⟨d2, rfl, hd2, hb86⟩; have hw87 := stepA hw84 hb86; clear hb86) | (fail))
  have hs88 := hw87.size
  try simp only [size_al] at hs88
  have z89 := z65.on hw87
  have z90 := z66.on hw87
  have z91 := z67.on hw87
  have z92 := z68.on hw87
  have z93 := z63.on hw87
  clear z65 z66 z67 z68 z63
  have hB94 := stepA hB69 hw87
  clear hB69
  have hdd : d2 = d1 := hd2.uniq HD1.out
  clear hd2 HD1
  subst hdd
  clear x70 x71 x72 x73 x74 x75 x76 x77
  have x95 := z89.c0
  have x96 := z89.c1
  have x97 := z90.c0
  have x98 := z90.c1
  have x99 := z91.c0
  have x100 := z91.c1
  have x101 := z93.c0
  have x102 := z93.c1
  go_wp2_with fail
  have hw103 := Below.refl w85.heap.size w85
  go_region_held3 (fun w' => w'.cell? ⟨w.heap.size, 0, none⟩ = some (.int .i64 W) ∧ w'.cell? ⟨w.heap.size, 1, none⟩ = some (.slice a n c) ∧ w'.cell? ⟨w56.heap.size, 0, none⟩ = some (.int .i64 W) ∧ w'.cell? ⟨w56.heap.size, 1, none⟩ = some (.slice a4 n n))
    (first | (exact ⟨(z89.on hw103.drew).c0, (z89.on hw103.drew).c1, (z93.on hw103.drew).c0, (z93.on hw103.drew).c1⟩) | (exact ⟨(z89.on hw106).c0, (z89.on hw106).c1, (z93.on hw106).c0, (z93.on hw106).c1⟩) | (exact ⟨(z89.on hw109).c0, (z89.on hw109).c1, (z93.on hw109).c0, (z93.on hw109).c1⟩) | (fail))
    (first | (go_at_call 6; refine (toCells_any W a n c f _ hn (hf.below (stepA hB94 hw103.drew))).mono ?_; rintro e w104 ⟨a9, rfl, hL9, hb105⟩; have hw106 := stepA hw103.drew hb105; clear hb105) | (go_at_call 9; refine (eqCells_any W _ _ n _ _ f _ hn (z92.on hw106).il hL9.il).mono ?_; rintro e w107 ⟨rfl, hb108⟩; have hw109 := stepA hw106 hb108; clear hb108) | (fail))
  have hs110 := hw109.size
  try simp only [size_al] at hs110
  have z111 := z89.on hw109
  have z112 := z90.on hw109
  have z113 := z91.on hw109
  have z114 := z92.on hw109
  have z115 := z93.on hw109
  clear z89 z90 z91 z92 z93
  have hB116 := stepA hB94 hw109
  clear hB94
  clear hL9
  clear x95 x96 x97 x98 x99 x100 x101 x102
  clear z111
  clear z112
  clear z113
  clear z114
  clear z115
  go_wp2
  go_ret
  exact ⟨rfl, hB116⟩
set_option maxHeartbeats 400000 in
theorem jointLaw_long (W : Int) (a : Option Addr) (n c : Nat) (s t s2 t2 : Int) (w : World) (h : 1048576 < n) (hn : n ≤ 9223372036854775807) :
    Calls Tryd.prog 3 #[cel W a n c, tpv s t, tpv s2 t2] w fun e w' => e = .returned (.bool true) ∧ Below w.heap.size w w' := by
  go_enter Tryd.func3, Tryd.ntmps3
  have hB0 : Below w.heap.size w (((w.alloc (celO W a n c 24)).alloc (.cells #[.int .i64 s, .int .i64 t] 26)).alloc (.cells #[.int .i64 s2, .int .i64 t2] 26)) := ((((Below.refl w.heap.size w).alloc (Nat.le_refl _) _).alloc (by simp <;> omega) _).alloc (by simp <;> omega) _)
  go_wp2_with fail
  refine (szCells_out W a n c _ h hn).mono ?_
  rintro e w1 ⟨rfl, hb1⟩
  have hB1 := stepA hB0 hb1
  go_wp2
  go_ret
  exact ⟨rfl, hB1⟩
theorem jointAll (W : Int) (a : Option Addr) (n c : Nat) (f : Nat → Int) (s t s2 t2 : Int) (w : World) (hn : n ≤ 9223372036854775807) (hf : IL w a n f)
    (hT : Tab w) (hI : n ≤ 1048576 → ∀ (a : Option Addr) (c : Nat) (w : World), Tab w → IL w a n f → Calls Tryd.prog 8 #[cel W a n c, tpv s t, tpv s2 t2] w fun e w' => ∃ d, e = .returned (.int .i64 d) ∧ JntIs W n f s t s2 t2 d ∧ Below w.heap.size w w') :
    Calls Tryd.prog 3 #[cel W a n c, tpv s t, tpv s2 t2] w fun e w' => e = .returned (.bool true) ∧ Below w.heap.size w w' := by
  by_cases h : n ≤ 1048576
  · exact jointLaw W a n c f s t s2 t2 w h hf hT (hI h)
  · exact jointLaw_long W a n c s t s2 t2 w (by omega) hn
end Go.Proofs.YtbndhhjgjalecabDoor
