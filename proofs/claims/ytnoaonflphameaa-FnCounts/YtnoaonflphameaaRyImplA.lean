/- A ray over counts, as the program adds it. -/
import Derived.Test.YtnoaonflphameaaRyAns
import Derived.Test.YtnoaonflphameaaRyClone
import Derived.Test.YtnoaonflphameaaLnImpl
import Derived.Deep.RegionHeld
namespace Go.Proofs.Ytnoaonflphameaa
open Go.RowKit

abbrev sdL (W H : Int) : List Value := [.int .i64 W, .int .i64 H]
theorem cnt_three {w : World} {b : Nat} {W : Int} {p : Option Addr} {n c : Nat} {q : Option Addr} {m d : Nat} (h : Bx w b (cntL W p n c q m d)) : w.cell? ⟨b, 0, none⟩ = some (.int .i64 W) ∧ w.cell? ⟨b, 1, none⟩ = some (.slice p n c) ∧ w.cell? ⟨b, 2, none⟩ = some (.slice q m d) := ⟨h.c0, h.c1, h.c2⟩
theorem Bx.set3 {w : World} {b : Nat} {x y z : Value} (h : Bx w b [x, y, z]) (u v t : Value) : Bx (((w.setCell ⟨b, 0, none⟩ u).setCell ⟨b, 1, none⟩ v).setCell ⟨b, 2, none⟩ t) b [u, v, t] :=
  ((h.set 0 (by simp) u).set 1 (by simp) v).set 2 (by simp) t
theorem bx_three {w : World} {b b' : Nat} {vs : List Value} (h : Bx w b vs) (hn : b ≠ b') (x y z : Value) : Bx (((w.setCell ⟨b', 0, none⟩ x).setCell ⟨b', 1, none⟩ y).setCell ⟨b', 2, none⟩ z) b vs := ((h.far _ hn).far _ hn).far _ hn
theorem below_three {B b : Nat} {w w1 : World} (h : Below B w w1) (hb : B ≤ b) (x y z : Value) : Below B w (((w1.setCell ⟨b, 0, none⟩ x).setCell ⟨b, 1, none⟩ y).setCell ⟨b, 2, none⟩ z) :=
  ((h.setCell (p := ⟨b, 0, none⟩) hb _).setCell (p := ⟨b, 1, none⟩) hb _).setCell (p := ⟨b, 2, none⟩) hb _
theorem ip_far {w : World} {b b' k n : Nat} {F : Nat → Int} (h : IP w b n F) (hn : b ≠ b') (v : Value) : IP (w.setCell ⟨b', k, none⟩ v) b n F :=
  h.only ((Only.refl b' w).set k v) hn
theorem ip_three {w : World} {b b' n : Nat} {F : Nat → Int} (h : IP w b n F) (hn : b ≠ b') (x y z : Value) : IP (((w.setCell ⟨b', 0, none⟩ x).setCell ⟨b', 1, none⟩ y).setCell ⟨b', 2, none⟩ z) b n F := ip_far (ip_far (ip_far h hn x) hn y) hn z
set_option maxHeartbeats 4000000 in
set_option maxRecDepth 20000 in
theorem implRay_no1 (W : Int) (a b : Option Addr) (n c m d : Nat) (f g : Nat → Int) (x1 y1 x2 y2 : Int) (hit : Bool) (w : World) (hn : n ≤ 1048576) (hm : m ≤ 1048576) (hf : IL w a n f) (hg : IL w b m g) (hc : cntB W n f m g = false) :
    Calls Try.prog 9 #[cnt W a n c b m d, .int .i64 x1, .int .i64 y1, .int .i64 x2, .int .i64 y2, .bool hit] w fun e w' => AnsA w w' e W n (rayF f (rid W x1 y1 x2 y2) (rN x1 y1 x2 y2) hit) (rayG g (rid W x1 y1 x2 y2) (rN x1 y1 x2 y2) hit) (rayQ W n f m g x1 y1 x2 y2 hit) ∧ Below w.heap.size w w' := by
  have hq : rayQ W n f m g x1 y1 x2 y2 hit = false := rayQ_no (rayB_no1 hc)
  have hsd := sidesOf_any W a b n c m d f g ((w.alloc (cntO W a n c b m d 25)).alloc (cntO 0 none 0 0 none 0 0 25)) hn hm ((hf.alloc _).alloc _) ((hg.alloc _).alloc _)
  have bA0 := (bx_new (w := w) (cntL W a n c b m d) 25 rfl).alloc (cntO 0 none 0 0 none 0 0 25)
  have bR0 := bx_new (w := w.alloc (cntO W a n c b m d 25)) (b := w.heap.size + 1) (cntL 0 none 0 0 none 0 0) 25 (by simp)
  rw [hc] at hsd
  generalize (sof W n m).1 = s1 at hsd
  generalize (sof W n m).2 = s2 at hsd
  go_enter Try.func9, Try.ntmps9
  go_wp2_with fail
  refine hsd.mono ?_
  rintro e w1 ⟨rfl, hb1⟩
  have hB1 := below_al (below_al hb1)
  have bA1 := bA0.on hb1
  have bR1 := bR0.on hb1
  clear hsd bA0 bR0 hb1
  go_upto_region 2 with fail
  have hA1 := (Below.refl w1.heap.size w1).alloc (Nat.le_refl _) (.cells #[.int .i64 s1, .int .i64 s2] 67)
  have bS := bx_new (b := w1.heap.size) (w := w1) (sdL s1 s2) 67 rfl
  have bA := bA1.on hA1
  have bR := bR1.on hA1
  have hB := stepA hB1 hA1
  have hlS : w.heap.size + 1 < w1.heap.size := bR1.lt
  clear bA1 bR1 hB1 hA1
  generalize w1.alloc (.cells #[.int .i64 s1, .int .i64 s2] 67) = w2 at bS bA bR hB ⊢
  generalize w1.heap.size = Sb at bS hlS ⊢
  obtain ⟨r0, r1, r2⟩ := cnt_three bR
  have f0 := bR.fz 0
  have f1 := bR.fz 1
  have f2 := bR.fz 2
  have bE := bR.set3 (.int .i64 0) (.slice none 0 0) (.slice none 0 0)
  have hBE := below_three hB (b := w.heap.size + 1) (by omega) (.int .i64 0) (.slice none 0 0) (.slice none 0 0)
  clear bA bS bR
  go_wp2
  refine ret_cnt_tmp Try.results9 rfl bE.c0 bE.c1 bE.c2 rfl ?_
  exact ⟨ansA_nil (hq) hBE.size, hBE⟩
set_option maxHeartbeats 4000000 in
set_option maxRecDepth 20000 in
theorem implRay_no2 (W : Int) (a b : Option Addr) (n c m d : Nat) (f g : Nat → Int) (x1 y1 x2 y2 : Int) (hit : Bool) (w : World) (hn : n ≤ 1048576) (hm : m ≤ 1048576) (hf : IL w a n f) (hg : IL w b m g) (hc : cntB W n f m g = true) (h1 : hvB W (hgt W n) x1 y1 = false) :
    Calls Try.prog 9 #[cnt W a n c b m d, .int .i64 x1, .int .i64 y1, .int .i64 x2, .int .i64 y2, .bool hit] w fun e w' => AnsA w w' e W n (rayF f (rid W x1 y1 x2 y2) (rN x1 y1 x2 y2) hit) (rayG g (rid W x1 y1 x2 y2) (rN x1 y1 x2 y2) hit) (rayQ W n f m g x1 y1 x2 y2 hit) ∧ Below w.heap.size w w' := by
  have hq : rayQ W n f m g x1 y1 x2 y2 hit = false := rayQ_no (rayB_no2 h1)
  have hsd := sidesOf_any W a b n c m d f g ((w.alloc (cntO W a n c b m d 25)).alloc (cntO 0 none 0 0 none 0 0 25)) hn hm ((hf.alloc _).alloc _) ((hg.alloc _).alloc _)
  have bA0 := (bx_new (w := w) (cntL W a n c b m d) 25 rfl).alloc (cntO 0 none 0 0 none 0 0 25)
  have bR0 := bx_new (w := w.alloc (cntO W a n c b m d 25)) (b := w.heap.size + 1) (cntL 0 none 0 0 none 0 0) 25 (by simp)
  rw [sof_t hc, hc] at hsd
  simp only at hsd
  generalize hH : hgt W n = H at hsd h1 
  go_enter Try.func9, Try.ntmps9
  go_wp2_with fail
  refine hsd.mono ?_
  rintro e w1 ⟨rfl, hb1⟩
  have hB1 := below_al (below_al hb1)
  have bA1 := bA0.on hb1
  have bR1 := bR0.on hb1
  clear hsd bA0 bR0 hb1
  go_upto_region 2 with fail
  have hA1 := (Below.refl w1.heap.size w1).alloc (Nat.le_refl _) (.cells #[.int .i64 W, .int .i64 H] 67)
  have bS := bx_new (b := w1.heap.size) (w := w1) (sdL W H) 67 rfl
  have bA := bA1.on hA1
  have bR := bR1.on hA1
  have hB := stepA hB1 hA1
  have hlS : w.heap.size + 1 < w1.heap.size := bR1.lt
  clear bA1 bR1 hB1 hA1
  generalize w1.alloc (.cells #[.int .i64 W, .int .i64 H] 67) = w2 at bS bA bR hB ⊢
  generalize w1.heap.size = Sb at bS hlS ⊢
  have hv1 := fun w => have_any W H x1 y1 w
  rw [h1] at hv1
  have v0 := bS.c0
  have v1 := bS.c1
  go_wp2_with fail
  refine (hv1 _).mono ?_
  rintro e w3 ⟨rfl, hbn⟩
  replace bS := bS.on hbn
  replace bA := bA.on hbn
  replace bR := bR.on hbn
  replace hB := stepA hB hbn
  clear hbn v0 v1
  obtain ⟨r0, r1, r2⟩ := cnt_three bR
  have f0 := bR.fz 0
  have f1 := bR.fz 1
  have f2 := bR.fz 2
  have bE := bR.set3 (.int .i64 0) (.slice none 0 0) (.slice none 0 0)
  have hBE := below_three hB (b := w.heap.size + 1) (by omega) (.int .i64 0) (.slice none 0 0) (.slice none 0 0)
  clear bA bS bR
  go_wp2
  refine ret_cnt_tmp Try.results9 rfl bE.c0 bE.c1 bE.c2 rfl ?_
  exact ⟨ansA_nil (hq) hBE.size, hBE⟩
set_option maxHeartbeats 4000000 in
set_option maxRecDepth 20000 in
theorem implRay_no3 (W : Int) (a b : Option Addr) (n c m d : Nat) (f g : Nat → Int) (x1 y1 x2 y2 : Int) (hit : Bool) (w : World) (hn : n ≤ 1048576) (hm : m ≤ 1048576) (hf : IL w a n f) (hg : IL w b m g) (hc : cntB W n f m g = true) (h1 : hvB W (hgt W n) x1 y1 = true) (h2 : hvB W (hgt W n) x2 y2 = false) :
    Calls Try.prog 9 #[cnt W a n c b m d, .int .i64 x1, .int .i64 y1, .int .i64 x2, .int .i64 y2, .bool hit] w fun e w' => AnsA w w' e W n (rayF f (rid W x1 y1 x2 y2) (rN x1 y1 x2 y2) hit) (rayG g (rid W x1 y1 x2 y2) (rN x1 y1 x2 y2) hit) (rayQ W n f m g x1 y1 x2 y2 hit) ∧ Below w.heap.size w w' := by
  have hq : rayQ W n f m g x1 y1 x2 y2 hit = false := rayQ_no (rayB_no3 h2)
  have hsd := sidesOf_any W a b n c m d f g ((w.alloc (cntO W a n c b m d 25)).alloc (cntO 0 none 0 0 none 0 0 25)) hn hm ((hf.alloc _).alloc _) ((hg.alloc _).alloc _)
  have bA0 := (bx_new (w := w) (cntL W a n c b m d) 25 rfl).alloc (cntO 0 none 0 0 none 0 0 25)
  have bR0 := bx_new (w := w.alloc (cntO W a n c b m d 25)) (b := w.heap.size + 1) (cntL 0 none 0 0 none 0 0) 25 (by simp)
  rw [sof_t hc, hc] at hsd
  simp only at hsd
  generalize hH : hgt W n = H at hsd h1 h2
  go_enter Try.func9, Try.ntmps9
  go_wp2_with fail
  refine hsd.mono ?_
  rintro e w1 ⟨rfl, hb1⟩
  have hB1 := below_al (below_al hb1)
  have bA1 := bA0.on hb1
  have bR1 := bR0.on hb1
  clear hsd bA0 bR0 hb1
  go_upto_region 2 with fail
  have hA1 := (Below.refl w1.heap.size w1).alloc (Nat.le_refl _) (.cells #[.int .i64 W, .int .i64 H] 67)
  have bS := bx_new (b := w1.heap.size) (w := w1) (sdL W H) 67 rfl
  have bA := bA1.on hA1
  have bR := bR1.on hA1
  have hB := stepA hB1 hA1
  have hlS : w.heap.size + 1 < w1.heap.size := bR1.lt
  clear bA1 bR1 hB1 hA1
  generalize w1.alloc (.cells #[.int .i64 W, .int .i64 H] 67) = w2 at bS bA bR hB ⊢
  generalize w1.heap.size = Sb at bS hlS ⊢
  have hv1 := fun w => have_any W H x1 y1 w
  rw [h1] at hv1
  have hv2 := fun w => have_any W H x2 y2 w
  rw [h2] at hv2
  have v0 := bS.c0
  have v1 := bS.c1
  go_wp2_with fail
  refine (hv1 _).mono ?_
  rintro e w3 ⟨rfl, hbn⟩
  replace bS := bS.on hbn
  replace bA := bA.on hbn
  replace bR := bR.on hbn
  replace hB := stepA hB hbn
  clear hbn v0 v1
  have v0 := bS.c0
  have v1 := bS.c1
  go_wp2_with fail
  refine (hv2 _).mono ?_
  rintro e w4 ⟨rfl, hbn⟩
  replace bS := bS.on hbn
  replace bA := bA.on hbn
  replace bR := bR.on hbn
  replace hB := stepA hB hbn
  clear hbn v0 v1
  obtain ⟨r0, r1, r2⟩ := cnt_three bR
  have f0 := bR.fz 0
  have f1 := bR.fz 1
  have f2 := bR.fz 2
  have bE := bR.set3 (.int .i64 0) (.slice none 0 0) (.slice none 0 0)
  have hBE := below_three hB (b := w.heap.size + 1) (by omega) (.int .i64 0) (.slice none 0 0) (.slice none 0 0)
  clear bA bS bR
  go_wp2
  refine ret_cnt_tmp Try.results9 rfl bE.c0 bE.c1 bE.c2 rfl ?_
  exact ⟨ansA_nil (hq) hBE.size, hBE⟩
end Go.Proofs.Ytnoaonflphameaa
