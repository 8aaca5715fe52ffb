/- A ray over counts, as the specification adds it. -/
import Derived.Test.YtnoaonflphameaaRyImplB
import Derived.Test.YtnoaonflphameaaRySpG
import Derived.Test.YtnoaonflphameaaSzHas
namespace Go.Proofs.Ytnoaonflphameaa
open Go.RowKit

set_option maxHeartbeats 8000000 in
set_option maxRecDepth 20000 in
theorem specRay_no1 (W : Int) (a b : Option Addr) (n c m d : Nat) (f g : Nat → Int) (x1 y1 x2 y2 : Int) (hit : Bool) (w : World) (hn : n ≤ 1048576) (hm : m ≤ 1048576) (hf : IL w a n f) (hg : IL w b m g) (hc : cntB W n f m g = false) :
    Calls Try.prog 10 #[cnt W a n c b m d, .int .i64 x1, .int .i64 y1, .int .i64 x2, .int .i64 y2, .bool hit] w fun e w' => AnsA w w' e W n (rayF f (rid W x1 y1 x2 y2) (rN x1 y1 x2 y2) hit) (rayG g (rid W x1 y1 x2 y2) (rN x1 y1 x2 y2) hit) (rayQ W n f m g x1 y1 x2 y2 hit) ∧ Below w.heap.size w w' := by
  have hq : rayQ W n f m g x1 y1 x2 y2 hit = false := rayQ_no (rayB_no1 hc)
  have hgd := specGoodC W a b n c m d f g ((w.alloc (cntO W a n c b m d 25)).alloc (cntO 0 none 0 0 none 0 0 25)) hn hm ((hf.alloc _).alloc _) ((hg.alloc _).alloc _)
  have bA0 := (bx_new (w := w) (cntL W a n c b m d) 25 rfl).alloc (cntO 0 none 0 0 none 0 0 25)
  have bR0 := bx_new (w := w.alloc (cntO W a n c b m d 25)) (b := w.heap.size + 1) (cntL 0 none 0 0 none 0 0) 25 (by simp)
  rw [hc] at hgd
  go_enter Try.func10, Try.ntmps10
  go_wp2_with fail
  refine hgd.mono ?_
  rintro e w1 ⟨rfl, hb1⟩
  have hB := below_al (below_al hb1)
  have bA := bA0.on hb1
  have bR := bR0.on hb1
  clear hgd bA0 bR0 hb1
  obtain ⟨q0, q1, q2⟩ := cnt_three bA
  obtain ⟨r0, r1, r2⟩ := cnt_three bR
  have f0 := bR.fz 0
  have f1 := bR.fz 1
  have f2 := bR.fz 2
  have bE := bR.set3 (.int .i64 0) (.slice none 0 0) (.slice none 0 0)
  have hBE := below_three hB (b := w.heap.size + 1) (by omega) (.int .i64 0) (.slice none 0 0) (.slice none 0 0)
  clear bA bR
  go_wp2
  refine ret_cnt_tmp Try.results10 rfl bE.c0 bE.c1 bE.c2 rfl ?_
  exact ⟨ansA_nil (hq) hBE.size, hBE⟩
set_option maxHeartbeats 8000000 in
set_option maxRecDepth 20000 in
theorem specRay_no2 (W : Int) (a b : Option Addr) (n c m d : Nat) (f g : Nat → Int) (x1 y1 x2 y2 : Int) (hit : Bool) (w : World) (hn : n ≤ 1048576) (hm : m ≤ 1048576) (hf : IL w a n f) (hg : IL w b m g) (hc : cntB W n f m g = true) (h1 : hvB W (hgt W n) x1 y1 = false) :
    Calls Try.prog 10 #[cnt W a n c b m d, .int .i64 x1, .int .i64 y1, .int .i64 x2, .int .i64 y2, .bool hit] w fun e w' => AnsA w w' e W n (rayF f (rid W x1 y1 x2 y2) (rN x1 y1 x2 y2) hit) (rayG g (rid W x1 y1 x2 y2) (rN x1 y1 x2 y2) hit) (rayQ W n f m g x1 y1 x2 y2 hit) ∧ Below w.heap.size w w' := by
  have hq : rayQ W n f m g x1 y1 x2 y2 hit = false := rayQ_no (rayB_no2 h1)
  have hs1 := fun w => has_any W n x1 y1 w (sizedB_t (cntB_parts hc).1).1 hn
  rw [h1] at hs1
  have hgd := specGoodC W a b n c m d f g ((w.alloc (cntO W a n c b m d 25)).alloc (cntO 0 none 0 0 none 0 0 25)) hn hm ((hf.alloc _).alloc _) ((hg.alloc _).alloc _)
  have bA0 := (bx_new (w := w) (cntL W a n c b m d) 25 rfl).alloc (cntO 0 none 0 0 none 0 0 25)
  have bR0 := bx_new (w := w.alloc (cntO W a n c b m d 25)) (b := w.heap.size + 1) (cntL 0 none 0 0 none 0 0) 25 (by simp)
  rw [hc] at hgd
  go_enter Try.func10, Try.ntmps10
  go_wp2_with fail
  refine hgd.mono ?_
  rintro e w1 ⟨rfl, hb1⟩
  have hB := below_al (below_al hb1)
  have bA := bA0.on hb1
  have bR := bR0.on hb1
  clear hgd bA0 bR0 hb1
  obtain ⟨q0, q1, q2⟩ := cnt_three bA
  go_wp2_with fail
  refine (hs1 _).mono ?_
  rintro e w' ⟨rfl, hw'⟩
  have hs := hw'.symm
  clear hw'
  subst hs
  obtain ⟨r0, r1, r2⟩ := cnt_three bR
  have f0 := bR.fz 0
  have f1 := bR.fz 1
  have f2 := bR.fz 2
  have bE := bR.set3 (.int .i64 0) (.slice none 0 0) (.slice none 0 0)
  have hBE := below_three hB (b := w.heap.size + 1) (by omega) (.int .i64 0) (.slice none 0 0) (.slice none 0 0)
  clear bA bR
  go_wp2
  refine ret_cnt_tmp Try.results10 rfl bE.c0 bE.c1 bE.c2 rfl ?_
  exact ⟨ansA_nil (hq) hBE.size, hBE⟩
set_option maxHeartbeats 8000000 in
set_option maxRecDepth 20000 in
theorem specRay_no3 (W : Int) (a b : Option Addr) (n c m d : Nat) (f g : Nat → Int) (x1 y1 x2 y2 : Int) (hit : Bool) (w : World) (hn : n ≤ 1048576) (hm : m ≤ 1048576) (hf : IL w a n f) (hg : IL w b m g) (hc : cntB W n f m g = true) (h1 : hvB W (hgt W n) x1 y1 = true) (h2 : hvB W (hgt W n) x2 y2 = false) :
    Calls Try.prog 10 #[cnt W a n c b m d, .int .i64 x1, .int .i64 y1, .int .i64 x2, .int .i64 y2, .bool hit] w fun e w' => AnsA w w' e W n (rayF f (rid W x1 y1 x2 y2) (rN x1 y1 x2 y2) hit) (rayG g (rid W x1 y1 x2 y2) (rN x1 y1 x2 y2) hit) (rayQ W n f m g x1 y1 x2 y2 hit) ∧ Below w.heap.size w w' := by
  have hq : rayQ W n f m g x1 y1 x2 y2 hit = false := rayQ_no (rayB_no3 h2)
  have hs1 := fun w => has_any W n x1 y1 w (sizedB_t (cntB_parts hc).1).1 hn
  rw [h1] at hs1
  have hs2 := fun w => has_any W n x2 y2 w (sizedB_t (cntB_parts hc).1).1 hn
  rw [h2] at hs2
  have hgd := specGoodC W a b n c m d f g ((w.alloc (cntO W a n c b m d 25)).alloc (cntO 0 none 0 0 none 0 0 25)) hn hm ((hf.alloc _).alloc _) ((hg.alloc _).alloc _)
  have bA0 := (bx_new (w := w) (cntL W a n c b m d) 25 rfl).alloc (cntO 0 none 0 0 none 0 0 25)
  have bR0 := bx_new (w := w.alloc (cntO W a n c b m d 25)) (b := w.heap.size + 1) (cntL 0 none 0 0 none 0 0) 25 (by simp)
  rw [hc] at hgd
  go_enter Try.func10, Try.ntmps10
  go_wp2_with fail
  refine hgd.mono ?_
  rintro e w1 ⟨rfl, hb1⟩
  have hB := below_al (below_al hb1)
  have bA := bA0.on hb1
  have bR := bR0.on hb1
  clear hgd bA0 bR0 hb1
  obtain ⟨q0, q1, q2⟩ := cnt_three bA
  go_wp2_with fail
  refine (hs1 _).mono ?_
  rintro e w' ⟨rfl, hw'⟩
  have hs := hw'.symm
  clear hw'
  subst hs
  go_wp2_with fail
  refine (hs2 _).mono ?_
  rintro e w' ⟨rfl, hw'⟩
  have hs := hw'.symm
  clear hw'
  subst hs
  obtain ⟨r0, r1, r2⟩ := cnt_three bR
  have f0 := bR.fz 0
  have f1 := bR.fz 1
  have f2 := bR.fz 2
  have bE := bR.set3 (.int .i64 0) (.slice none 0 0) (.slice none 0 0)
  have hBE := below_three hB (b := w.heap.size + 1) (by omega) (.int .i64 0) (.slice none 0 0) (.slice none 0 0)
  clear bA bR
  go_wp2
  refine ret_cnt_tmp Try.results10 rfl bE.c0 bE.c1 bE.c2 rfl ?_
  exact ⟨ansA_nil (hq) hBE.size, hBE⟩
end Go.Proofs.Ytnoaonflphameaa
