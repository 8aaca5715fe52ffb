/- What a sender sends next, as the program says it (tools/gen_tasn2.py). -/
import Derived.Test.YtbhfkhlhfpmkmaaTaSnB
import Derived.Test.YtbhfkhlhfpmkmaaTaKlI
import Derived.BigRegion
import Derived.BigQuiet
namespace Go.Proofs.Ytbhfkhlhfpmkmaa
open Go.RowKit
theorem iDone (a : Option Addr) (n c : Nat) (k t : Int) (w : World) :
    Calls Try.prog 51 #[snv a n c k t] w fun e w' => e = .returned (.bool (decide (k = (n : Int)))) ∧ Below w.heap.size w w' := by
  have hB : Below w.heap.size w (w.alloc (snO a n c k t 44)) := (Below.refl _ _).alloc (Nat.le_refl _) _
  by_cases h : k = (n : Int)
  · rw [decide_eq_true h]
    have j : (k == (n : Int)) = true := by simp [h]
    clear h
    go_enter Try.func51, Try.ntmps51
    go_wp2
    go_ret
    exact ⟨rfl, hB⟩
  · rw [decide_eq_false h]
    have j : (k == (n : Int)) = false := by simp [h]
    clear h
    go_enter Try.func51, Try.ntmps51
    go_wp2
    go_ret
    exact ⟨rfl, hB⟩
set_option maxRecDepth 20000 in
set_option maxHeartbeats 4000000 in
theorem iSend_no (a : Option Addr) (n c : Nat) (k t d : Int) (f : Nat → Int) (w : World) (hq : snQ n k t d = false) :
    Calls Try.prog 21 #[snv a n c k t, .int .i64 d] w fun e w' => AnsSn w w' e n f k t d ∧ Below w.heap.size w w' := by
  obtain ⟨c0, c1, c2, hB0⟩ := boxes_sn a n c k t w
  have x0 := c0.c0
  have x1 := c0.c1
  have x2 := c0.c2
  have y0 := c1.c0
  have y1 := c1.c1
  have y2 := c2.c0
  have y3 := c2.c1
  have y4 := c2.c2
  have f0 := c1.fz 0
  have f1 := c1.fz 1
  have f2 := c2.fz 0
  have f3 := c2.fz 1
  have f4 := c2.fz 2
  have HQ : Hid (snQ n k t d = false) := hq
  cases hg : gsB n k t
  case false =>
    clear hq
    go_enter Try.func21, Try.ntmps21
    go_wp2_with fail
    refine (iSender a n c k t _).mono ?_
    rintro e w1 ⟨rfl, hb1⟩
    rw [hg]
    have d0 := c0.on hb1
    have d1 := c1.on hb1
    have d2 := c2.on hb1
    have hB1 := stepA hB0 hb1
    clear x0 x1 x2 y0 y1 y2 y3 y4 f0 f1 f2 f3 f4
    clear c0 c1 c2 hb1 hB0
    have c0 := d0
    have c1 := d1
    have c2 := d2
    clear d0 d1 d2
    have x0 := c0.c0
    have x1 := c0.c1
    have x2 := c0.c2
    have y0 := c1.c0
    have y1 := c1.c1
    have y2 := c2.c0
    have y3 := c2.c1
    have y4 := c2.c2
    have f0 := c1.fz 0
    have f1 := c1.fz 1
    have f2 := c2.fz 0
    have f3 := c2.fz 1
    have f4 := c2.fz 2
    go_wp2_with fail
    obtain ⟨r1, r2⟩ := five c1 c2 (by omega) (.int .i64 0) (.int .i64 0) (.slice none 0 0) (.int .i64 0) (.int .i64 0)
    refine ret_send Try.results21 rfl rfl r1 r2 rfl ?_
    exact ⟨ansSn_no HQ.out, five_below hB1 (by omega) (by omega) _ _ _ _ _⟩
  by_cases hk : k = (n : Int)
  case pos =>
    have j1 : decide (k = (n : Int)) = true := decide_eq_true hk
    clear hq hk
    go_enter Try.func21, Try.ntmps21
    go_wp2_with fail
    refine (iSender a n c k t _).mono ?_
    rintro e w1 ⟨rfl, hb1⟩
    rw [hg]
    have d0 := c0.on hb1
    have d1 := c1.on hb1
    have d2 := c2.on hb1
    have hB1 := stepA hB0 hb1
    clear x0 x1 x2 y0 y1 y2 y3 y4 f0 f1 f2 f3 f4
    clear c0 c1 c2 hb1 hB0
    have c0 := d0
    have c1 := d1
    have c2 := d2
    clear d0 d1 d2
    have x0 := c0.c0
    have x1 := c0.c1
    have x2 := c0.c2
    have y0 := c1.c0
    have y1 := c1.c1
    have y2 := c2.c0
    have y3 := c2.c1
    have y4 := c2.c2
    have f0 := c1.fz 0
    have f1 := c1.fz 1
    have f2 := c2.fz 0
    have f3 := c2.fz 1
    have f4 := c2.fz 2
    go_wp2_with fail
    refine (iDone a n c k t _).mono ?_
    rintro e w2 ⟨rfl, hb2⟩
    rw [j1]
    have d0 := c0.on hb2
    have d1 := c1.on hb2
    have d2 := c2.on hb2
    have hB2 := stepA hB1 hb2
    clear x0 x1 x2 y0 y1 y2 y3 y4 f0 f1 f2 f3 f4
    clear c0 c1 c2 hb2 hB1
    have c0 := d0
    have c1 := d1
    have c2 := d2
    clear d0 d1 d2
    have x0 := c0.c0
    have x1 := c0.c1
    have x2 := c0.c2
    have y0 := c1.c0
    have y1 := c1.c1
    have y2 := c2.c0
    have y3 := c2.c1
    have y4 := c2.c2
    have f0 := c1.fz 0
    have f1 := c1.fz 1
    have f2 := c2.fz 0
    have f3 := c2.fz 1
    have f4 := c2.fz 2
    go_wp2_with fail
    obtain ⟨r1, r2⟩ := five c1 c2 (by omega) (.int .i64 0) (.int .i64 0) (.slice none 0 0) (.int .i64 0) (.int .i64 0)
    refine ret_send Try.results21 rfl rfl r1 r2 rfl ?_
    exact ⟨ansSn_no HQ.out, five_below hB2 (by omega) (by omega) _ _ _ _ _⟩
  have j1 : decide (k = (n : Int)) = false := decide_eq_false hk
  have h2 : dpB d = false := by
    cases e : dpB d with
    | false => rfl
    | true =>
      exfalso
      have : snQ n k t d = true := by simp only [dpB, Bool.and_eq_true, decide_eq_true_eq] at e; simp [snQ, hg, hk, e.1, e.2]
      rw [this] at hq
      cases hq
  clear hq hk
  go_enter Try.func21, Try.ntmps21
  go_wp2_with fail
  refine (iSender a n c k t _).mono ?_
  rintro e w1 ⟨rfl, hb1⟩
  rw [hg]
  have d0 := c0.on hb1
  have d1 := c1.on hb1
  have d2 := c2.on hb1
  have hB1 := stepA hB0 hb1
  clear x0 x1 x2 y0 y1 y2 y3 y4 f0 f1 f2 f3 f4
  clear c0 c1 c2 hb1 hB0
  have c0 := d0
  have c1 := d1
  have c2 := d2
  clear d0 d1 d2
  have x0 := c0.c0
  have x1 := c0.c1
  have x2 := c0.c2
  have y0 := c1.c0
  have y1 := c1.c1
  have y2 := c2.c0
  have y3 := c2.c1
  have y4 := c2.c2
  have f0 := c1.fz 0
  have f1 := c1.fz 1
  have f2 := c2.fz 0
  have f3 := c2.fz 1
  have f4 := c2.fz 2
  go_wp2_with fail
  refine (iDone a n c k t _).mono ?_
  rintro e w2 ⟨rfl, hb2⟩
  rw [j1]
  have d0 := c0.on hb2
  have d1 := c1.on hb2
  have d2 := c2.on hb2
  have hB2 := stepA hB1 hb2
  clear x0 x1 x2 y0 y1 y2 y3 y4 f0 f1 f2 f3 f4
  clear c0 c1 c2 hb2 hB1
  have c0 := d0
  have c1 := d1
  have c2 := d2
  clear d0 d1 d2
  have x0 := c0.c0
  have x1 := c0.c1
  have x2 := c0.c2
  have y0 := c1.c0
  have y1 := c1.c1
  have y2 := c2.c0
  have y3 := c2.c1
  have y4 := c2.c2
  have f0 := c1.fz 0
  have f1 := c1.fz 1
  have f2 := c2.fz 0
  have f3 := c2.fz 1
  have f4 := c2.fz 2
  go_wp2_with fail
  refine (goodDepth_any d _).mono ?_
  rintro e w9 ⟨rfl, hw9⟩
  have hs9 := hw9.symm
  clear hw9
  subst hs9
  rw [h2]
  go_wp2_with fail
  obtain ⟨r1, r2⟩ := five c1 c2 (by omega) (.int .i64 0) (.int .i64 0) (.slice none 0 0) (.int .i64 0) (.int .i64 0)
  refine ret_send Try.results21 rfl rfl r1 r2 rfl ?_
  exact ⟨ansSn_no HQ.out, five_below hB2 (by omega) (by omega) _ _ _ _ _⟩
end Go.Proofs.Ytbhfkhlhfpmkmaa
