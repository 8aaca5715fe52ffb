/- The walk of the law on PolyAt. -/
import Derived.Test.YtgcnkecfdmafdaaPtMulLaw
import Derived.Test.YtgcnkecfdmafdaaPtPoly
namespace Go.Proofs.Ytgcnkecfdmafdaa
open Go.RowKit

theorem keep1 {w w1 w2 : World} {x y : Nat} (p0 : w1.cell? ⟨w.heap.size, 0, none⟩ = some (.float .f64 x)) (p1 : w1.cell? ⟨w.heap.size, 1, none⟩ = some (.float .f64 y)) (hs : w.heap.size + 1 ≤ w1.heap.size) (hB : Below w.heap.size w w1) (k : Below (w.heap.size + 1) w1 w2) :
    w2.cell? ⟨w.heap.size, 0, none⟩ = some (.float .f64 x) ∧ w2.cell? ⟨w.heap.size, 1, none⟩ = some (.float .f64 y) ∧ w.heap.size + 1 ≤ w2.heap.size ∧ Below w.heap.size w w2 := by
  have e0 : w.heap.size < w.heap.size + 1 := by omega
  exact ⟨(k.cell (p := ⟨_, 0, none⟩) e0).trans p0, (k.cell (p := ⟨_, 1, none⟩) e0).trans p1, Nat.le_trans hs k.size, hB.trans (k.mono (by omega))⟩
theorem gB {N : Nat} {W w1 : World} (hs : N ≤ W.heap.size) (h : Below W.heap.size W w1) (o : Obj) : Below N W (w1.alloc o) := (h.mono hs).alloc (Nat.le_trans hs h.size) o
theorem gS {N : Nat} {W w1 : World} {g : Nat} {u v : Value} (hs : N ≤ W.heap.size) (h : Below W.heap.size W w1) (hg : N ≤ g) : Below N W ((w1.setCell ⟨g, 0, none⟩ u).setCell ⟨g, 1, none⟩ v) := ((h.mono hs).setCell (p := ⟨_, 0, none⟩) hg _).setCell (p := ⟨_, 1, none⟩) hg _
theorem gbox {N : Nat} {W w1 w2 : World} {t : TypeId} (hs : N ≤ W.heap.size) (h : Below W.heap.size W w1) (k : Below (w1.alloc (.cells #[.float .f64 0, .float .f64 0] t)).heap.size (w1.alloc (.cells #[.float .f64 0, .float .f64 0] t)) w2) :
    Below W.heap.size W w2 ∧ Box w2 w1.heap.size 0 0 ∧ N ≤ w1.heap.size :=
  ⟨(h.alloc h.size _).trans (k.mono (by rw [size_alloc]; exact Nat.le_succ_of_le h.size)), (box_new w1 0 0 t).below k (box_new w1 0 0 t).1, Nat.le_trans hs h.size⟩
theorem gboxd {N : Nat} {W w1 w2 : World} {t : TypeId} (hs : N ≤ W.heap.size) (h : Below W.heap.size W w1) (k : Below (w1.alloc (.cells #[.float .f64 0, .float .f64 0] t)).drew.heap.size (w1.alloc (.cells #[.float .f64 0, .float .f64 0] t)).drew w2) :
    Below W.heap.size W w2 ∧ Box w2 w1.heap.size 0 0 ∧ N ≤ w1.heap.size := gbox (t := t) hs h ((Below.refl _ _).drew.trans k)
theorem box1 (w : World) (x y : Nat) (s : TypeId) : let W := w.alloc (.cells #[.float .f64 x, .float .f64 y] s)
    W.cell? ⟨w.heap.size, 0, none⟩ = some (.float .f64 x) ∧ W.cell? ⟨w.heap.size, 1, none⟩ = some (.float .f64 y) ∧ w.heap.size + 1 ≤ W.heap.size ∧ Below w.heap.size w W ∧ Below W.heap.size W W := by
  intro W
  have h0 := box_new w x y s
  exact ⟨h0.c0, h0.c1, h0.lt, (Below.refl _ _).alloc (Nat.le_refl _) _, Below.refl _ _⟩

set_option maxHeartbeats 2000000 in
theorem atLaw (a : Option Addr) (len cap : Nat) (f : Nat → Nat) (x y : Nat) (w : World) (hL : len ≤ 1048576) (h : FS w a len f) (hx : x < 18446744073709551616) (hy : y < 18446744073709551616) :
    Calls Try.prog 5 #[.slice a len cap, pt x y] w fun e w' => e = .returned (.bool true) ∧ Below w.heap.size w w' := by
  obtain ⟨p0, p1, hs, hB, hw0⟩ := box1 w x y 24
  go_enter Try.func5, Try.ntmps5
  go_upto_region 3 with fail
  go_cut [5, 6] from 13 to 20 (fun s5 s6 wx => s6 = .bool (atT f len x y) ∧ ∃ g, s5 = .pointer (some ⟨g, 0, none⟩) ∧ w.heap.size + 1 ≤ g ∧ Box wx g (atX f len x y) (atY f len x y) ∧ wx.cell? ⟨w.heap.size, 0, none⟩ = some (.float .f64 x) ∧ wx.cell? ⟨w.heap.size, 1, none⟩ = some (.float .f64 y) ∧ w.heap.size + 1 ≤ wx.heap.size ∧ Below w.heap.size w wx)
  case first =>
    go_region_held3 (fun w' => w'.cell? ⟨w.heap.size, 0, none⟩ = some (.float .f64 x) ∧ w'.cell? ⟨w.heap.size, 1, none⟩ = some (.float .f64 y) ∧ w.heap.size + 1 ≤ w'.heap.size ∧ Below w.heap.size w w')
      (first | (exact keep1 p0 p1 hs hB (hw0.drew.mono hs)) | (exact keep1 p0 p1 hs hB (hw1.mono hs)) | (exact keep1 p0 p1 hs hB (hw2.mono hs)) | (exact keep1 p0 p1 hs hB (hw3.mono hs)) | (exact keep1 p0 p1 hs hB (gB hs hw0 _).drew) | (exact keep1 p0 p1 hs hB (gB hs hw1 _)) | (exact keep1 p0 p1 hs hB (gB hs hw2 _)) | (exact keep1 p0 p1 hs hB (gB hs hw3 _)) | (exact keep1 p0 p1 hs hB (gS hs hw3 ng)) | (exact keep1 p0 p1 hs hB (gS hs hw3 (Nat.le_refl _))) | (fail))
      (first | (go_at_call 16; refine (copy_any a len cap f _ (h.below (keep1 (w := w) p0 p1 hs hB (by first | exact hw0.drew.mono hs | exact (gB hs hw0 _).drew)).2.2.2)).mono ?_; rintro e w1 ⟨v1, rfl, rfl, hF, -, hbn⟩; (try simp at hF); (first | (have hw1 := stepA hw0.drew hbn; clear hbn) | (obtain ⟨hw1, nb, ng⟩ := gboxd hs hw0 hbn; clear hbn; (try simp at nb); (try simp at ng))))
             | (go_at_call 10; refine (toPoint_any x y _).mono ?_; rintro e w2 ⟨rfl, hbn⟩; (first | (have hw2 := stepA hw1 hbn; have hF := hF.below hbn; have nb := nb.below hbn nb.lt; clear hbn) | (have hw2 := stepA hw1 hbn; have hF := hF.below hbn; clear hbn) | (obtain ⟨hw2, nb, ng⟩ := gbox hs hw1 hbn; have hF := hF.below (below_new hbn); clear hbn; (try simp at nb); (try simp at ng))))
             | (go_at_call 15; refine (specAt_any _ len len f x y _ (by first | exact hF | exact hF.below ((Below.refl _ _).alloc (Nat.le_refl _) _)) hx hy).mono ?_; rintro e w3 ⟨rfl, hbn⟩; (first | (have hw3 := stepA hw2 hbn; have nb := nb.below hbn nb.lt; clear hbn) | (have hw3 := stepA hw2 hbn; clear hbn) | (obtain ⟨hw3, nb, ng⟩ := gbox hs hw2 hbn; clear hbn; (try simp at nb); (try simp at ng))); (try (have n1 := nb.c0; have n2 := nb.c1; have n3 := nb.f0; have n4 := nb.f1))))
    all_goals
      go_wp2_with fail
      go_meet
      case rel =>
        first
        | exact ⟨rfl, _, rfl, Nat.le_trans hs hw3.size, box_new _ _ _ _, keep1 p0 p1 hs hB (gB hs hw3 _)⟩
        | exact ⟨rfl, _, rfl, ng, nb.set, keep1 p0 p1 hs hB (gS hs hw3 ng)⟩
        | exact ⟨rfl, _, rfl, Nat.le_refl _, nb.set, keep1 p0 p1 hs hB (gS hs hw3 (Nat.le_refl _))⟩
  case rest =>
    clear p0 p1 hs hB hw0
    obtain ⟨rfl, g, rfl, hg, hbox, p0, p1, hs, hB⟩ := hcut
    go_wp2_with fail
    refine (copy_any a len cap f _ (h.below hB)).mono ?_
    rintro e w1 ⟨v1, rfl, rfl, hF, -, hb1⟩
    have hbox1 := hbox.below hb1 hbox.lt
    obtain ⟨p0, p1, hs, hB⟩ := keep1 p0 p1 hs hB (hb1.mono hs)
    clear hbox hb1
    go_upto_region 5 with fail
    go_cut [8, 9] from 23 to 29 (fun s8 s9 wx => s9 = .bool (atT f len x y) ∧ ∃ g', s8 = .pointer (some ⟨g', 0, none⟩) ∧ Box wx g' (atX f len x y) (atY f len x y) ∧ Box wx g (atX f len x y) (atY f len x y) ∧ Below w1.heap.size w1 wx)
    case first =>
      go_wp2_with fail
      refine (toPoint_any x y _).mono ?_
      rintro e w2 ⟨rfl, hb2⟩
      have hF2 := hF.below hb2
      go_wp2_with fail
      refine (implAt_any _ len len f x y _ hF2 hx hy).mono ?_
      rintro e w3 ⟨rfl, hb3⟩
      have hb3' := stepA hb2 hb3
      clear hb2 hb3 hF2
      go_wp2_with fail
      go_meet
      case rel => exact ⟨rfl, _, rfl, box_new _ _ _ _, (hbox1.below hb3' hbox1.lt).alloc _, hb3'.alloc hb3'.size _⟩
    case rest =>
      clear p0 p1 hs hg hbox1
      obtain ⟨rfl, g', rfl, ⟨-, c0, c1, -, -⟩, ⟨-, d0, d1, -, -⟩, hb4⟩ := hcut
      have hF4 := hF.below hb4
      have hB4 := hB.trans (hb4.mono hB.size)
      clear hF hB hb4
      go_wp2_with fail
      refine (eqPoint_any _ _ _ (atX_lt f len x y) (atY_lt f len x y)).mono ?_
      rintro e w5 ⟨rfl, hb5⟩
      have hF5 := hF4.below hb5
      have hB5 := hB4.trans (hb5.mono hB4.size)
      clear hF4 hB4 hb5 c0 c1 d0 d1
      go_wp2_with fail
      refine (copy_any a len cap f _ (h.below hB5)).mono ?_
      rintro e w6 ⟨v6, rfl, rfl, hF6, -, hb6⟩
      have hF7 := hF5.below hb6
      have hB6 := hB5.trans (hb6.mono hB5.size)
      clear hF5 hB5 hb6
      go_wp2_with fail
      refine (eqs_any _ _ len len len f _ hF7 hF6).mono ?_
      rintro e w7 ⟨rfl, n, hn⟩
      have hB7 := hB6.trans ((below_of hn).mono hB6.size)
      clear hF6 hF7 hB6 hn
      go_wp2
      go_ret
      exact ⟨rfl, hB7⟩

set_option maxHeartbeats 400000 in
theorem atLaw_long (a : Option Addr) (len cap x y : Nat) (w : World) (hL : 1048576 < len) (hm : len ≤ 9223372036854775807) :
    Calls Try.prog 5 #[.slice a len cap, pt x y] w fun e w' => e = .returned (.bool true) ∧ Below w.heap.size w w' := by
  go_enter Try.func5, Try.ntmps5
  go_wp2
  go_ret
  exact ⟨rfl, (Below.refl _ _).alloc (Nat.le_refl _) _⟩
end Go.Proofs.Ytgcnkecfdmafdaa
