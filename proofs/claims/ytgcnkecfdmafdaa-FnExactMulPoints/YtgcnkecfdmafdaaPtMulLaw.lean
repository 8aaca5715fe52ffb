/- The walk of the law on MulPoints. -/
import Derived.Test.YtgcnkecfdmafdaaPtMul
import Derived.Deep.CutRange
namespace Go.Proofs.Ytgcnkecfdmafdaa
open Go.RowKit

theorem keepL {w w1 w2 : World} {a b c d : Nat} (p0 : w1.cell? ⟨w.heap.size, 0, none⟩ = some (.float .f64 a)) (p1 : w1.cell? ⟨w.heap.size, 1, none⟩ = some (.float .f64 b)) (q0 : w1.cell? ⟨w.heap.size + 1, 0, none⟩ = some (.float .f64 c)) (q1 : w1.cell? ⟨w.heap.size + 1, 1, none⟩ = some (.float .f64 d))
    (hs : w.heap.size + 1 < w1.heap.size) (hB : Below w.heap.size w w1) (k : Below (w.heap.size + 1 + 1) w1 w2) : w2.cell? ⟨w.heap.size, 0, none⟩ = some (.float .f64 a) ∧ w2.cell? ⟨w.heap.size, 1, none⟩ = some (.float .f64 b) ∧ w2.cell? ⟨w.heap.size + 1, 0, none⟩ = some (.float .f64 c) ∧ w2.cell? ⟨w.heap.size + 1, 1, none⟩ = some (.float .f64 d) ∧ w.heap.size + 1 < w2.heap.size ∧ Below w.heap.size w w2 := by
  have e0 : w.heap.size < w.heap.size + 1 + 1 := by omega
  have e1 : w.heap.size + 1 < w.heap.size + 1 + 1 := by omega
  exact ⟨(k.cell (p := ⟨_, 0, none⟩) e0).trans p0, (k.cell (p := ⟨_, 1, none⟩) e0).trans p1, (k.cell (p := ⟨_, 0, none⟩) e1).trans q0, (k.cell (p := ⟨_, 1, none⟩) e1).trans q1, Nat.lt_of_lt_of_le hs k.size, hB.trans (k.mono (by omega))⟩
theorem newB {w W w1 : World} (hs : w.heap.size + 1 < W.heap.size) (h : Below W.heap.size W w1) (o : Obj) : Below (w.heap.size + 1 + 1) W (w1.alloc o) := (h.mono hs).alloc (Nat.le_trans hs h.size) o
theorem newS {w W w1 : World} {g : Nat} {u v : Value} (hs : w.heap.size + 1 < W.heap.size) (h : Below W.heap.size W w1) (hg : w.heap.size + 1 < g) : Below (w.heap.size + 1 + 1) W ((w1.setCell ⟨g, 0, none⟩ u).setCell ⟨g, 1, none⟩ v) := ((h.mono hs).setCell (p := ⟨_, 0, none⟩) hg _).setCell (p := ⟨_, 1, none⟩) hg _
theorem stepA {W w1 w2 : World} (h : Below W.heap.size W w1) (k : Below w1.heap.size w1 w2) : Below W.heap.size W w2 := h.trans (k.mono h.size)
theorem newbox {w W w1 w2 : World} {t : TypeId} (hs : w.heap.size + 1 < W.heap.size) (h : Below W.heap.size W w1) (k : Below (w1.alloc (.cells #[.float .f64 0, .float .f64 0] t)).heap.size (w1.alloc (.cells #[.float .f64 0, .float .f64 0] t)) w2) :
    Below W.heap.size W w2 ∧ Box w2 w1.heap.size 0 0 ∧ w.heap.size + 1 < w1.heap.size :=
  ⟨(h.alloc h.size _).trans (k.mono (by rw [size_alloc]; exact Nat.le_succ_of_le h.size)), (box_new w1 0 0 t).below k (box_new w1 0 0 t).1, Nat.lt_of_lt_of_le hs h.size⟩
theorem newboxd {w W w1 w2 : World} {t : TypeId} (hs : w.heap.size + 1 < W.heap.size) (h : Below W.heap.size W w1) (k : Below (w1.alloc (.cells #[.float .f64 0, .float .f64 0] t)).drew.heap.size (w1.alloc (.cells #[.float .f64 0, .float .f64 0] t)).drew w2) :
    Below W.heap.size W w2 ∧ Box w2 w1.heap.size 0 0 ∧ w.heap.size + 1 < w1.heap.size := newbox (t := t) hs h ((Below.refl _ _).drew.trans k)
theorem apart {W w1 : World} {b : Nat} (hb : b < W.heap.size) (h : Below W.heap.size W w1) : b ≠ w1.heap.size := by have := h.size; omega
theorem boxes2 (w : World) (a b c d : Nat) (s t : TypeId) : let W := (w.alloc (.cells #[.float .f64 a, .float .f64 b] s)).alloc (.cells #[.float .f64 c, .float .f64 d] t)
    W.cell? ⟨w.heap.size, 0, none⟩ = some (.float .f64 a) ∧ W.cell? ⟨w.heap.size, 1, none⟩ = some (.float .f64 b) ∧ W.cell? ⟨w.heap.size + 1, 0, none⟩ = some (.float .f64 c) ∧ W.cell? ⟨w.heap.size + 1, 1, none⟩ = some (.float .f64 d) ∧ w.heap.size + 1 < W.heap.size ∧ Below w.heap.size w W ∧ Below W.heap.size W W := by
  intro W
  have h0 := (box_new w a b s).alloc (.cells #[.float .f64 c, .float .f64 d] t)
  have h1 := box_new (w.alloc (.cells #[.float .f64 a, .float .f64 b] s)) c d t
  rw [size_alloc] at h1
  exact ⟨h0.c0, h0.c1, h1.c0, h1.c1, h1.lt, ((Below.refl _ _).alloc (Nat.le_refl _) _).alloc (by rw [size_alloc]; omega) _, Below.refl _ _⟩
set_option maxHeartbeats 2000000 in
theorem mulLaw (a b c d : Nat) (w : World) (ha : a < 18446744073709551616) (hb : b < 18446744073709551616) (hc : c < 18446744073709551616) (hd : d < 18446744073709551616) :
    Calls Try.prog 3 #[pt a b, pt c d] w fun e w' => e = .returned (.bool true) ∧ Below w.heap.size w w' := by
  obtain ⟨p0, p1, q0, q1, hs, hB, hw0⟩ := boxes2 w a b c d 24 24
  go_enter Try.func3, Try.ntmps3
  go_upto_region 1 with fail
  go_cut [5, 6] from 9 to 16 (fun s5 s6 wx => s6 = .bool (mulT a b c d) ∧ ∃ g, s5 = .pointer (some ⟨g, 0, none⟩) ∧ w.heap.size + 1 < g ∧ Box wx g (mulX a b c d) (mulY a b c d) ∧ wx.cell? ⟨w.heap.size, 0, none⟩ = some (.float .f64 a) ∧ wx.cell? ⟨w.heap.size, 1, none⟩ = some (.float .f64 b) ∧ wx.cell? ⟨w.heap.size + 1, 0, none⟩ = some (.float .f64 c) ∧ wx.cell? ⟨w.heap.size + 1, 1, none⟩ = some (.float .f64 d) ∧ w.heap.size + 1 < wx.heap.size ∧ Below w.heap.size w wx)
  case first =>
    go_region_held3 (fun w' => w'.cell? ⟨w.heap.size, 0, none⟩ = some (.float .f64 a) ∧ w'.cell? ⟨w.heap.size, 1, none⟩ = some (.float .f64 b) ∧ w'.cell? ⟨w.heap.size + 1, 0, none⟩ = some (.float .f64 c) ∧ w'.cell? ⟨w.heap.size + 1, 1, none⟩ = some (.float .f64 d) ∧ w.heap.size + 1 < w'.heap.size ∧ Below w.heap.size w w')
      (first | (exact keepL p0 p1 q0 q1 hs hB (hw0.drew.mono hs)) | (exact keepL p0 p1 q0 q1 hs hB (hw1.mono hs)) | (exact keepL p0 p1 q0 q1 hs hB (hw2.mono hs)) | (exact keepL p0 p1 q0 q1 hs hB (hw3.mono hs)) | (exact keepL p0 p1 q0 q1 hs hB (newB hs hw0 _).drew) | (exact keepL p0 p1 q0 q1 hs hB (newB hs hw1 _)) | (exact keepL p0 p1 q0 q1 hs hB (newB hs hw2 _)) | (exact keepL p0 p1 q0 q1 hs hB (newB hs hw3 _)) | (exact keepL p0 p1 q0 q1 hs hB (newS hs hw3 ng)) | (exact keepL p0 p1 q0 q1 hs hB (newS hs hw3 (Nat.lt_succ_self _))) | (fail))
      (first | (go_at_call_of 10 a; refine (toPoint_any a b _).mono ?_; rintro e w1 ⟨rfl, hbn⟩; (first | (have hw1 := stepA hw0.drew hbn; clear hbn) | (obtain ⟨hw1, nb, ng⟩ := newboxd hs hw0 hbn; clear hbn; (try simp at nb); (try simp at ng))))
             | (go_at_call 10; refine (toPoint_any c d _).mono ?_; rintro e w2 ⟨rfl, hbn⟩; (first | (have hw2 := stepA hw1 hbn; have nb := nb.below hbn nb.lt; clear hbn) | (have hw2 := stepA hw1 hbn; clear hbn) | (obtain ⟨hw2, nb, ng⟩ := newbox hs hw1 hbn; clear hbn; (try simp at nb); (try simp at ng))))
             | (go_at_call 9; refine (specMul_any a b c d _ ha hb hc hd).mono ?_; rintro e w3 ⟨rfl, hbn⟩; (first | (have hw3 := stepA hw2 hbn; have nb := nb.below hbn nb.lt; clear hbn) | (have hw3 := stepA hw2 hbn; clear hbn) | (obtain ⟨hw3, nb, ng⟩ := newbox hs hw2 hbn; clear hbn; (try simp at nb); (try simp at ng))); (try (have n1 := nb.c0; have n2 := nb.c1; have n3 := nb.f0; have n4 := nb.f1))))
    all_goals
      go_wp2_with fail
      go_meet
      case rel =>
        first
        | exact ⟨rfl, _, rfl, Nat.lt_of_lt_of_le hs hw3.size, box_new _ _ _ _, keepL p0 p1 q0 q1 hs hB (newB hs hw3 _)⟩
        | exact ⟨rfl, _, rfl, ng, nb.set, keepL p0 p1 q0 q1 hs hB (newS hs hw3 ng)⟩
        | exact ⟨rfl, _, rfl, Nat.lt_succ_self _, nb.set, keepL p0 p1 q0 q1 hs hB (newS hs hw3 (Nat.lt_succ_self _))⟩
  case rest =>
    clear p0 p1 q0 q1 hs hB hw0
    obtain ⟨rfl, g, rfl, hg, hbox, p0, p1, q0, q1, hs, hB⟩ := hcut
    have hw0 := Below.refl wc.heap.size wc
    go_upto_region 2 with fail
    go_cut [7, 8] from 17 to 24 (fun s7 s8 wx => s8 = .bool (mulT a b c d) ∧ ∃ g', s7 = .pointer (some ⟨g', 0, none⟩) ∧ Box wx g' (mulX a b c d) (mulY a b c d) ∧ Box wx g (mulX a b c d) (mulY a b c d) ∧ Below w.heap.size w wx)
    case first =>
      go_region_held3 (fun w' => w'.cell? ⟨w.heap.size, 0, none⟩ = some (.float .f64 a) ∧ w'.cell? ⟨w.heap.size, 1, none⟩ = some (.float .f64 b) ∧ w'.cell? ⟨w.heap.size + 1, 0, none⟩ = some (.float .f64 c) ∧ w'.cell? ⟨w.heap.size + 1, 1, none⟩ = some (.float .f64 d) ∧ w.heap.size + 1 < w'.heap.size ∧ Below w.heap.size w w')
        (first | (exact keepL p0 p1 q0 q1 hs hB (hw0.drew.mono hs)) | (exact keepL p0 p1 q0 q1 hs hB (hw1.mono hs)) | (exact keepL p0 p1 q0 q1 hs hB (hw2.mono hs)) | (exact keepL p0 p1 q0 q1 hs hB (hw3.mono hs)) | (exact keepL p0 p1 q0 q1 hs hB (newB hs hw0 _).drew) | (exact keepL p0 p1 q0 q1 hs hB (newB hs hw1 _)) | (exact keepL p0 p1 q0 q1 hs hB (newB hs hw2 _)) | (exact keepL p0 p1 q0 q1 hs hB (newB hs hw3 _)) | (exact keepL p0 p1 q0 q1 hs hB (newS hs hw3 ng)) | (exact keepL p0 p1 q0 q1 hs hB (newS hs hw3 (Nat.lt_succ_self _))) | (fail))
        (first | (go_at_call_of 10 a; refine (toPoint_any a b _).mono ?_; rintro e w1 ⟨rfl, hbn⟩; (first | (have hw1 := stepA hw0.drew hbn; clear hbn) | (obtain ⟨hw1, nb, ng⟩ := newboxd hs hw0 hbn; clear hbn; (try simp at nb); (try simp at ng))))
               | (go_at_call 10; refine (toPoint_any c d _).mono ?_; rintro e w2 ⟨rfl, hbn⟩; (first | (have hw2 := stepA hw1 hbn; have nb := nb.below hbn nb.lt; clear hbn) | (have hw2 := stepA hw1 hbn; clear hbn) | (obtain ⟨hw2, nb, ng⟩ := newbox hs hw1 hbn; clear hbn; (try simp at nb); (try simp at ng))))
               | (go_at_call 11; refine (implMul_any a b c d _ ha hb hc hd).mono ?_; rintro e w3 ⟨rfl, hbn⟩; (first | (have hw3 := stepA hw2 hbn; have nb := nb.below hbn nb.lt; clear hbn) | (have hw3 := stepA hw2 hbn; clear hbn) | (obtain ⟨hw3, nb, ng⟩ := newbox hs hw2 hbn; clear hbn; (try simp at nb); (try simp at ng))); (try (have n1 := nb.c0; have n2 := nb.c1; have n3 := nb.f0; have n4 := nb.f1))))
      all_goals
        go_wp2_with fail
        go_meet
        case rel =>
          first
          | exact ⟨rfl, _, rfl, box_new _ _ _ _, (hbox.below hw3 hbox.lt).alloc _, (keepL p0 p1 q0 q1 hs hB (newB hs hw3 _)).2.2.2.2.2⟩
          | exact ⟨rfl, _, rfl, nb.set, (hbox.below hw3 hbox.lt).far (apart hbox.lt hw2), (keepL p0 p1 q0 q1 hs hB (newS hs hw3 ng)).2.2.2.2.2⟩
          | exact ⟨rfl, _, rfl, nb.set, (hbox.below hw3 hbox.lt).far (apart hbox.lt hw1), (keepL p0 p1 q0 q1 hs hB (newS hs hw3 ng)).2.2.2.2.2⟩
          | exact ⟨rfl, _, rfl, nb.set, (hbox.below hw3 hbox.lt).far (apart hbox.lt hw0), (keepL p0 p1 q0 q1 hs hB (newS hs hw3 ng)).2.2.2.2.2⟩
    case rest =>
      clear p0 p1 q0 q1 hs hB hg hw0
      obtain ⟨rfl, g', rfl, ⟨-, c0, c1, -, -⟩, ⟨-, d0, d1, -, -⟩, hB⟩ := hcut
      go_wp2_with fail
      refine (eqPoint_any _ _ _ (mulX_lt a b c d) (mulY_lt a b c d)).mono ?_
      rintro e w9 ⟨rfl, hb9⟩
      have hB9 := hB.trans (hb9.mono hB.size)
      clear hb9 hB c0 c1 d0 d1
      go_wp2
      go_ret
      exact ⟨rfl, hB9⟩
end Go.Proofs.Ytgcnkecfdmafdaa
