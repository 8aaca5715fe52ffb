/- The walk of the law on DivPoints. -/
import Derived.Test.YtgcnkecfdmafdaaPtMulLaw
import Derived.Test.YtgcnkecfdmafdaaPtDiv
namespace Go.Proofs.Ytgcnkecfdmafdaa
open Go.RowKit

set_option maxHeartbeats 2000000 in
theorem divLaw (a b c d : Nat) (w : World) (ha : a < 18446744073709551616) (hb : b < 18446744073709551616) (hc : c < 18446744073709551616) (hd : d < 18446744073709551616) :
    Calls Try.prog 4 #[pt a b, pt c d] w fun e w' => e = .returned (.bool true) ∧ Below w.heap.size w w' := by
  obtain ⟨p0, p1, q0, q1, hs, hB, hw0⟩ := boxes2 w a b c d 24 24
  go_enter Try.func4, Try.ntmps4
  go_upto_region 1 with fail
  go_cut [5, 6] from 9 to 16 (fun s5 s6 wx => s6 = .bool (divT a b c d) ∧ ∃ g, s5 = .pointer (some ⟨g, 0, none⟩) ∧ w.heap.size + 1 < g ∧ Box wx g (divX a b c d) (divY a b c d) ∧ wx.cell? ⟨w.heap.size, 0, none⟩ = some (.float .f64 a) ∧ wx.cell? ⟨w.heap.size, 1, none⟩ = some (.float .f64 b) ∧ wx.cell? ⟨w.heap.size + 1, 0, none⟩ = some (.float .f64 c) ∧ wx.cell? ⟨w.heap.size + 1, 1, none⟩ = some (.float .f64 d) ∧ w.heap.size + 1 < wx.heap.size ∧ Below w.heap.size w wx)
  case first =>
    go_region_held3 (fun w' => w'.cell? ⟨w.heap.size, 0, none⟩ = some (.float .f64 a) ∧ w'.cell? ⟨w.heap.size, 1, none⟩ = some (.float .f64 b) ∧ w'.cell? ⟨w.heap.size + 1, 0, none⟩ = some (.float .f64 c) ∧ w'.cell? ⟨w.heap.size + 1, 1, none⟩ = some (.float .f64 d) ∧ w.heap.size + 1 < w'.heap.size ∧ Below w.heap.size w w')
      (first | (exact keepL p0 p1 q0 q1 hs hB (hw0.drew.mono hs)) | (exact keepL p0 p1 q0 q1 hs hB (hw1.mono hs)) | (exact keepL p0 p1 q0 q1 hs hB (hw2.mono hs)) | (exact keepL p0 p1 q0 q1 hs hB (hw3.mono hs)) | (exact keepL p0 p1 q0 q1 hs hB (newB hs hw0 _).drew) | (exact keepL p0 p1 q0 q1 hs hB (newB hs hw1 _)) | (exact keepL p0 p1 q0 q1 hs hB (newB hs hw2 _)) | (exact keepL p0 p1 q0 q1 hs hB (newB hs hw3 _)) | (exact keepL p0 p1 q0 q1 hs hB (newS hs hw3 ng)) | (exact keepL p0 p1 q0 q1 hs hB (newS hs hw3 (Nat.lt_succ_self _))) | (fail))
      (first | (go_at_call_of 10 a; refine (toPoint_any a b _).mono ?_; rintro e w1 ⟨rfl, hbn⟩; (first | (have hw1 := stepA hw0.drew hbn; clear hbn) | (obtain ⟨hw1, nb, ng⟩ := newboxd hs hw0 hbn; clear hbn; (try simp at nb); (try simp at ng))))
             | (go_at_call 10; refine (toPoint_any c d _).mono ?_; rintro e w2 ⟨rfl, hbn⟩; (first | (have hw2 := stepA hw1 hbn; have nb := nb.below hbn nb.lt; clear hbn) | (have hw2 := stepA hw1 hbn; clear hbn) | (obtain ⟨hw2, nb, ng⟩ := newbox hs hw1 hbn; clear hbn; (try simp at nb); (try simp at ng))))
             | (go_at_call 13; refine (specDiv_any a b c d _ ha hb hc hd).mono ?_; rintro e w3 ⟨rfl, hbn⟩; (first | (have hw3 := stepA hw2 hbn; have nb := nb.below hbn nb.lt; clear hbn) | (have hw3 := stepA hw2 hbn; clear hbn) | (obtain ⟨hw3, nb, ng⟩ := newbox hs hw2 hbn; clear hbn; (try simp at nb); (try simp at ng))); (try (have n1 := nb.c0; have n2 := nb.c1; have n3 := nb.f0; have n4 := nb.f1))))
    all_goals
      go_wp2_with fail
      go_meet
      case rel =>
        first
        | exact ⟨rfl, _, rfl, Nat.lt_of_lt_of_le hs hw3.size, box_new _ _ _ _, keepL p0 p1 q0 q1 hs hB (newB hs hw3 _)⟩
        | exact ⟨rfl, _, rfl, ng, nb.set, keepL p0 p1 q0 q1 hs hB (newS hs hw3 ng)⟩
        | exact ⟨rfl, _, rfl, Nat.lt_succ_self _, nb.set, keepL p0 p1 q0 q1 hs hB (newS hs hw3 (Nat.lt_succ_self _))⟩
  case rest =>
    clear p0 p1 q0 q1 hs hB hw0
    obtain ⟨rfl, g, rfl, hg, hbox, p0, p1, q0, q1, hs, hB⟩ := hcut
    have hw0 := Below.refl wc.heap.size wc
    go_upto_region 2 with fail
    go_cut [7, 8] from 17 to 24 (fun s7 s8 wx => s8 = .bool (divT a b c d) ∧ ∃ g', s7 = .pointer (some ⟨g', 0, none⟩) ∧ Box wx g' (divX a b c d) (divY a b c d) ∧ Box wx g (divX a b c d) (divY a b c d) ∧ Below w.heap.size w wx)
    case first =>
      go_region_held3 (fun w' => w'.cell? ⟨w.heap.size, 0, none⟩ = some (.float .f64 a) ∧ w'.cell? ⟨w.heap.size, 1, none⟩ = some (.float .f64 b) ∧ w'.cell? ⟨w.heap.size + 1, 0, none⟩ = some (.float .f64 c) ∧ w'.cell? ⟨w.heap.size + 1, 1, none⟩ = some (.float .f64 d) ∧ w.heap.size + 1 < w'.heap.size ∧ Below w.heap.size w w')
        (first | (exact keepL p0 p1 q0 q1 hs hB (hw0.drew.mono hs)) | (exact keepL p0 p1 q0 q1 hs hB (hw1.mono hs)) | (exact keepL p0 p1 q0 q1 hs hB (hw2.mono hs)) | (exact keepL p0 p1 q0 q1 hs hB (hw3.mono hs)) | (exact keepL p0 p1 q0 q1 hs hB (newB hs hw0 _).drew) | (exact keepL p0 p1 q0 q1 hs hB (newB hs hw1 _)) | (exact keepL p0 p1 q0 q1 hs hB (newB hs hw2 _)) | (exact keepL p0 p1 q0 q1 hs hB (newB hs hw3 _)) | (exact keepL p0 p1 q0 q1 hs hB (newS hs hw3 ng)) | (exact keepL p0 p1 q0 q1 hs hB (newS hs hw3 (Nat.lt_succ_self _))) | (fail))
        (first | (go_at_call_of 10 a; refine (toPoint_any a b _).mono ?_; rintro e w1 ⟨rfl, hbn⟩; (first | (have hw1 := stepA hw0.drew hbn; clear hbn) | (obtain ⟨hw1, nb, ng⟩ := newboxd hs hw0 hbn; clear hbn; (try simp at nb); (try simp at ng))))
               | (go_at_call 10; refine (toPoint_any c d _).mono ?_; rintro e w2 ⟨rfl, hbn⟩; (first | (have hw2 := stepA hw1 hbn; have nb := nb.below hbn nb.lt; clear hbn) | (have hw2 := stepA hw1 hbn; clear hbn) | (obtain ⟨hw2, nb, ng⟩ := newbox hs hw1 hbn; clear hbn; (try simp at nb); (try simp at ng))))
               | (go_at_call 14; refine (implDiv_any a b c d _ ha hb hc hd).mono ?_; rintro e w3 ⟨rfl, hbn⟩; (first | (have hw3 := stepA hw2 hbn; have nb := nb.below hbn nb.lt; clear hbn) | (have hw3 := stepA hw2 hbn; clear hbn) | (obtain ⟨hw3, nb, ng⟩ := newbox hs hw2 hbn; clear hbn; (try simp at nb); (try simp at ng))); (try (have n1 := nb.c0; have n2 := nb.c1; have n3 := nb.f0; have n4 := nb.f1))))
      all_goals
        go_wp2_with fail
        go_meet
        case rel =>
          first
          | exact ⟨rfl, _, rfl, box_new _ _ _ _, (hbox.below hw3 hbox.lt).alloc _, (keepL p0 p1 q0 q1 hs hB (newB hs hw3 _)).2.2.2.2.2⟩
          | exact ⟨rfl, _, rfl, nb.set, (hbox.below hw3 hbox.lt).far (apart hbox.lt hw2), (keepL p0 p1 q0 q1 hs hB (newS hs hw3 ng)).2.2.2.2.2⟩
          | exact ⟨rfl, _, rfl, nb.set, (hbox.below hw3 hbox.lt).far (apart hbox.lt hw1), (keepL p0 p1 q0 q1 hs hB (newS hs hw3 ng)).2.2.2.2.2⟩
          | exact ⟨rfl, _, rfl, nb.set, (hbox.below hw3 hbox.lt).far (apart hbox.lt hw0), (keepL p0 p1 q0 q1 hs hB (newS hs hw3 ng)).2.2.2.2.2⟩
    case rest =>
      clear p0 p1 q0 q1 hs hB hg hw0
      obtain ⟨rfl, g', rfl, ⟨-, c0, c1, -, -⟩, ⟨-, d0, d1, -, -⟩, hB⟩ := hcut
      go_wp2_with fail
      refine (eqPoint_any _ _ _ (divX_lt a b c d) (divY_lt a b c d)).mono ?_
      rintro e w9 ⟨rfl, hb9⟩
      have hB9 := hB.trans (hb9.mono hB.size)
      clear hb9 hB c0 c1 d0 d1
      go_wp2
      go_ret
      exact ⟨rfl, hB9⟩
end Go.Proofs.Ytgcnkecfdmafdaa
