/- The walk of the law on JoinSpin. -/
import Derived.Test.YtnpbogabmnidcaaSpJoinB
namespace Go.Proofs.Ytnpbogabmnidcaa
open Go.RowKit

theorem keepL {w W w2 : World} {a b c d e f g h : Int} (B0 : Box W w.heap.size a b c d) (B1 : Box W (w.heap.size + 1) e f g h) (hB : Below w.heap.size w W) (k : Below (w.heap.size + 1 + 1) W w2) :
    w2.cell? ⟨w.heap.size, 0, none⟩ = some (.int .i64 a) ∧ w2.cell? ⟨w.heap.size, 1, none⟩ = some (.int .i64 b) ∧ w2.cell? ⟨w.heap.size, 2, none⟩ = some (.int .i64 c) ∧ w2.cell? ⟨w.heap.size, 3, none⟩ = some (.int .i64 d) ∧ w2.cell? ⟨w.heap.size + 1, 0, none⟩ = some (.int .i64 e) ∧ w2.cell? ⟨w.heap.size + 1, 1, none⟩ = some (.int .i64 f) ∧ w2.cell? ⟨w.heap.size + 1, 2, none⟩ = some (.int .i64 g) ∧ w2.cell? ⟨w.heap.size + 1, 3, none⟩ = some (.int .i64 h) ∧ w.heap.size + 1 < w2.heap.size ∧ Below w.heap.size w w2 := by
  have C0 := B0.below k (by omega)
  have C1 := B1.below k (by omega)
  exact ⟨C0.c0, C0.c1, C0.c2, C0.c3, C1.c0, C1.c1, C1.c2, C1.c3, C1.lt, hB.trans (k.mono (by omega))⟩
theorem keepB {w W w2 : World} {a b c d e f g h : Int} (B0 : Box W w.heap.size a b c d) (B1 : Box W (w.heap.size + 1) e f g h) (hB : Below w.heap.size w W) (k : Below (w.heap.size + 1 + 1) W w2) : Box w2 w.heap.size a b c d ∧ Box w2 (w.heap.size + 1) e f g h ∧ Below w.heap.size w w2 :=
  ⟨B0.below k (by omega), B1.below k (by omega), hB.trans (k.mono (by omega))⟩
theorem newB {w W w1 : World} (hs : w.heap.size + 1 < W.heap.size) (h : Below W.heap.size W w1) (o : Obj) : Below (w.heap.size + 1 + 1) W (w1.alloc o) := (h.mono hs).alloc (Nat.le_trans hs h.size) o
theorem newS {w W w1 : World} {g : Nat} {x y z u : Value} (hs : w.heap.size + 1 < W.heap.size) (h : Below W.heap.size W w1) (hg : w.heap.size + 1 < g) : Below (w.heap.size + 1 + 1) W (setFour w1 g x y z u) := below_four (h.mono hs) hg _ _ _ _
theorem newbox {w W w1 w2 : World} {t : TypeId} (hs : w.heap.size + 1 < W.heap.size) (h : Below W.heap.size W w1) (k : Below (w1.alloc (four 0 0 0 0 t)).heap.size (w1.alloc (four 0 0 0 0 t)) w2) :
    Below W.heap.size W w2 ∧ Box w2 w1.heap.size 0 0 0 0 ∧ w.heap.size + 1 < w1.heap.size :=
  ⟨(h.alloc h.size _).trans (k.mono (by rw [size_alloc]; exact Nat.le_succ_of_le h.size)), (box_new w1 0 0 0 0 t).on k, Nat.lt_of_lt_of_le hs h.size⟩
theorem newboxd {w W w1 w2 : World} {t : TypeId} (hs : w.heap.size + 1 < W.heap.size) (h : Below W.heap.size W w1) (k : Below (w1.alloc (four 0 0 0 0 t)).drew.heap.size (w1.alloc (four 0 0 0 0 t)).drew w2) :
    Below W.heap.size W w2 ∧ Box w2 w1.heap.size 0 0 0 0 ∧ w.heap.size + 1 < w1.heap.size := newbox (t := t) hs h ((Below.refl _ _).drew.trans k)
theorem apart {W w1 : World} {b : Nat} (hb : b < W.heap.size) (h : Below W.heap.size W w1) : b ≠ w1.heap.size := by have := h.size; omega

set_option maxHeartbeats 4000000 in
theorem joinLaw (a b c d e f g h : Int) (w : World) :
    Calls Try.prog 5 #[sp a b c d, sp e f g h] w fun o w' => o = .returned (.bool true) ∧ Below w.heap.size w w' := by
  obtain ⟨p, q, r, s, hsp, him⟩ : ∃ p q r s : Int, (∀ w, Calls Try.prog 13 #[sp a b c d, sp e f g h] w fun o w' => o = .returned (sp p q r s) ∧ Below w.heap.size w w') ∧ (∀ w, Calls Try.prog 14 #[sp a b c d, sp e f g h] w fun o w' => o = .returned (sp p q r s) ∧ Below w.heap.size w w') :=
    ⟨_, _, _, _, fun w => specJoin_any a b c d e f g h w, fun w => implJoin_any a b c d e f g h w⟩
  obtain ⟨B0, B1, hB⟩ := boxes2 (Below.refl _ ((w.alloc (four a b c d 23)).alloc (four e f g h 23)))
  go_enter Try.func5, Try.ntmps5
  go_upto_region 1 with fail
  generalize (w.alloc (four a b c d 23)).alloc (four e f g h 23) = W at B0 B1 hB ⊢
  have hs := B1.lt
  have hw0 := Below.refl W.heap.size W
  obtain ⟨x0, x1, x2, x3, x4, x5, x6, x7, -, -⟩ := keepL B0 B1 hB (hw0.mono hs)
  go_cut [5] from 7 to 11 (fun s5 wx => ∃ gb, s5 = .pointer (some ⟨gb, 0, none⟩) ∧ w.heap.size + 1 < gb ∧ Box wx gb p q r s ∧ Box wx w.heap.size a b c d ∧ Box wx (w.heap.size + 1) e f g h ∧ Below w.heap.size w wx)
  case first =>
    go_region_held3 (fun w' => w'.cell? ⟨w.heap.size, 0, none⟩ = some (.int .i64 a) ∧ w'.cell? ⟨w.heap.size, 1, none⟩ = some (.int .i64 b) ∧ w'.cell? ⟨w.heap.size, 2, none⟩ = some (.int .i64 c) ∧ w'.cell? ⟨w.heap.size, 3, none⟩ = some (.int .i64 d) ∧ w'.cell? ⟨w.heap.size + 1, 0, none⟩ = some (.int .i64 e) ∧ w'.cell? ⟨w.heap.size + 1, 1, none⟩ = some (.int .i64 f) ∧ w'.cell? ⟨w.heap.size + 1, 2, none⟩ = some (.int .i64 g) ∧ w'.cell? ⟨w.heap.size + 1, 3, none⟩ = some (.int .i64 h) ∧ w.heap.size + 1 < w'.heap.size ∧ Below w.heap.size w w')
      (first | (exact keepL B0 B1 hB (hw0.drew.mono hs)) | (exact keepL B0 B1 hB (hw1.mono hs)) | (exact keepL B0 B1 hB (hw2.mono hs)) | (exact keepL B0 B1 hB (hw3.mono hs)) | (exact keepL B0 B1 hB ((newB hs hw0 _).drew)) | (exact keepL B0 B1 hB (newB hs hw1 _)) | (exact keepL B0 B1 hB (newB hs hw2 _)) | (exact keepL B0 B1 hB (newB hs hw3 _)) | (exact keepL B0 B1 hB (newS hs hw3 ng)) | (exact keepL B0 B1 hB (newS hs hw3 (Nat.lt_succ_self _))) | (fail))
      (first | (go_at_call_of 8 a; refine (toSpin_any a b c d _).mono ?_; rintro o w1 ⟨rfl, hbn⟩; (first | (have hw1 := below_on hw0.drew hbn; clear hbn) | (obtain ⟨hw1, nb, ng⟩ := newboxd hs hw0 hbn; clear hbn; (try simp at nb); (try simp at ng))))
             | (go_at_call 8; refine (toSpin_any e f g h _).mono ?_; rintro o w2 ⟨rfl, hbn⟩; (first | (have hw2 := below_on hw1 hbn; have nb := nb.on hbn; clear hbn) | (have hw2 := below_on hw1 hbn; clear hbn) | (obtain ⟨hw2, nb, ng⟩ := newbox hs hw1 hbn; clear hbn; (try simp at nb); (try simp at ng))))
             | (go_at_call 13; refine (hsp _).mono ?_; rintro o w3 ⟨rfl, hbn⟩; (first | (have hw3 := below_on hw2 hbn; have nb := nb.on hbn; clear hbn) | (have hw3 := below_on hw2 hbn; clear hbn) | (obtain ⟨hw3, nb, ng⟩ := newbox hs hw2 hbn; clear hbn; (try simp at nb); (try simp at ng))); (try (have n0 := nb.lt; have n1 := nb.c0; have n2 := nb.c1; have n3 := nb.c2; have n4 := nb.c3; have n5 := nb.f0; have n6 := nb.f1; have n7 := nb.f2; have n8 := nb.f3))))
    all_goals
      go_wp2_with fail
      go_meet
      case rel =>
        first
        | exact ⟨_, rfl, Nat.lt_of_lt_of_le hs hw3.size, box_new _ _ _ _ _ _, keepB B0 B1 hB (newB hs hw3 _)⟩
        | exact ⟨_, rfl, ng, nb.set _ _ _ _, keepB B0 B1 hB (newS hs hw3 ng)⟩
        | exact ⟨_, rfl, hs, nb.set _ _ _ _, keepB B0 B1 hB (newS hs hw3 hs)⟩
  case rest =>
    clear x0 x1 x2 x3 x4 x5 x6 x7 B0 B1 hs hB hw0
    obtain ⟨gb, rfl, hgb, G, B0, B1, hB⟩ := hcut
    have hs := B1.lt
    have hw0 := Below.refl wc.heap.size wc
    obtain ⟨x0, x1, x2, x3, x4, x5, x6, x7, -, -⟩ := keepL B0 B1 hB (hw0.mono hs)
    go_upto_region 2 with fail
    go_cut [6] from 12 to 16 (fun s6 wx => ∃ gc, s6 = .pointer (some ⟨gc, 0, none⟩) ∧ Box wx gc p q r s ∧ Box wx gb p q r s ∧ Below w.heap.size w wx)
    case first =>
      go_region_held3 (fun w' => w'.cell? ⟨w.heap.size, 0, none⟩ = some (.int .i64 a) ∧ w'.cell? ⟨w.heap.size, 1, none⟩ = some (.int .i64 b) ∧ w'.cell? ⟨w.heap.size, 2, none⟩ = some (.int .i64 c) ∧ w'.cell? ⟨w.heap.size, 3, none⟩ = some (.int .i64 d) ∧ w'.cell? ⟨w.heap.size + 1, 0, none⟩ = some (.int .i64 e) ∧ w'.cell? ⟨w.heap.size + 1, 1, none⟩ = some (.int .i64 f) ∧ w'.cell? ⟨w.heap.size + 1, 2, none⟩ = some (.int .i64 g) ∧ w'.cell? ⟨w.heap.size + 1, 3, none⟩ = some (.int .i64 h) ∧ w.heap.size + 1 < w'.heap.size ∧ Below w.heap.size w w')
        (first | (exact keepL B0 B1 hB (hw0.drew.mono hs)) | (exact keepL B0 B1 hB (hw1.mono hs)) | (exact keepL B0 B1 hB (hw2.mono hs)) | (exact keepL B0 B1 hB (hw3.mono hs)) | (exact keepL B0 B1 hB ((newB hs hw0 _).drew)) | (exact keepL B0 B1 hB (newB hs hw1 _)) | (exact keepL B0 B1 hB (newB hs hw2 _)) | (exact keepL B0 B1 hB (newB hs hw3 _)) | (exact keepL B0 B1 hB (newS hs hw3 ng)) | (exact keepL B0 B1 hB (newS hs hw3 (Nat.lt_succ_self _))) | (fail))
        (first | (go_at_call_of 8 a; refine (toSpin_any a b c d _).mono ?_; rintro o w1 ⟨rfl, hbn⟩; (first | (have hw1 := below_on hw0.drew hbn; clear hbn) | (obtain ⟨hw1, nb, ng⟩ := newboxd hs hw0 hbn; clear hbn; (try simp at nb); (try simp at ng))))
               | (go_at_call 8; refine (toSpin_any e f g h _).mono ?_; rintro o w2 ⟨rfl, hbn⟩; (first | (have hw2 := below_on hw1 hbn; have nb := nb.on hbn; clear hbn) | (have hw2 := below_on hw1 hbn; clear hbn) | (obtain ⟨hw2, nb, ng⟩ := newbox hs hw1 hbn; clear hbn; (try simp at nb); (try simp at ng))))
               | (go_at_call 14; refine (him _).mono ?_; rintro o w3 ⟨rfl, hbn⟩; (first | (have hw3 := below_on hw2 hbn; have nb := nb.on hbn; clear hbn) | (have hw3 := below_on hw2 hbn; clear hbn) | (obtain ⟨hw3, nb, ng⟩ := newbox hs hw2 hbn; clear hbn; (try simp at nb); (try simp at ng))); (try (have n0 := nb.lt; have n1 := nb.c0; have n2 := nb.c1; have n3 := nb.c2; have n4 := nb.c3; have n5 := nb.f0; have n6 := nb.f1; have n7 := nb.f2; have n8 := nb.f3))))
      all_goals
        go_wp2_with fail
        go_meet
        case rel =>
          first
          | exact ⟨_, rfl, box_new _ _ _ _ _ _, (G.on hw3).alloc _, (keepB B0 B1 hB (newB hs hw3 _)).2.2⟩
          | exact ⟨_, rfl, nb.set _ _ _ _, (G.on hw3).far (apart G.lt hw2), (keepB B0 B1 hB (newS hs hw3 ng)).2.2⟩
          | exact ⟨_, rfl, nb.set _ _ _ _, (G.on hw3).far (apart G.lt hw1), (keepB B0 B1 hB (newS hs hw3 ng)).2.2⟩
          | exact ⟨_, rfl, nb.set _ _ _ _, (G.on hw3).far (apart G.lt hw0), (keepB B0 B1 hB (newS hs hw3 hs)).2.2⟩
    case rest =>
      clear x0 x1 x2 x3 x4 x5 x6 x7 B0 B1 hs hB hw0 hgb G
      obtain ⟨gc, rfl, H, G, hB⟩ := hcut
      obtain ⟨-, c0, c1, c2, c3, -, -, -, -⟩ := H
      obtain ⟨-, d0, d1, d2, d3, -, -, -, -⟩ := G
      go_wp2_with fail
      refine (eqSpin_any p q r s _).mono ?_
      rintro o w9 ⟨rfl, hb9⟩
      have hB := below_on hB hb9
      clear hb9 c0 c1 c2 c3 d0 d1 d2 d3
      go_wp2
      go_ret
      exact ⟨rfl, hB⟩
end Go.Proofs.Ytnpbogabmnidcaa
