/- The walk of the law on JoinTurn. -/
import Derived.Test.YtpnbkmlmbfogdaaTnJoinT
namespace Go.Proofs.Ytpnbkmlmbfogdaa
open Go.RowKit

theorem keepL {w W w2 : World} {a b c d : Int} (B0 : Box W w.heap.size a b) (B1 : Box W (w.heap.size + 1) c d) (hB : Below w.heap.size w W) (k : Below (w.heap.size + 1 + 1) W w2) :
    w2.cell? ⟨w.heap.size, 0, none⟩ = some (.int .i64 a) ∧ w2.cell? ⟨w.heap.size, 1, none⟩ = some (.int .i64 b) ∧ w2.cell? ⟨w.heap.size + 1, 0, none⟩ = some (.int .i64 c) ∧ w2.cell? ⟨w.heap.size + 1, 1, none⟩ = some (.int .i64 d) ∧ w.heap.size + 1 < w2.heap.size ∧ Below w.heap.size w w2 := by
  have C0 := B0.below k (by omega)
  have C1 := B1.below k (by omega)
  exact ⟨C0.c0, C0.c1, C1.c0, C1.c1, C1.lt, hB.trans (k.mono (by omega))⟩
theorem keepB {w W w2 : World} {a b c d : Int} (B0 : Box W w.heap.size a b) (B1 : Box W (w.heap.size + 1) c d) (hB : Below w.heap.size w W) (k : Below (w.heap.size + 1 + 1) W w2) : Box w2 w.heap.size a b ∧ Box w2 (w.heap.size + 1) c d ∧ Below w.heap.size w w2 :=
  ⟨B0.below k (by omega), B1.below k (by omega), hB.trans (k.mono (by omega))⟩
theorem newB {w W w1 : World} (hs : w.heap.size + 1 < W.heap.size) (h : Below W.heap.size W w1) (o : Obj) : Below (w.heap.size + 1 + 1) W (w1.alloc o) := (h.mono hs).alloc (Nat.le_trans hs h.size) o
theorem newS {w W w1 : World} {g : Nat} {x y : Value} (hs : w.heap.size + 1 < W.heap.size) (h : Below W.heap.size W w1) (hg : w.heap.size + 1 < g) : Below (w.heap.size + 1 + 1) W (setTwo w1 g x y) := below_two (h.mono hs) hg _ _
theorem newbox {w W w1 w2 : World} {t : TypeId} (hs : w.heap.size + 1 < W.heap.size) (h : Below W.heap.size W w1) (k : Below (w1.alloc (two 0 0 t)).heap.size (w1.alloc (two 0 0 t)) w2) :
    Below W.heap.size W w2 ∧ Box w2 w1.heap.size 0 0 ∧ w.heap.size + 1 < w1.heap.size :=
  ⟨(h.alloc h.size _).trans (k.mono (by rw [size_alloc]; exact Nat.le_succ_of_le h.size)), (box_new w1 0 0 t).on k, Nat.lt_of_lt_of_le hs h.size⟩
theorem newboxd {w W w1 w2 : World} {t : TypeId} (hs : w.heap.size + 1 < W.heap.size) (h : Below W.heap.size W w1) (k : Below (w1.alloc (two 0 0 t)).drew.heap.size (w1.alloc (two 0 0 t)).drew w2) :
    Below W.heap.size W w2 ∧ Box w2 w1.heap.size 0 0 ∧ w.heap.size + 1 < w1.heap.size := newbox (t := t) hs h ((Below.refl _ _).drew.trans k)
theorem apart {W w1 : World} {b : Nat} (hb : b < W.heap.size) (h : Below W.heap.size W w1) : b ≠ w1.heap.size := by have := h.size; omega

set_option maxHeartbeats 4000000 in
theorem joinLaw (a b c d : Int) (w : World) (ha : I64 a) (hb : I64 b) (hc : I64 c) (hd : I64 d) :
    Calls Try.prog 4 #[tn a b, tn c d] w fun o w' => o = .returned (.bool true) ∧ Below w.heap.size w w' := by
  have hsp := fun w => specJoin_any a b c d w ha hb hc hd
  have him := fun w => implJoin_any a b c d w ha hb hc hd
  generalize jP a b c d = p at hsp him
  generalize jQ a b c d = q at hsp him
  clear ha hb hc hd
  obtain ⟨B0, B1, hB⟩ := boxes2 (Below.refl _ ((w.alloc (two a b 23)).alloc (two c d 23)))
  go_enter Try.func4, Try.ntmps4
  go_upto_region 1 with fail
  generalize (w.alloc (two a b 23)).alloc (two c d 23) = W at B0 B1 hB ⊢
  have hs := B1.lt
  have hw0 := Below.refl W.heap.size W
  obtain ⟨x0, x1, x2, x3, -, -⟩ := keepL B0 B1 hB (hw0.mono hs)
  go_cut [5] from 7 to 11 (fun s5 wx => ∃ gb, s5 = .pointer (some ⟨gb, 0, none⟩) ∧ w.heap.size + 1 < gb ∧ Box wx gb p q ∧ Box wx w.heap.size a b ∧ Box wx (w.heap.size + 1) c d ∧ Below w.heap.size w wx)
  case first =>
    go_region_held3 (fun w' => w'.cell? ⟨w.heap.size, 0, none⟩ = some (.int .i64 a) ∧ w'.cell? ⟨w.heap.size, 1, none⟩ = some (.int .i64 b) ∧ w'.cell? ⟨w.heap.size + 1, 0, none⟩ = some (.int .i64 c) ∧ w'.cell? ⟨w.heap.size + 1, 1, none⟩ = some (.int .i64 d) ∧ w.heap.size + 1 < w'.heap.size ∧ Below w.heap.size w w')
      (first | (exact keepL B0 B1 hB (hw0.drew.mono hs)) | (exact keepL B0 B1 hB (hw1.mono hs)) | (exact keepL B0 B1 hB (hw2.mono hs)) | (exact keepL B0 B1 hB (hw3.mono hs)) | (exact keepL B0 B1 hB ((newB hs hw0 _).drew)) | (exact keepL B0 B1 hB (newB hs hw1 _)) | (exact keepL B0 B1 hB (newB hs hw2 _)) | (exact keepL B0 B1 hB (newB hs hw3 _)) | (exact keepL B0 B1 hB (newS hs hw3 ng)) | (exact keepL B0 B1 hB (newS hs hw3 (Nat.lt_succ_self _))) | (fail))
      (first | (go_at_call_of 6 a; refine (toTurn_any a b _).mono ?_; rintro o w1 ⟨rfl, hbn⟩; (first | (have hw1 := below_on hw0.drew hbn; clear hbn) | (obtain ⟨hw1, nb, ng⟩ := newboxd hs hw0 hbn; clear hbn; (try simp at nb); (try simp at ng))))
             | (go_at_call 6; refine (toTurn_any c d _).mono ?_; rintro o w2 ⟨rfl, hbn⟩; (first | (have hw2 := below_on hw1 hbn; have nb := nb.on hbn; clear hbn) | (have hw2 := below_on hw1 hbn; clear hbn) | (obtain ⟨hw2, nb, ng⟩ := newbox hs hw1 hbn; clear hbn; (try simp at nb); (try simp at ng))))
             | (go_at_call 8; refine (hsp _).mono ?_; rintro o w3 ⟨rfl, hbn⟩; (first | (have hw3 := below_on hw2 hbn; have nb := nb.on hbn; clear hbn) | (have hw3 := below_on hw2 hbn; clear hbn) | (obtain ⟨hw3, nb, ng⟩ := newbox hs hw2 hbn; clear hbn; (try simp at nb); (try simp at ng))); (try (have n0 := nb.lt; have n1 := nb.c0; have n2 := nb.c1; have n5 := nb.f0; have n6 := nb.f1))))
    all_goals
      go_wp2_with fail
      go_meet
      case rel =>
        first
        | exact ⟨_, rfl, Nat.lt_of_lt_of_le hs hw3.size, box_new _ _ _ _, keepB B0 B1 hB (newB hs hw3 _)⟩
        | exact ⟨_, rfl, ng, nb.set _ _, keepB B0 B1 hB (newS hs hw3 ng)⟩
        | exact ⟨_, rfl, hs, nb.set _ _, keepB B0 B1 hB (newS hs hw3 hs)⟩
  case rest =>
    clear x0 x1 x2 x3 B0 B1 hs hB hw0
    obtain ⟨gb, rfl, hgb, G, B0, B1, hB⟩ := hcut
    have hs := B1.lt
    have hw0 := Below.refl wc.heap.size wc
    obtain ⟨x0, x1, x2, x3, -, -⟩ := keepL B0 B1 hB (hw0.mono hs)
    go_upto_region 2 with fail
    go_cut [6] from 12 to 16 (fun s6 wx => ∃ gc, s6 = .pointer (some ⟨gc, 0, none⟩) ∧ Box wx gc p q ∧ Box wx gb p q ∧ Below w.heap.size w wx)
    case first =>
      go_region_held3 (fun w' => w'.cell? ⟨w.heap.size, 0, none⟩ = some (.int .i64 a) ∧ w'.cell? ⟨w.heap.size, 1, none⟩ = some (.int .i64 b) ∧ w'.cell? ⟨w.heap.size + 1, 0, none⟩ = some (.int .i64 c) ∧ w'.cell? ⟨w.heap.size + 1, 1, none⟩ = some (.int .i64 d) ∧ w.heap.size + 1 < w'.heap.size ∧ Below w.heap.size w w')
        (first | (exact keepL B0 B1 hB (hw0.drew.mono hs)) | (exact keepL B0 B1 hB (hw1.mono hs)) | (exact keepL B0 B1 hB (hw2.mono hs)) | (exact keepL B0 B1 hB (hw3.mono hs)) | (exact keepL B0 B1 hB ((newB hs hw0 _).drew)) | (exact keepL B0 B1 hB (newB hs hw1 _)) | (exact keepL B0 B1 hB (newB hs hw2 _)) | (exact keepL B0 B1 hB (newB hs hw3 _)) | (exact keepL B0 B1 hB (newS hs hw3 ng)) | (exact keepL B0 B1 hB (newS hs hw3 (Nat.lt_succ_self _))) | (fail))
        (first | (go_at_call_of 6 a; refine (toTurn_any a b _).mono ?_; rintro o w1 ⟨rfl, hbn⟩; (first | (have hw1 := below_on hw0.drew hbn; clear hbn) | (obtain ⟨hw1, nb, ng⟩ := newboxd hs hw0 hbn; clear hbn; (try simp at nb); (try simp at ng))))
               | (go_at_call 6; refine (toTurn_any c d _).mono ?_; rintro o w2 ⟨rfl, hbn⟩; (first | (have hw2 := below_on hw1 hbn; have nb := nb.on hbn; clear hbn) | (have hw2 := below_on hw1 hbn; clear hbn) | (obtain ⟨hw2, nb, ng⟩ := newbox hs hw1 hbn; clear hbn; (try simp at nb); (try simp at ng))))
               | (go_at_call 9; refine (him _).mono ?_; rintro o w3 ⟨rfl, hbn⟩; (first | (have hw3 := below_on hw2 hbn; have nb := nb.on hbn; clear hbn) | (have hw3 := below_on hw2 hbn; clear hbn) | (obtain ⟨hw3, nb, ng⟩ := newbox hs hw2 hbn; clear hbn; (try simp at nb); (try simp at ng))); (try (have n0 := nb.lt; have n1 := nb.c0; have n2 := nb.c1; have n5 := nb.f0; have n6 := nb.f1))))
      all_goals
        go_wp2_with fail
        go_meet
        case rel =>
          first
          | exact ⟨_, rfl, box_new _ _ _ _, (G.on hw3).alloc _, (keepB B0 B1 hB (newB hs hw3 _)).2.2⟩
          | exact ⟨_, rfl, nb.set _ _, (G.on hw3).far (apart G.lt hw2), (keepB B0 B1 hB (newS hs hw3 ng)).2.2⟩
          | exact ⟨_, rfl, nb.set _ _, (G.on hw3).far (apart G.lt hw1), (keepB B0 B1 hB (newS hs hw3 ng)).2.2⟩
          | exact ⟨_, rfl, nb.set _ _, (G.on hw3).far (apart G.lt hw0), (keepB B0 B1 hB (newS hs hw3 hs)).2.2⟩
    case rest =>
      clear x0 x1 x2 x3 B0 B1 hs hB hw0 hgb G
      obtain ⟨gc, rfl, H, G, hB⟩ := hcut
      obtain ⟨-, c0, c1, -, -⟩ := H
      obtain ⟨-, d0, d1, -, -⟩ := G
      go_wp2_with fail
      refine (eqTurn_any p q _).mono ?_
      rintro o w9 ⟨rfl, hb9⟩
      have hB := below_on hB hb9
      clear hb9 c0 c1 d0 d1
      go_wp2
      go_ret
      exact ⟨rfl, hB⟩
end Go.Proofs.Ytpnbkmlmbfogdaa
