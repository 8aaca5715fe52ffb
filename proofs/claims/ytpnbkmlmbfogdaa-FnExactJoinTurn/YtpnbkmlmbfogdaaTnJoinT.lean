/- JoinTurn as the document's model answers it: the whole of it. -/
import Derived.Test.YtpnbkmlmbfogdaaTnJoinS
namespace Go.Proofs.Ytpnbkmlmbfogdaa
open Go.RowKit

set_option maxHeartbeats 2000000 in
theorem specJoin_any (a b c d : Int) (w : World) (ha : I64 a) (hb : I64 b) (hc : I64 c) (hd : I64 d) :
    Calls Try.prog 8 #[tn a b, tn c d] w fun o w' => o = .returned (tn (jP a b c d) (jQ a b c d)) ∧ Below w.heap.size w w' := by
  have l1 := fun w => specGood_any a b w ha hb
  have l2 := fun w => specGood_any c d w hc hd
  clear ha hb hc hd
  cases g1 : goodT a b
  · have ej : (goodT a b && goodT c d) = false := by rw [g1]; rfl
    rw [(j_no ej).1, (j_no ej).2]
    rw [g1] at l1
    clear ej g1 l2
    go_enter Try.func8, Try.ntmps8
    go_wp2_with fail
    refine (l1 _).mono ?_
    rintro o w1 ⟨rfl, hb1⟩
    obtain ⟨B0, B1, B2, hB⟩ := boxes3 hb1
    clear hb1 B0 B1
    have BB := B2
    obtain ⟨k0, k1, k2, k3, k4⟩ := B2
    go_wp2
    (try simp only [Exit.inBlock, Exit.then])
    exact ret_box rfl rfl (BB.set 0 0) rfl ⟨rfl, below_two hB (by omega) _ _⟩
  cases g2 : goodT c d
  · have ej : (goodT a b && goodT c d) = false := by rw [g1, g2]; rfl
    rw [(j_no ej).1, (j_no ej).2]
    rw [g1] at l1
    rw [g2] at l2
    clear ej g1 g2
    go_enter Try.func8, Try.ntmps8
    go_wp2_with fail
    refine (l1 _).mono ?_
    rintro o w1 ⟨rfl, hb1⟩
    obtain ⟨B0, B1, B2, hB⟩ := boxes3 hb1
    clear hb1 B0
    obtain ⟨m0, m1, m2, m3, m4⟩ := B1
    go_wp2_with fail
    refine (l2 _).mono ?_
    rintro o w2 ⟨rfl, hb2⟩
    have BB := B2.on hb2
    have hB := below_on hB hb2
    clear hb2 B2 m0 m1 m2 m3 m4
    have B2 := BB
    obtain ⟨k0, k1, k2, k3, k4⟩ := B2
    go_wp2
    (try simp only [Exit.inBlock, Exit.then])
    exact ret_box rfl rfl (BB.set 0 0) rfl ⟨rfl, below_two hB (by omega) _ _⟩
  have ej : (goodT a b && goodT c d) = true := by rw [g1, g2]; rfl
  have l3 := fun w => l5Join_any a b c d w g1 g2
  rw [(j_yes ej).1, (j_yes ej).2]
  rw [g1] at l1
  rw [g2] at l2
  clear ej g1 g2
  generalize tellP (a * d + c * b) (b * d - a * c) = x at l3 ⊢
  generalize tellQ (a * d + c * b) (b * d - a * c) = y at l3 ⊢
  generalize fitT (pP (a * d + c * b) (b * d - a * c)) (pQ (a * d + c * b) (b * d - a * c)) = z at l3
  go_enter Try.func8, Try.ntmps8
  go_wp2_with fail
  refine (l1 _).mono ?_
  rintro o w1 ⟨rfl, hb1⟩
  obtain ⟨B0, B1, B2, hB⟩ := boxes3 hb1
  clear hb1
  have M := B1
  obtain ⟨m0, m1, m2, m3, m4⟩ := M
  go_wp2_with fail
  refine (l2 _).mono ?_
  rintro o w2 ⟨rfl, hb2⟩
  have B0 := B0.on hb2
  have B1 := B1.on hb2
  have B2 := B2.on hb2
  have hB := below_on hB hb2
  clear hb2 m0 m1 m2 m3 m4
  obtain ⟨m0, m1, m2, m3, m4⟩ := B0
  obtain ⟨n0, n1, n2, n3, n4⟩ := B1
  go_wp2_with fail
  refine (l3 _).mono ?_
  rintro o w3 ⟨rfl, hb3⟩
  have BB := B2.on hb3
  have hB := below_on hB hb3
  clear hb3 m0 m1 m2 m3 m4 n0 n1 n2 n3 n4 B2
  have B2 := BB
  obtain ⟨k0, k1, k2, k3, k4⟩ := B2
  go_wp2
  (try simp only [Exit.inBlock, Exit.then])
  exact ret_box rfl rfl ((BB.set _ _).alloc _) rfl ⟨rfl, (below_two hB (by omega) _ _).alloc (by rw [size_two]; exact hB.size) _⟩
end Go.Proofs.Ytpnbkmlmbfogdaa
