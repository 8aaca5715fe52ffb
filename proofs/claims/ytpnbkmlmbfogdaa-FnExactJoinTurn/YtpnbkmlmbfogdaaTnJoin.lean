/- JoinTurn as the program and as the document's model answer it. -/
import Derived.Test.YtpnbkmlmbfogdaaTnGoodI
namespace Go.Proofs.Ytpnbkmlmbfogdaa
open Go.RowKit

def jP (a b c d : Int) : Int := if goodT a b && goodT c d then tellP (a * d + c * b) (b * d - a * c) else 0
def jQ (a b c d : Int) : Int := if goodT a b && goodT c d then tellQ (a * d + c * b) (b * d - a * c) else 0
theorem j_no {a b c d : Int} (h : (goodT a b && goodT c d) = false) : jP a b c d = 0 ∧ jQ a b c d = 0 := by unfold jP jQ; rw [h]; exact ⟨rfl, rfl⟩
theorem j_yes {a b c d : Int} (h : (goodT a b && goodT c d) = true) : jP a b c d = tellP (a * d + c * b) (b * d - a * c) ∧ jQ a b c d = tellQ (a * d + c * b) (b * d - a * c) := by unfold jP jQ; rw [h]; exact ⟨rfl, rfl⟩

set_option maxHeartbeats 2000000 in
theorem implJoin_any (a b c d : Int) (w : World) (ha : I64 a) (hb : I64 b) (hc : I64 c) (hd : I64 d) :
    Calls Try.prog 9 #[tn a b, tn c d] w fun o w' => o = .returned (tn (jP a b c d) (jQ a b c d)) ∧ Below w.heap.size w w' := by
  have l1 := fun w => implGood_any a b w ha hb
  have l2 := fun w => implGood_any c d w hc hd
  clear ha hb hc hd
  cases g1 : goodT a b
  · have ej : (goodT a b && goodT c d) = false := by rw [g1]; rfl
    rw [(j_no ej).1, (j_no ej).2]
    rw [g1] at l1
    clear ej g1 l2
    go_enter Try.func9, Try.ntmps9
    go_wp2_with fail
    refine (l1 _).mono ?_
    rintro o w1 ⟨rfl, hb1⟩
    obtain ⟨B0, B1, B2, hB⟩ := boxes3 hb1
    clear hb1 B0 B1
    have BB := B2
    obtain ⟨k0, k1, k2, k3, k4⟩ := B2
    go_wp2
    (try simp only [Exit.inBlock, Exit.then])
    exact ret_box rfl rfl (BB.set 0 0) rfl ⟨rfl, below_two hB (by omega) _ _⟩
  cases g2 : goodT c d
  · have ej : (goodT a b && goodT c d) = false := by rw [g1, g2]; rfl
    rw [(j_no ej).1, (j_no ej).2]
    rw [g1] at l1
    rw [g2] at l2
    clear ej g1 g2
    go_enter Try.func9, Try.ntmps9
    go_wp2_with fail
    refine (l1 _).mono ?_
    rintro o w1 ⟨rfl, hb1⟩
    obtain ⟨B0, B1, B2, hB⟩ := boxes3 hb1
    clear hb1 B0
    obtain ⟨m0, m1, m2, m3, m4⟩ := B1
    go_wp2_with fail
    refine (l2 _).mono ?_
    rintro o w2 ⟨rfl, hb2⟩
    have BB := B2.on hb2
    have hB := below_on hB hb2
    clear hb2 B2 m0 m1 m2 m3 m4
    have B2 := BB
    obtain ⟨k0, k1, k2, k3, k4⟩ := B2
    go_wp2
    (try simp only [Exit.inBlock, Exit.then])
    exact ret_box rfl rfl (BB.set 0 0) rfl ⟨rfl, below_two hB (by omega) _ _⟩
  have ej : (goodT a b && goodT c d) = true := by rw [g1, g2]; rfl
  obtain ⟨a0, a1, b0, b1⟩ := good_fit g1
  obtain ⟨c0, c1, d0, d1⟩ := good_fit g2
  have pad := @mul_in a d ⟨a0, a1⟩ ⟨by omega, by omega⟩
  have pcb := @mul_in c b ⟨c0, c1⟩ ⟨by omega, by omega⟩
  have pbd := @mul_in b d ⟨by omega, by omega⟩ ⟨by omega, by omega⟩
  have pac := @mul_in a c ⟨a0, a1⟩ ⟨c0, c1⟩
  have l3 := fun w => plain_half (a * d + c * b) (b * d - a * c) w ⟨by omega, by omega⟩ ⟨by omega, by omega⟩ (join_ne (good_ne g1) (good_ne g2))
  rw [(j_yes ej).1, (j_yes ej).2]
  rw [g1] at l1
  rw [g2] at l2
  clear ej g1 g2 a0 a1 b0 b1 c0 c1 d0 d1
  generalize tellP (a * d + c * b) (b * d - a * c) = x at l3 ⊢
  generalize tellQ (a * d + c * b) (b * d - a * c) = y at l3 ⊢
  go_enter Try.func9, Try.ntmps9
  go_wp2_with fail
  refine (l1 _).mono ?_
  rintro o w1 ⟨rfl, hb1⟩
  obtain ⟨B0, B1, B2, hB⟩ := boxes3 hb1
  clear hb1
  have M := B1
  obtain ⟨m0, m1, m2, m3, m4⟩ := M
  go_wp2_with fail
  refine (l2 _).mono ?_
  rintro o w2 ⟨rfl, hb2⟩
  have B0 := B0.on hb2
  have B1 := B1.on hb2
  have B2 := B2.on hb2
  have hB := below_on hB hb2
  clear hb2 m0 m1 m2 m3 m4
  obtain ⟨m0, m1, m2, m3, m4⟩ := B0
  obtain ⟨n0, n1, n2, n3, n4⟩ := B1
  go_wp2_with fail
  refine (l3 _).mono ?_
  rintro o w3 ⟨rfl, hb3⟩
  have BB := B2.on hb3
  have hB := below_on hB hb3
  clear hb3 m0 m1 m2 m3 m4 n0 n1 n2 n3 n4 B2
  have B2 := BB
  obtain ⟨k0, k1, k2, k3, k4⟩ := B2
  go_wp2
  (try simp only [Exit.inBlock, Exit.then])
  exact ret_box rfl rfl (BB.set _ _) rfl ⟨rfl, below_two hB (by omega) _ _⟩
end Go.Proofs.Ytpnbkmlmbfogdaa
