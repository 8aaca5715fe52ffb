/- The product of a list of two quaternions, as the program reckons it. -/
import Derived.Test.YtnpbogabmnidcaaSpMul
namespace Go.Proofs.Ytnpbogabmnidcaa
open Go.RowKit

/-- a block of two quaternions -/
structure Pair (w : World) (b : Nat) (x0 x1 x2 x3 x4 x5 x6 x7 : Int) : Prop where
  lt : b < w.heap.size
  c0 : w.cell? ⟨b, 0, none⟩ = some (.int .i64 x0)
  c1 : w.cell? ⟨b, 1, none⟩ = some (.int .i64 x1)
  c2 : w.cell? ⟨b, 2, none⟩ = some (.int .i64 x2)
  c3 : w.cell? ⟨b, 3, none⟩ = some (.int .i64 x3)
  c4 : w.cell? ⟨b, 4, none⟩ = some (.int .i64 x4)
  c5 : w.cell? ⟨b, 5, none⟩ = some (.int .i64 x5)
  c6 : w.cell? ⟨b, 6, none⟩ = some (.int .i64 x6)
  c7 : w.cell? ⟨b, 7, none⟩ = some (.int .i64 x7)
theorem Pair.on {w w' : World} {b B : Nat} {x0 x1 x2 x3 x4 x5 x6 x7 : Int} (h : Pair w b x0 x1 x2 x3 x4 x5 x6 x7) (hb : Below B w w') (hB : b < B) : Pair w' b x0 x1 x2 x3 x4 x5 x6 x7 :=
  ⟨Nat.lt_of_lt_of_le h.lt hb.size, (hb.cell (p := ⟨b, 0, none⟩) hB).trans h.c0, (hb.cell (p := ⟨b, 1, none⟩) hB).trans h.c1, (hb.cell (p := ⟨b, 2, none⟩) hB).trans h.c2, (hb.cell (p := ⟨b, 3, none⟩) hB).trans h.c3, (hb.cell (p := ⟨b, 4, none⟩) hB).trans h.c4, (hb.cell (p := ⟨b, 5, none⟩) hB).trans h.c5, (hb.cell (p := ⟨b, 6, none⟩) hB).trans h.c6, (hb.cell (p := ⟨b, 7, none⟩) hB).trans h.c7⟩

set_option maxHeartbeats 2000000 in
theorem product_any (a b c d e f g h : Int) (L : Nat) (w : World) (hL : Pair w L a b c d e f g h) (ha : -1000000 ≤ a ∧ a ≤ 1000000) (hb : -1000000 ≤ b ∧ b ≤ 1000000) (hc : -1000000 ≤ c ∧ c ≤ 1000000) (hd : -1000000 ≤ d ∧ d ≤ 1000000) (he : -1000000 ≤ e ∧ e ≤ 1000000) (hf : -1000000 ≤ f ∧ f ≤ 1000000) (hg : -1000000 ≤ g ∧ g ≤ 1000000) (hk : -1000000 ≤ h ∧ h ≤ 1000000) :
    Calls Try.prog 22 #[.slice (some ⟨L, 0, none⟩) 2 2] w fun o w' => o = .returned (sp (mA a b c d e f g h) (mB a b c d e f g h) (mC a b c d e f g h) (mD a b c d e f g h)) ∧ Below w.heap.size w w' := by
  go_enter Try.func22, Try.ntmps22
  go_wp2_with fail
  go_loopw [10] (fun i wr => ∃ (k : Nat) (p q r s : Int), k ≤ 2 ∧ i = .int .i64 k ∧ (k = 0 → p = 1 ∧ q = 0 ∧ r = 0 ∧ s = 0) ∧ (k = 1 → p = a ∧ q = b ∧ r = c ∧ s = d) ∧ (k = 2 → p = mA a b c d e f g h ∧ q = mB a b c d e f g h ∧ r = mC a b c d e f g h ∧ s = mD a b c d e f g h) ∧ Box wr w.heap.size 0 0 0 0 ∧ Box wr (w.heap.size + 1) p q r s ∧ Below w.heap.size w wr) (fun i _ => 2 - (intOf i).toNat)
  case atStart =>
    obtain ⟨B0, B1, hB⟩ := boxes2 (Below.refl _ ((w.alloc (four 0 0 0 0 34)).alloc (four 1 0 0 0 34)))
    exact ⟨0, 1, 0, 0, 0, by omega, rfl, fun _ => ⟨rfl, rfl, rfl, rfl⟩, fun h => absurd h (by omega), fun h => absurd h (by omega), B0, B1, hB⟩
  case round =>
    obtain ⟨k, p, q, r, s, hk3, rfl, e0, e1, e2, B0, B1, hB⟩ := hrel
    have hk4 : k = 0 ∨ k = 1 ∨ k = 2 := by omega
    rcases hk4 with rfl | rfl | rfl
    · obtain ⟨rfl, rfl, rfl, rfl⟩ := e0 rfl
      clear e0 e1 e2
      obtain ⟨-, l0, l1, l2, l3, l4, l5, l6, l7⟩ := hL.on hB hL.lt
      have BB1 := B1
      obtain ⟨k0, k1, k2, k3, k4, -, -, -, -⟩ := B1
      go_wp2_with fail
      refine (times_any 1 0 0 0 a b c d _ (by omega) (by omega) (by omega) (by omega) ha hb hc hd).mono ?_
      rintro o w1 ⟨rfl, hb1⟩
      obtain ⟨-, hb1⟩ := boxes1 hb1
      have B0 := B0.on hb1
      have B1 := BB1.on hb1
      have hB := below_on hB hb1
      clear hb1 BB1 k0 k1 k2 k3 k4 l0 l1 l2 l3 l4 l5 l6 l7
      have BB1 := B1
      obtain ⟨k0, k1, k2, k3, k4, k5, k6, k7, k8⟩ := B1
      go_wp2
      go_roundw
      case rel => exact ⟨1, _, _, _, _, by omega, by go_num, fun h => absurd h (by omega), fun _ => ⟨by unfold mA; omega, by unfold mB; omega, by unfold mC; omega, by unfold mD; omega⟩, fun h => absurd h (by omega), B0.far (by omega), BB1.set _ _ _ _, below_four hB (by omega) _ _ _ _⟩
      case measure => simp [intOf]
    · obtain ⟨rfl, rfl, rfl, rfl⟩ := e1 rfl
      clear e0 e1 e2
      obtain ⟨-, l0, l1, l2, l3, l4, l5, l6, l7⟩ := hL.on hB hL.lt
      have BB1 := B1
      obtain ⟨k0, k1, k2, k3, k4, -, -, -, -⟩ := B1
      go_wp2_with fail
      refine (times_any p q r s e f g h _ ha hb hc hd he hf hg hk).mono ?_
      rintro o w1 ⟨rfl, hb1⟩
      obtain ⟨-, hb1⟩ := boxes1 hb1
      have B0 := B0.on hb1
      have B1 := BB1.on hb1
      have hB := below_on hB hb1
      clear hb1 BB1 k0 k1 k2 k3 k4 l0 l1 l2 l3 l4 l5 l6 l7
      have BB1 := B1
      obtain ⟨k0, k1, k2, k3, k4, k5, k6, k7, k8⟩ := B1
      go_wp2
      go_roundw
      case rel => exact ⟨2, _, _, _, _, by omega, by go_num, fun h => absurd h (by omega), fun h => absurd h (by omega), fun _ => ⟨rfl, rfl, rfl, rfl⟩, B0.far (by omega), BB1.set _ _ _ _, below_four hB (by omega) _ _ _ _⟩
      case measure => simp [intOf]
    · obtain ⟨rfl, rfl, rfl, rfl⟩ := e2 rfl
      clear e0 e1 e2
      have BB0 := B0
      obtain ⟨-, m1, m2, m3, m4, m5, m6, m7, m8⟩ := B0
      obtain ⟨k0, k1, k2, k3, k4, -, -, -, -⟩ := B1
      go_wp2
      (try simp only [Exit.inBlock, Exit.then])
      refine ret_box (Or.inr rfl) rfl rfl (BB0.set _ _ _ _) rfl ?_
      exact ⟨rfl, below_four hB (by omega) _ _ _ _⟩
end Go.Proofs.Ytnpbogabmnidcaa
