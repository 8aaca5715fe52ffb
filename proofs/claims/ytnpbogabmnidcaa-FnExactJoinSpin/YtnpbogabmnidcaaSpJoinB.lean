/- JoinSpin as the program answers it. -/
import Derived.Test.YtnpbogabmnidcaaSpJoinA
namespace Go.Proofs.Ytnpbogabmnidcaa
open Go.RowKit

theorem pair_new (w : World) (o : Obj) (x0 x1 x2 x3 x4 x5 x6 x7 : Int) (t : TypeId) : Pair ((w.alloc o).alloc (.cells #[.int .i64 x0, .int .i64 x1, .int .i64 x2, .int .i64 x3, .int .i64 x4, .int .i64 x5, .int .i64 x6, .int .i64 x7] t)) (w.heap.size + 1) x0 x1 x2 x3 x4 x5 x6 x7 ∧ True := by
  refine ⟨⟨by simp, ?_, ?_, ?_, ?_, ?_, ?_, ?_, ?_⟩, trivial⟩ <;> simp [go_sem]

set_option maxHeartbeats 2000000 in
theorem implJoin_any (a b c d e f g h : Int) (w : World) :
    Calls Try.prog 14 #[sp a b c d, sp e f g h] w fun o w' => o = .returned (jnS a b c d e f g h) ∧ Below w.heap.size w w' := by
  have hr := fun w => readSpin_any a b c d w
  have ht := fun w => readSpin_any e f g h w
  cases g1 : goodS a b c d
  · have eb : jnB a b c d e f g h = false := by simp [jnB, g1]
    simp only [jnS, eb]
    rw [g1] at hr
    clear g1 eb
    go_enter Try.func14, Try.ntmps14
    go_wp2_with fail
    refine (hr _).mono ?_
    rintro o w1 ⟨rfl, hb1⟩
    obtain ⟨-, B1, B2, hB⟩ := boxes3 hb1
    clear hb1
    have BB1 := B1
    obtain ⟨k0, k1, k2, k3, k4, -, -, -, -⟩ := B1
    go_wp2_with fail
    refine (ht _).mono ?_
    rintro o w2 ⟨rfl, hb2⟩
    obtain ⟨-, hb2⟩ := boxes1 hb2
    have B2 := B2.on hb2
    have hB := below_on hB hb2
    clear hb2 k0 k1 k2 k3 k4 BB1
    have BB2 := B2
    obtain ⟨m0, m1, m2, m3, m4, m5, m6, m7, m8⟩ := B2
    generalize goodS e f g h = z
    go_wp2
    (try simp only [Exit.inBlock, Exit.then])
    refine ret_box (Or.inl rfl) rfl rfl ((BB2.set _ _ _ _).alloc _) rfl ?_
    exact ⟨rfl, (below_four hB (by omega) _ _ _ _).alloc (by rw [size_four]; exact hB.size) _⟩
  cases g2 : goodS e f g h
  · have eb : jnB a b c d e f g h = false := by simp [jnB, g2]
    simp only [jnS, eb]
    rw [g1] at hr
    rw [g2] at ht
    clear g1 g2 eb
    go_enter Try.func14, Try.ntmps14
    go_wp2_with fail
    refine (hr _).mono ?_
    rintro o w1 ⟨rfl, hb1⟩
    obtain ⟨-, B1, B2, hB⟩ := boxes3 hb1
    clear hb1
    have BB1 := B1
    obtain ⟨k0, k1, k2, k3, k4, -, -, -, -⟩ := B1
    go_wp2_with fail
    refine (ht _).mono ?_
    rintro o w2 ⟨rfl, hb2⟩
    obtain ⟨-, hb2⟩ := boxes1 hb2
    have B2 := B2.on hb2
    have hB := below_on hB hb2
    clear hb2 k0 k1 k2 k3 k4 BB1
    have BB2 := B2
    obtain ⟨m0, m1, m2, m3, m4, m5, m6, m7, m8⟩ := B2
    go_wp2
    (try simp only [Exit.inBlock, Exit.then])
    refine ret_box (Or.inl rfl) rfl rfl ((BB2.set _ _ _ _).alloc _) rfl ?_
    exact ⟨rfl, (below_four hB (by omega) _ _ _ _).alloc (by rw [size_four]; exact hB.size) _⟩
  obtain ⟨hn1, ha, hb, hc, hd⟩ := goodS_in g1
  obtain ⟨hn2, he, hf, hg, hk⟩ := goodS_in g2
  obtain ⟨iA, iB, iC, iD⟩ := m_in a b c d e f g h ha hb hc hd he hf hg hk
  have hM := fun L w hL => product_any a b c d e f g h L w hL ha hb hc hd he hf hg hk
  have hn := nought_mul hn1 hn2
  have eb : jnB a b c d e f g h = fitB (jn a b c d e f g h (mA a b c d e f g h)) (jn a b c d e f g h (mB a b c d e f g h)) (jn a b c d e f g h (mC a b c d e f g h)) (jn a b c d e f g h (mD a b c d e f g h)) := by simp [jnB, g1, g2]
  have hT := fun w => tell_any (mA a b c d e f g h) (mB a b c d e f g h) (mC a b c d e f g h) (mD a b c d e f g h) w hn iA iB iC iD (jn a b c d e f g h (mA a b c d e f g h)) (jn a b c d e f g h (mB a b c d e f g h)) (jn a b c d e f g h (mC a b c d e f g h)) (jn a b c d e f g h (mD a b c d e f g h)) (jnB a b c d e f g h) rfl rfl rfl rfl eb.symm
  rw [g1] at hr
  rw [g2] at ht
  simp only [rd, if_true] at hr ht
  simp only [jnS]
  clear ha hb hc hd he hf hg hk iA iB iC iD hn1 hn2 hn eb g1 g2
  generalize rd (jnB a b c d e f g h) (jn a b c d e f g h (mA a b c d e f g h)) = p at hT ⊢
  generalize rd (jnB a b c d e f g h) (jn a b c d e f g h (mB a b c d e f g h)) = q at hT ⊢
  generalize rd (jnB a b c d e f g h) (jn a b c d e f g h (mC a b c d e f g h)) = r at hT ⊢
  generalize rd (jnB a b c d e f g h) (jn a b c d e f g h (mD a b c d e f g h)) = s at hT ⊢
  generalize mA a b c d e f g h = p' at hM hT
  generalize mB a b c d e f g h = q' at hM hT
  generalize mC a b c d e f g h = r' at hM hT
  generalize mD a b c d e f g h = s' at hM hT
  go_enter Try.func14, Try.ntmps14
  go_wp2_with fail
  refine (hr _).mono ?_
  rintro o w1 ⟨rfl, hb1⟩
  obtain ⟨-, B1, B2, hB⟩ := boxes3 hb1
  clear hb1
  obtain ⟨k0, k1, k2, k3, k4, -, -, -, -⟩ := B1
  go_wp2_with fail
  refine (ht _).mono ?_
  rintro o w2 ⟨rfl, hb2⟩
  obtain ⟨F, hb2⟩ := boxes1 hb2
  have B2 := B2.on hb2
  have hB := below_on hB hb2
  clear hb2 k0 k1 k2 k3 k4
  obtain ⟨k0, k1, k2, k3, k4, -, -, -, -⟩ := F
  go_wp2_with fail
  obtain ⟨hPair, hb0⟩ := pair_new w2 (four e f g h 34) a b c d e f g h 34
  refine (hM _ _ hPair).mono ?_
  rintro o w3 ⟨rfl, hb3⟩
  have hb3 := below_new (below_new hb3)
  have B2 := B2.on hb3
  have hB := below_on hB hb3
  clear hb3 hb0 hPair k0 k1 k2 k3 k4
  go_wp2_with fail
  refine (hT _).mono ?_
  rintro o w4 ⟨rfl, hb4⟩
  have B2 := B2.on hb4
  have hB := below_on hB hb4
  clear hb4
  have BB2 := B2
  obtain ⟨-, m1, m2, m3, m4, m5, m6, m7, m8⟩ := B2
  go_wp2
  (try simp only [Exit.inBlock, Exit.then])
  refine ret_box (Or.inl rfl) rfl rfl (BB2.set _ _ _ _) rfl ?_
  exact ⟨rfl, below_four hB (by omega) _ _ _ _⟩
end Go.Proofs.Ytnpbogabmnidcaa
