/- JoinSpin as both answer it. -/
import Derived.Test.YtnpbogabmnidcaaSpProd
namespace Go.Proofs.Ytnpbogabmnidcaa
open Go.RowKit

theorem m_in (a b c d e f g h : Int) (ha : -1000000 ≤ a ∧ a ≤ 1000000) (hb : -1000000 ≤ b ∧ b ≤ 1000000) (hc : -1000000 ≤ c ∧ c ≤ 1000000) (hd : -1000000 ≤ d ∧ d ≤ 1000000) (he : -1000000 ≤ e ∧ e ≤ 1000000) (hf : -1000000 ≤ f ∧ f ≤ 1000000) (hg : -1000000 ≤ g ∧ g ≤ 1000000) (hk : -1000000 ≤ h ∧ h ≤ 1000000) : (-4611686018427387904 ≤ mA a b c d e f g h ∧ mA a b c d e f g h ≤ 4611686018427387904) ∧ (-4611686018427387904 ≤ mB a b c d e f g h ∧ mB a b c d e f g h ≤ 4611686018427387904) ∧ (-4611686018427387904 ≤ mC a b c d e f g h ∧ mC a b c d e f g h ≤ 4611686018427387904) ∧ (-4611686018427387904 ≤ mD a b c d e f g h ∧ mD a b c d e f g h ≤ 4611686018427387904) := by
  have pae := mul_in ha he
  have paf := mul_in ha hf
  have pag := mul_in ha hg
  have pah := mul_in ha hk
  have pbe := mul_in hb he
  have pbf := mul_in hb hf
  have pbg := mul_in hb hg
  have pbh := mul_in hb hk
  have pce := mul_in hc he
  have pcf := mul_in hc hf
  have pcg := mul_in hc hg
  have pch := mul_in hc hk
  have pde := mul_in hd he
  have pdf := mul_in hd hf
  have pdg := mul_in hd hg
  have pdh := mul_in hd hk
  clear ha hb hc hd he hf hg hk
  unfold mA mB mC mD
  refine ⟨⟨?_, ?_⟩, ⟨?_, ?_⟩, ⟨?_, ?_⟩, ⟨?_, ?_⟩⟩ <;> omega

/-- a number of the joined spin, plain -/
def jn (a b c d e f g h x : Int) : Int := pl (mA a b c d e f g h) (mB a b c d e f g h) (mC a b c d e f g h) (mD a b c d e f g h) x
/-- whether both are good, and the joined one is within the limits -/
def jnB (a b c d e f g h : Int) : Bool := goodS a b c d && goodS e f g h && fitB (jn a b c d e f g h (mA a b c d e f g h)) (jn a b c d e f g h (mB a b c d e f g h)) (jn a b c d e f g h (mC a b c d e f g h)) (jn a b c d e f g h (mD a b c d e f g h))
abbrev jnS (a b c d e f g h : Int) : Value := sp (rd (jnB a b c d e f g h) (jn a b c d e f g h (mA a b c d e f g h))) (rd (jnB a b c d e f g h) (jn a b c d e f g h (mB a b c d e f g h))) (rd (jnB a b c d e f g h) (jn a b c d e f g h (mC a b c d e f g h))) (rd (jnB a b c d e f g h) (jn a b c d e f g h (mD a b c d e f g h)))

set_option maxHeartbeats 2000000 in
theorem specJoin_any (a b c d e f g h : Int) (w : World) :
    Calls Try.prog 13 #[sp a b c d, sp e f g h] w fun o w' => o = .returned (jnS a b c d e f g h) ∧ Below w.heap.size w w' := by
  have hr := fun w => specGood_any a b c d w
  have ht := fun w => specGood_any e f g h w
  cases g1 : goodS a b c d
  · have eb : jnB a b c d e f g h = false := by simp [jnB, g1]
    simp only [jnS, eb]
    rw [g1] at hr
    clear g1 eb ht
    go_enter Try.func13, Try.ntmps13
    go_wp2_with fail
    refine (hr _).mono ?_
    rintro o w1 ⟨rfl, hb1⟩
    obtain ⟨-, -, B2, hB⟩ := boxes3 hb1
    clear hb1
    have BB2 := B2
    obtain ⟨-, m1, m2, m3, m4, m5, m6, m7, m8⟩ := B2
    go_wp2
    (try simp only [Exit.inBlock, Exit.then])
    refine ret_box (Or.inl rfl) rfl rfl (BB2.set _ _ _ _) rfl ?_
    exact ⟨rfl, below_four hB (by omega) _ _ _ _⟩
  cases g2 : goodS e f g h
  · have eb : jnB a b c d e f g h = false := by simp [jnB, g2]
    simp only [jnS, eb]
    rw [g1] at hr
    rw [g2] at ht
    clear g1 g2 eb
    go_enter Try.func13, Try.ntmps13
    go_wp2_with fail
    refine (hr _).mono ?_
    rintro o w1 ⟨rfl, hb1⟩
    obtain ⟨-, B1, B2, hB⟩ := boxes3 hb1
    clear hb1
    obtain ⟨-, k1, k2, k3, k4, -, -, -, -⟩ := B1
    go_wp2_with fail
    refine (ht _).mono ?_
    rintro o w2 ⟨rfl, hb2⟩
    have B2 := B2.on hb2
    have hB := below_on hB hb2
    clear hb2 k1 k2 k3 k4
    have BB2 := B2
    obtain ⟨-, m1, m2, m3, m4, m5, m6, m7, m8⟩ := B2
    go_wp2
    (try simp only [Exit.inBlock, Exit.then])
    refine ret_box (Or.inl rfl) rfl rfl (BB2.set _ _ _ _) rfl ?_
    exact ⟨rfl, below_four hB (by omega) _ _ _ _⟩
  obtain ⟨hn1, ha, hb, hc, hd⟩ := goodS_in g1
  obtain ⟨hn2, he, hf, hg, hk⟩ := goodS_in g2
  obtain ⟨iA, iB, iC, iD⟩ := m_in a b c d e f g h ha hb hc hd he hf hg hk
  have hM := fun w => l4Mul_any a b c d e f g h w ha hb hc hd he hf hg hk
  have hn := nought_mul hn1 hn2
  have hP := fun w => l4Plain_any (mA a b c d e f g h) (mB a b c d e f g h) (mC a b c d e f g h) (mD a b c d e f g h) w hn iA iB iC iD
  have hnp := nought_plain hn
  have eb : jnB a b c d e f g h = fitB (jn a b c d e f g h (mA a b c d e f g h)) (jn a b c d e f g h (mB a b c d e f g h)) (jn a b c d e f g h (mC a b c d e f g h)) (jn a b c d e f g h (mD a b c d e f g h)) := by simp [jnB, g1, g2]
  have eg : goodS (jn a b c d e f g h (mA a b c d e f g h)) (jn a b c d e f g h (mB a b c d e f g h)) (jn a b c d e f g h (mC a b c d e f g h)) (jn a b c d e f g h (mD a b c d e f g h)) = jnB a b c d e f g h := by
    rw [eb]
    unfold goodS
    have : noughtB (jn a b c d e f g h (mA a b c d e f g h)) (jn a b c d e f g h (mB a b c d e f g h)) (jn a b c d e f g h (mC a b c d e f g h)) (jn a b c d e f g h (mD a b c d e f g h)) = false := hnp
    rw [this]
    simp
  have hG := fun w => specGood_any (jn a b c d e f g h (mA a b c d e f g h)) (jn a b c d e f g h (mB a b c d e f g h)) (jn a b c d e f g h (mC a b c d e f g h)) (jn a b c d e f g h (mD a b c d e f g h)) w
  rw [eg] at hG
  rw [g1] at hr
  rw [g2] at ht
  have hP : ∀ w, Calls Try.prog 19 #[sp (mA a b c d e f g h) (mB a b c d e f g h) (mC a b c d e f g h) (mD a b c d e f g h)] w fun o w' => o = .returned (sp (jn a b c d e f g h (mA a b c d e f g h)) (jn a b c d e f g h (mB a b c d e f g h)) (jn a b c d e f g h (mC a b c d e f g h)) (jn a b c d e f g h (mD a b c d e f g h))) ∧ Below w.heap.size w w' := hP
  simp only [jnS]
  clear ha hb hc hd he hf hg hk iA iB iC iD hn1 hn2 hn hnp eb eg g1 g2
  generalize jnB a b c d e f g h = z at hG ⊢
  generalize jn a b c d e f g h (mA a b c d e f g h) = p at hG hP ⊢
  generalize jn a b c d e f g h (mB a b c d e f g h) = q at hG hP ⊢
  generalize jn a b c d e f g h (mC a b c d e f g h) = r at hG hP ⊢
  generalize jn a b c d e f g h (mD a b c d e f g h) = s at hG hP ⊢
  generalize mA a b c d e f g h = p' at hM hP
  generalize mB a b c d e f g h = q' at hM hP
  generalize mC a b c d e f g h = r' at hM hP
  generalize mD a b c d e f g h = s' at hM hP
  cases z
  · go_enter Try.func13, Try.ntmps13
    go_wp2_with fail
    refine (hr _).mono ?_
    rintro o w1 ⟨rfl, hb1⟩
    obtain ⟨B0, B1, B2, hB⟩ := boxes3 hb1
    clear hb1
    have BB1 := B1
    obtain ⟨-, k1, k2, k3, k4, -, -, -, -⟩ := B1
    go_wp2_with fail
    refine (ht _).mono ?_
    rintro o w2 ⟨rfl, hb2⟩
    have B0 := B0.on hb2
    have B1 := BB1.on hb2
    have B2 := B2.on hb2
    have hB := below_on hB hb2
    clear hb2 k1 k2 k3 k4 BB1
    obtain ⟨-, k1, k2, k3, k4, -, -, -, -⟩ := B0
    obtain ⟨-, l1, l2, l3, l4, -, -, -, -⟩ := B1
    go_wp2_with fail
    refine (hM _).mono ?_
    rintro o w3 ⟨rfl, hb3⟩
    have B2 := B2.on hb3
    have hB := below_on hB hb3
    clear hb3 k1 k2 k3 k4 l1 l2 l3 l4
    go_wp2_with fail
    refine (hP _).mono ?_
    rintro o w4 ⟨rfl, hb4⟩
    have B2 := B2.on hb4
    have hB := below_on hB hb4
    clear hb4
    go_wp2_with fail
    refine (hG _).mono ?_
    rintro o w5 ⟨rfl, hb5⟩
    obtain ⟨B5, hb5⟩ := boxes1 hb5
    have B2 := B2.on hb5
    have hB := below_on hB hb5
    clear hb5
    obtain ⟨-, k1, k2, k3, k4, -, -, -, -⟩ := B5
    have BB2 := B2
    obtain ⟨-, m1, m2, m3, m4, m5, m6, m7, m8⟩ := B2
    go_wp2
    (try simp only [Exit.inBlock, Exit.then])
    refine ret_box (Or.inl rfl) rfl rfl (BB2.set _ _ _ _) rfl ?_
    exact ⟨rfl, below_four hB (by omega) _ _ _ _⟩
  · go_enter Try.func13, Try.ntmps13
    go_wp2_with fail
    refine (hr _).mono ?_
    rintro o w1 ⟨rfl, hb1⟩
    obtain ⟨B0, B1, B2, hB⟩ := boxes3 hb1
    clear hb1
    have BB1 := B1
    obtain ⟨-, k1, k2, k3, k4, -, -, -, -⟩ := B1
    go_wp2_with fail
    refine (ht _).mono ?_
    rintro o w2 ⟨rfl, hb2⟩
    have B0 := B0.on hb2
    have B1 := BB1.on hb2
    have B2 := B2.on hb2
    have hB := below_on hB hb2
    clear hb2 k1 k2 k3 k4 BB1
    obtain ⟨-, k1, k2, k3, k4, -, -, -, -⟩ := B0
    obtain ⟨-, l1, l2, l3, l4, -, -, -, -⟩ := B1
    go_wp2_with fail
    refine (hM _).mono ?_
    rintro o w3 ⟨rfl, hb3⟩
    have B2 := B2.on hb3
    have hB := below_on hB hb3
    clear hb3 k1 k2 k3 k4 l1 l2 l3 l4
    go_wp2_with fail
    refine (hP _).mono ?_
    rintro o w4 ⟨rfl, hb4⟩
    have B2 := B2.on hb4
    have hB := below_on hB hb4
    clear hb4
    go_wp2_with fail
    refine (hG _).mono ?_
    rintro o w5 ⟨rfl, hb5⟩
    obtain ⟨B5, hb5⟩ := boxes1 hb5
    have B2 := B2.on hb5
    have hB := below_on hB hb5
    clear hb5
    obtain ⟨-, k1, k2, k3, k4, -, -, -, -⟩ := B5
    have BB2 := B2
    obtain ⟨-, m1, m2, m3, m4, m5, m6, m7, m8⟩ := B2
    go_wp2
    (try simp only [Exit.inBlock, Exit.then])
    refine ret_box (Or.inl rfl) rfl rfl (BB2.set _ _ _ _) rfl ?_
    exact ⟨rfl, below_four hB (by omega) _ _ _ _⟩
end Go.Proofs.Ytnpbogabmnidcaa
