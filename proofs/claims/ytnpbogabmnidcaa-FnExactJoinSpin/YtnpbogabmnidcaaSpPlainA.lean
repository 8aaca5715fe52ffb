/- What the program tells of a quaternion, and PlainSpin as both answer it. -/
import Derived.Test.YtnpbogabmnidcaaSpGood
import Derived.Test.YtnpbogabmnidcaaSpModel
namespace Go.Proofs.Ytnpbogabmnidcaa
open Go.RowKit

set_option maxHeartbeats 2000000 in
theorem tell_any (a b c d : Int) (w : World) (hn : noughtB a b c d = false) (ha : -4611686018427387904 ≤ a ∧ a ≤ 4611686018427387904) (hb : -4611686018427387904 ≤ b ∧ b ≤ 4611686018427387904) (hc : -4611686018427387904 ≤ c ∧ c ≤ 4611686018427387904) (hd : -4611686018427387904 ≤ d ∧ d ≤ 4611686018427387904) (p q r s : Int) (g : Bool)
    (ep : Int.tdiv a (div4 a b c d) = p) (eq : Int.tdiv b (div4 a b c d) = q) (er : Int.tdiv c (div4 a b c d) = r) (es : Int.tdiv d (div4 a b c d) = s) (eg : fitB p q r s = g) :
    Calls Try.prog 20 #[sp a b c d] w fun e w' => e = .returned (sp (rd g p) (rd g q) (rd g r) (rd g s)) ∧ Below w.heap.size w w' := by
  have hp := fun w => plainQ_any a b c d w hn ha hb hc hd
  rw [ep, eq, er, es] at hp
  clear ep eq er es
  have hf := fun w => fits_any p q r s w
  rw [eg] at hf
  clear eg hn ha hb hc hd
  cases g
  · go_enter Try.func20, Try.ntmps20
    go_wp2_with fail
    refine (hp _).mono ?_
    rintro e w1 ⟨rfl, hb1⟩
    obtain ⟨-, B1, hB⟩ := boxes2 hb1
    clear hb1
    go_wp2_with fail
    refine (hf _).mono ?_
    rintro e w2 ⟨rfl, hb2⟩
    obtain ⟨B2, hb2⟩ := boxes1 hb2
    have B1 := B1.on hb2
    have hB := below_on hB hb2
    clear hb2 B2
    have BB1 := B1
    obtain ⟨-, m1, m2, m3, m4, m5, m6, m7, m8⟩ := B1
    go_wp2
    (try simp only [Exit.inBlock, Exit.then])
    refine ret_box (Or.inl rfl) rfl rfl (BB1.set _ _ _ _) rfl ?_
    exact ⟨rfl, below_four hB (by omega) _ _ _ _⟩
  · go_enter Try.func20, Try.ntmps20
    go_wp2_with fail
    refine (hp _).mono ?_
    rintro e w1 ⟨rfl, hb1⟩
    obtain ⟨-, B1, hB⟩ := boxes2 hb1
    clear hb1
    go_wp2_with fail
    refine (hf _).mono ?_
    rintro e w2 ⟨rfl, hb2⟩
    obtain ⟨B2, hb2⟩ := boxes1 hb2
    have B1 := B1.on hb2
    have hB := below_on hB hb2
    clear hb2
    have BB1 := B1
    obtain ⟨-, m1, m2, m3, m4, m5, m6, m7, m8⟩ := B1
    obtain ⟨-, l1, l2, l3, l4, -, -, -, -⟩ := B2
    go_wp2
    (try simp only [Exit.inBlock, Exit.then])
    refine ret_box (Or.inl rfl) rfl rfl (BB1.set _ _ _ _) rfl ?_
    exact ⟨rfl, below_four hB (by omega) _ _ _ _⟩

/-- numbers of a good spin -/
theorem goodS_in {a b c d : Int} (h : goodS a b c d = true) : noughtB a b c d = false ∧ (-1000000 ≤ a ∧ a ≤ 1000000) ∧ (-1000000 ≤ b ∧ b ≤ 1000000) ∧ (-1000000 ≤ c ∧ c ≤ 1000000) ∧ (-1000000 ≤ d ∧ d ≤ 1000000) := by
  simp [goodS, fitB, inB] at h
  exact ⟨h.2, h.1.1.1.1, h.1.1.1.2, h.1.1.2, h.1.2⟩
theorem tdiv_fit (a g : Int) (ha : -1000000 ≤ a ∧ a ≤ 1000000) : inB (Int.tdiv a g) = true := by
  have h : (Int.tdiv a g).natAbs ≤ a.natAbs := by rw [Int.natAbs_tdiv]; exact Nat.div_le_self _ _
  generalize Int.tdiv a g = q at h ⊢
  unfold inB
  simp
  omega
theorem wide {a : Int} (ha : -1000000 ≤ a ∧ a ≤ 1000000) : -4611686018427387904 ≤ a ∧ a ≤ 4611686018427387904 := by omega

/-- the plain one of a spin -/
def pl (a b c d x : Int) : Int := Int.tdiv x (div4 a b c d)

/-- of numbers within the limits what is told is the plain one -/
theorem tell_plain (a b c d : Int) (w : World) (hn : noughtB a b c d = false) (ha : -1000000 ≤ a ∧ a ≤ 1000000) (hb : -1000000 ≤ b ∧ b ≤ 1000000) (hc : -1000000 ≤ c ∧ c ≤ 1000000) (hd : -1000000 ≤ d ∧ d ≤ 1000000) :
    Calls Try.prog 20 #[sp a b c d] w fun e w' => e = .returned (sp (pl a b c d a) (pl a b c d b) (pl a b c d c) (pl a b c d d)) ∧ Below w.heap.size w w' :=
  tell_any a b c d w hn (wide ha) (wide hb) (wide hc) (wide hd) (pl a b c d a) (pl a b c d b) (pl a b c d c) (pl a b c d d) true rfl rfl rfl rfl (by unfold fitB pl; rw [tdiv_fit _ _ ha, tdiv_fit _ _ hb, tdiv_fit _ _ hc, tdiv_fit _ _ hd]; rfl)
theorem model_plain (a b c d : Int) (w : World) (hn : noughtB a b c d = false) (ha : -1000000 ≤ a ∧ a ≤ 1000000) (hb : -1000000 ≤ b ∧ b ≤ 1000000) (hc : -1000000 ≤ c ∧ c ≤ 1000000) (hd : -1000000 ≤ d ∧ d ≤ 1000000) :
    Calls Try.prog 19 #[sp a b c d] w fun e w' => e = .returned (sp (pl a b c d a) (pl a b c d b) (pl a b c d c) (pl a b c d d)) ∧ Below w.heap.size w w' :=
  l4Plain_any a b c d w hn (wide ha) (wide hb) (wide hc) (wide hd)

set_option maxHeartbeats 2000000 in
theorem implPlain_any (a b c d : Int) (w : World) :
    Calls Try.prog 11 #[sp a b c d] w fun e w' => e = .returned (sp (rd (goodS a b c d) (pl a b c d a)) (rd (goodS a b c d) (pl a b c d b)) (rd (goodS a b c d) (pl a b c d c)) (rd (goodS a b c d) (pl a b c d d))) ∧ Below w.heap.size w w' := by
  have hr := fun w => readSpin_any a b c d w
  cases hg : goodS a b c d
  · rw [hg] at hr
    clear hg
    go_enter Try.func11, Try.ntmps11
    go_wp2_with fail
    refine (hr _).mono ?_
    rintro e w1 ⟨rfl, hb1⟩
    obtain ⟨-, B1, hB⟩ := boxes2 hb1
    clear hb1
    have BB1 := B1
    obtain ⟨m0, m1, m2, m3, m4, m5, m6, m7, m8⟩ := B1
    go_wp2
    (try simp only [Exit.inBlock, Exit.then])
    refine ret_box (Or.inl rfl) rfl rfl ((BB1.set _ _ _ _).alloc _) rfl ?_
    exact ⟨rfl, (below_four hB (by omega) _ _ _ _).alloc (by rw [size_four]; exact hB.size) _⟩
  · obtain ⟨hn, ha, hb, hc, hd⟩ := goodS_in hg
    have ht := fun w => tell_plain a b c d w hn ha hb hc hd
    rw [hg] at hr
    simp only [rd, if_true] at hr ⊢
    clear hg hn ha hb hc hd
    go_enter Try.func11, Try.ntmps11
    go_wp2_with fail
    refine (hr _).mono ?_
    rintro e w1 ⟨rfl, hb1⟩
    obtain ⟨-, B1, hB⟩ := boxes2 hb1
    clear hb1
    go_wp2_with fail
    refine (ht _).mono ?_
    rintro e w2 ⟨rfl, hb2⟩
    obtain ⟨-, hb2⟩ := boxes1 hb2
    have B1 := B1.on hb2
    have hB := below_on hB hb2
    clear hb2
    have BB1 := B1
    obtain ⟨-, m1, m2, m3, m4, m5, m6, m7, m8⟩ := B1
    go_wp2
    (try simp only [Exit.inBlock, Exit.then])
    refine ret_box (Or.inl rfl) rfl rfl (BB1.set _ _ _ _) rfl ?_
    exact ⟨rfl, below_four hB (by omega) _ _ _ _⟩

set_option maxHeartbeats 2000000 in
theorem specPlain_any (a b c d : Int) (w : World) :
    Calls Try.prog 10 #[sp a b c d] w fun e w' => e = .returned (sp (rd (goodS a b c d) (pl a b c d a)) (rd (goodS a b c d) (pl a b c d b)) (rd (goodS a b c d) (pl a b c d c)) (rd (goodS a b c d) (pl a b c d d))) ∧ Below w.heap.size w w' := by
  have hr := fun w => specGood_any a b c d w
  cases hg : goodS a b c d
  · rw [hg] at hr
    clear hg
    go_enter Try.func10, Try.ntmps10
    go_wp2_with fail
    refine (hr _).mono ?_
    rintro e w1 ⟨rfl, hb1⟩
    obtain ⟨-, B1, hB⟩ := boxes2 hb1
    clear hb1
    have BB1 := B1
    obtain ⟨m0, m1, m2, m3, m4, m5, m6, m7, m8⟩ := B1
    go_wp2
    (try simp only [Exit.inBlock, Exit.then])
    refine ret_box (Or.inl rfl) rfl rfl (BB1.set _ _ _ _) rfl ?_
    exact ⟨rfl, below_four hB (by omega) _ _ _ _⟩
  · obtain ⟨hn, ha, hb, hc, hd⟩ := goodS_in hg
    have ht := fun w => model_plain a b c d w hn ha hb hc hd
    rw [hg] at hr
    simp only [rd, if_true] at ⊢
    clear hg hn ha hb hc hd
    go_enter Try.func10, Try.ntmps10
    go_wp2_with fail
    refine (hr _).mono ?_
    rintro e w1 ⟨rfl, hb1⟩
    obtain ⟨B0, B1, hB⟩ := boxes2 hb1
    clear hb1
    obtain ⟨-, k1, k2, k3, k4, -, -, -, -⟩ := B0
    go_wp2_with fail
    refine (ht _).mono ?_
    rintro e w2 ⟨rfl, hb2⟩
    have B1 := B1.on hb2
    have hB := below_on hB hb2
    clear hb2
    have BB1 := B1
    obtain ⟨-, m1, m2, m3, m4, m5, m6, m7, m8⟩ := B1
    go_wp2
    (try simp only [Exit.inBlock, Exit.then])
    refine ret_box (Or.inl rfl) rfl rfl (BB1.set _ _ _ _) rfl ?_
    exact ⟨rfl, below_four hB (by omega) _ _ _ _⟩
end Go.Proofs.Ytnpbogabmnidcaa
