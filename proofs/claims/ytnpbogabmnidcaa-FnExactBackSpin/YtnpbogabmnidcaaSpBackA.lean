/- BackSpin as both answer it. -/
import Derived.Test.YtnpbogabmnidcaaSpPlainA
namespace Go.Proofs.Ytnpbogabmnidcaa
open Go.RowKit

theorem nought_back {a b c d : Int} (h : noughtB a b c d = false) : noughtB a (-b) (-c) (-d) = false := by
  have e : ∀ x : Int, decide (-x = 0) = decide (x = 0) := fun x => by by_cases h : x = 0 <;> simp [h]
  unfold noughtB at h ⊢
  rw [e, e, e]
  exact h
theorem neg_in {a : Int} (ha : -1000000 ≤ a ∧ a ≤ 1000000) : -1000000 ≤ -a ∧ -a ≤ 1000000 := by omega

set_option maxHeartbeats 1000000 in
theorem backQ_any (a b c d : Int) (w : World) (hb : -1000000 ≤ b ∧ b ≤ 1000000) (hc : -1000000 ≤ c ∧ c ≤ 1000000) (hd : -1000000 ≤ d ∧ d ≤ 1000000) :
    Calls Try.prog 23 #[sp a b c d] w fun e w' => e = .returned (sp a (-b) (-c) (-d)) ∧ Below w.heap.size w w' := by
  go_enter Try.func23, Try.ntmps23
  go_wp2
  go_returns
  refine ⟨rfl, ?_⟩
  repeat' (first | exact Below.refl _ _ | refine below_dr ?_ _ | refine Below.alloc ?_ (by simp <;> omega) _ | refine Below.setCell ?_ (by simp <;> omega) _)

/-- the numbers of the turn back -/
def bk (a b c d x : Int) : Int := pl a (-b) (-c) (-d) x

set_option maxHeartbeats 2000000 in
theorem implBack_any (a b c d : Int) (w : World) :
    Calls Try.prog 16 #[sp a b c d] w fun e w' => e = .returned (sp (rd (goodS a b c d) (bk a b c d a)) (rd (goodS a b c d) (bk a b c d (-b))) (rd (goodS a b c d) (bk a b c d (-c))) (rd (goodS a b c d) (bk a b c d (-d)))) ∧ Below w.heap.size w w' := by
  have hr := fun w => readSpin_any a b c d w
  cases hg : goodS a b c d
  · rw [hg] at hr
    clear hg
    go_enter Try.func16, Try.ntmps16
    go_wp2_with fail
    refine (hr _).mono ?_
    rintro e w1 ⟨rfl, hb1⟩
    obtain ⟨-, B1, hB⟩ := boxes2 hb1
    clear hb1
    have BB1 := B1
    obtain ⟨m0, m1, m2, m3, m4, m5, m6, m7, m8⟩ := B1
    go_wp2
    (try simp only [Exit.inBlock, Exit.then])
    refine ret_box (Or.inl rfl) rfl rfl ((BB1.set _ _ _ _).alloc _) rfl ?_
    exact ⟨rfl, (below_four hB (by omega) _ _ _ _).alloc (by rw [size_four]; exact hB.size) _⟩
  · obtain ⟨hn, ha, hb, hc, hd⟩ := goodS_in hg
    have hk := fun w => backQ_any a b c d w hb hc hd
    have ht := fun w => tell_plain a (-b) (-c) (-d) w (nought_back hn) ha (neg_in hb) (neg_in hc) (neg_in hd)
    rw [hg] at hr
    simp only [rd, if_true] at hr ⊢
    clear hg hn ha hb hc hd
    go_enter Try.func16, Try.ntmps16
    go_wp2_with fail
    refine (hr _).mono ?_
    rintro e w1 ⟨rfl, hb1⟩
    obtain ⟨-, B1, hB⟩ := boxes2 hb1
    clear hb1
    go_wp2_with fail
    refine (hk _).mono ?_
    rintro e w2 ⟨rfl, hb2⟩
    obtain ⟨-, hb2⟩ := boxes1 hb2
    have B1 := B1.on hb2
    have hB := below_on hB hb2
    clear hb2
    go_wp2_with fail
    refine (ht _).mono ?_
    rintro e w3 ⟨rfl, hb3⟩
    have B1 := B1.on hb3
    have hB := below_on hB hb3
    clear hb3
    have BB1 := B1
    obtain ⟨-, m1, m2, m3, m4, m5, m6, m7, m8⟩ := B1
    go_wp2
    (try simp only [Exit.inBlock, Exit.then])
    refine ret_box (Or.inl rfl) rfl rfl (BB1.set _ _ _ _) rfl ?_
    exact ⟨rfl, below_four hB (by omega) _ _ _ _⟩

set_option maxHeartbeats 2000000 in
theorem specBack_any (a b c d : Int) (w : World) :
    Calls Try.prog 15 #[sp a b c d] w fun e w' => e = .returned (sp (rd (goodS a b c d) (bk a b c d a)) (rd (goodS a b c d) (bk a b c d (-b))) (rd (goodS a b c d) (bk a b c d (-c))) (rd (goodS a b c d) (bk a b c d (-d)))) ∧ Below w.heap.size w w' := by
  have hr := fun w => specGood_any a b c d w
  cases hg : goodS a b c d
  · rw [hg] at hr
    clear hg
    go_enter Try.func15, Try.ntmps15
    go_wp2_with fail
    refine (hr _).mono ?_
    rintro e w1 ⟨rfl, hb1⟩
    obtain ⟨-, B1, hB⟩ := boxes2 hb1
    clear hb1
    have BB1 := B1
    obtain ⟨m0, m1, m2, m3, m4, m5, m6, m7, m8⟩ := B1
    go_wp2
    (try simp only [Exit.inBlock, Exit.then])
    refine ret_box (Or.inl rfl) rfl rfl (BB1.set _ _ _ _) rfl ?_
    exact ⟨rfl, below_four hB (by omega) _ _ _ _⟩
  · obtain ⟨hn, ha, hb, hc, hd⟩ := goodS_in hg
    have ht := fun w => model_plain a (-b) (-c) (-d) w (nought_back hn) ha (neg_in hb) (neg_in hc) (neg_in hd)
    rw [hg] at hr
    simp only [rd, if_true] at ⊢
    clear hg hn
    go_enter Try.func15, Try.ntmps15
    go_wp2_with fail
    refine (hr _).mono ?_
    rintro e w1 ⟨rfl, hb1⟩
    obtain ⟨B0, B1, hB⟩ := boxes2 hb1
    clear hb1
    obtain ⟨-, k1, k2, k3, k4, -, -, -, -⟩ := B0
    go_wp2_with fail
    refine (ht _).mono ?_
    rintro e w2 ⟨rfl, hb2⟩
    have B1 := B1.on hb2
    have hB := below_on hB hb2
    clear hb2
    have BB1 := B1
    obtain ⟨-, m1, m2, m3, m4, m5, m6, m7, m8⟩ := B1
    go_wp2
    (try simp only [Exit.inBlock, Exit.then])
    refine ret_box (Or.inl rfl) rfl rfl (BB1.set _ _ _ _) rfl ?_
    exact ⟨rfl, below_four hB (by omega) _ _ _ _⟩
end Go.Proofs.Ytnpbogabmnidcaa
