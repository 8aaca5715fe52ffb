/- Good turns, as the program says it; the law on them. -/
import Derived.Test.YtpnbkmlmbfogdaaTnPlain
namespace Go.Proofs.Ytpnbkmlmbfogdaa
open Go.RowKit

theorem tdiv_half (a g : Int) (ha : Half a) : Half (Int.tdiv a g) := by
  have h : (Int.tdiv a g).natAbs ≤ a.natAbs := by rw [Int.natAbs_tdiv]; exact Nat.div_le_self _ _
  unfold Half at *
  generalize Int.tdiv a g = q at h ⊢
  omega
theorem dv_half {p q : Int} (hp : Half p) (hq : Half q) : dvW p q = sg p q := by
  have h := gcd_half hp hq
  unfold dvW sg
  rw [gcdW_half hp hq]
  unfold Half at h
  rw [wrap_id (by omega) (by omega)]
theorem told_half {p q : Int} (hp : Half p) (hq : Half q) : cutP (wrap64 (Int.tdiv p (dvW p q))) (wrap64 (Int.tdiv q (dvW p q))) = tellP p q ∧ cutQ (wrap64 (Int.tdiv p (dvW p q))) (wrap64 (Int.tdiv q (dvW p q))) = tellQ p q := by
  rw [dv_half hp hq]
  have h1 := tdiv_half p (sg p q) hp
  have h2 := tdiv_half q (sg p q) hq
  unfold Half at h1 h2
  rw [wrap_id (n := Int.tdiv p (sg p q)) (by omega) (by omega), wrap_id (n := Int.tdiv q (sg p q)) (by omega) (by omega)]
  exact ⟨rfl, rfl⟩
theorem plain_half (p q : Int) (w : World) (hp : Half p) (hq : Half q) (hz : ¬ (p = 0 ∧ q = 0)) :
    Calls Try.prog 13 #[.int .i64 p, .int .i64 q] w fun e w' => e = .returned (tn (tellP p q) (tellQ p q)) ∧ Below w.heap.size w w' := by
  have h := plain_any p q w ⟨by unfold Half at hp; omega, by unfold Half at hp; omega⟩ ⟨by unfold Half at hq; omega, by unfold Half at hq; omega⟩ hz
  rw [(told_half hp hq).1, (told_half hp hq).2] at h
  exact h
theorem cut_fit (x y : Int) : -1000000 ≤ cutP x y ∧ cutP x y ≤ 1000000 ∧ 0 ≤ cutQ x y ∧ cutQ x y ≤ 1000000 := by
  unfold cutP cutQ
  split
  · next h => exact fit_iff.mp h
  · omega

/-- what the program compares: not nought, and its own plain one -/
theorem good_cmp (p q : Int) (hp : I64 p) (hq : I64 q) (hz : ¬ (p = 0 ∧ q = 0)) :
    (decide (p = cutP (wrap64 (Int.tdiv p (dvW p q))) (wrap64 (Int.tdiv q (dvW p q)))) && decide (q = cutQ (wrap64 (Int.tdiv p (dvW p q))) (wrap64 (Int.tdiv q (dvW p q))))) = goodT p q := by
  have hc := cut_fit (wrap64 (Int.tdiv p (dvW p q))) (wrap64 (Int.tdiv q (dvW p q)))
  by_cases hf : fitT p q = true
  · have k := fit_iff.mp hf
    have e := @told_half p q ⟨by omega, by omega⟩ ⟨by omega, by omega⟩
    rw [e.1, e.2]
    have g := good_iff hz hf
    cases hg : goodT p q
    · rw [hg] at g
      have : ¬ (tellP p q = p ∧ tellQ p q = q) := fun k => by have := g.mpr k; cases this
      by_cases h1 : p = tellP p q
      · by_cases h2 : q = tellQ p q
        · exact absurd ⟨h1.symm, h2.symm⟩ this
        · rw [decide_eq_false h2, Bool.and_false]
      · rw [decide_eq_false h1, Bool.false_and]
    · have := g.mp hg
      rw [this.1, this.2]
      simp
  · have hg : goodT p q = false := by unfold goodT; cases h : fitT p q <;> simp_all
    rw [hg]
    generalize cutP (wrap64 (Int.tdiv p (dvW p q))) (wrap64 (Int.tdiv q (dvW p q))) = x at hc ⊢
    generalize cutQ (wrap64 (Int.tdiv p (dvW p q))) (wrap64 (Int.tdiv q (dvW p q))) = y at hc ⊢
    by_cases h1 : p = x
    · by_cases h2 : q = y
      · exact absurd (fit_iff.mpr (by omega)) hf
      · rw [decide_eq_false h2, Bool.and_false]
    · rw [decide_eq_false h1, Bool.false_and]

set_option maxHeartbeats 1000000 in
theorem implGood_nought (w : World) :
    Calls Try.prog 7 #[tn 0 0] w fun e w' => e = .returned (.bool false) ∧ Below w.heap.size w w' := by
  go_enter Try.func7, Try.ntmps7
  go_wp2_with fail
  go_region
  go_wp2
  go_ret
  refine ⟨rfl, ?_⟩
  repeat' (first | exact Below.refl _ _ | refine below_dr ?_ _ | refine Below.alloc ?_ (by simp <;> omega) _ | refine Below.setCell ?_ (by simp <;> omega) _)

theorem eq_turn (a b c d : Int) (w : World) : (Op.equalIn 10000 25 (tn a b) (tn c d)).run Try.prog w = .ok (decide (a = c) && decide (b = d)) w := by
  have hf : Try.prog.underlying 25 = some (.struct (Try.prog.fieldsOf 25)) := by
    have h := Try.underlying25
    unfold Program.fieldsOf
    rw [h]
  rw [run_equalIn_struct w 9999 25 _ _ hf (by kernel_rfl)]
  have hp : ∀ (xs : Array Value) (k : Nat) (v : Int), xs[k]? = some (.int .i64 v) → ∀ w, (part 3 xs k).run Try.prog w = .ok (.int .i64 v) w := by
    intro xs k v h w
    simp [part, go_sem, h]
  have he : ∀ (x y : Int) (w : World), (Op.equalIn 9999 3 (.int .i64 x) (.int .i64 y)).run Try.prog w = .ok (x == y) w := fun x y w => run_equalIn_int w 9998 3 .i64 .i64 x y Try.underlying3
  have q0 := hp #[.int .i64 a, .int .i64 b] 0 a rfl
  have q1 := hp #[.int .i64 a, .int .i64 b] 1 b rfl
  have z0 := hp #[.int .i64 c, .int .i64 d] 0 c rfl
  have z1 := hp #[.int .i64 c, .int .i64 d] 1 d rfl
  unfold Program.fieldsOf
  rw [Try.underlying25]
  simp [Op.eqFields, Sem.run_bind, q0, q1, z0, z1, Result.andThen_ok, he, Sem.run_ite, Sem.run_pure]
  by_cases h1 : a = c
  · by_cases h2 : b = d <;> simp [h1, h2]
  · simp [h1]

theorem keepG {w W w2 : World} {a b : Int} (B0 : Box W w.heap.size a b) (hB : Below w.heap.size w W) (k : Below (w.heap.size + 1) W w2) :
    w2.cell? ⟨w.heap.size, 0, none⟩ = some (.int .i64 a) ∧ w2.cell? ⟨w.heap.size, 1, none⟩ = some (.int .i64 b) ∧ w.heap.size < w2.heap.size ∧ Below w.heap.size w w2 := by
  have C0 := B0.below k (by omega)
  exact ⟨C0.c0, C0.c1, C0.lt, hB.trans (k.mono (by omega))⟩

set_option maxHeartbeats 1000000 in
theorem implGood_some (a b : Int) (w : World) (ha : I64 a) (hb : I64 b) (hz : ¬ (a = 0 ∧ b = 0)) :
    Calls Try.prog 7 #[tn a b] w fun e w' => e = .returned (.bool (goodT a b)) ∧ Below w.heap.size w w' := by
  have lp := fun w => plain_any a b w ha hb hz
  rw [← good_cmp a b ha hb hz]
  generalize cutP (wrap64 (Int.tdiv a (dvW a b))) (wrap64 (Int.tdiv b (dvW a b))) = x at lp ⊢
  generalize cutQ (wrap64 (Int.tdiv a (dvW a b))) (wrap64 (Int.tdiv b (dvW a b))) = y at lp ⊢
  have hq := eq_turn a b 0 0
  have hn : (decide (a = 0) && decide (b = 0)) = false := by
    by_cases h1 : a = 0
    · have h2 : ¬ b = 0 := fun h2 => hz ⟨h1, h2⟩
      rw [decide_eq_false h2, Bool.and_false]
    · rw [decide_eq_false h1, Bool.false_and]
  rw [hn] at hq
  clear hn hz
  have hq2 := eq_turn a b x y
  generalize (decide (a = x) && decide (b = y)) = r at hq2 ⊢
  have B0 := box_new w a b 25
  have hB := below_new (Below.refl _ (w.alloc (two a b 25)))
  go_enter Try.func7, Try.ntmps7
  go_upto_region 1 with fail
  generalize w.alloc (two a b 25) = W at B0 hB ⊢
  have hs := B0.lt
  have hw0 := Below.refl W.heap.size W
  obtain ⟨x0, x1, -, -⟩ := keepG B0 hB (hw0.mono hs)
  go_region_held3 (fun w' => w'.cell? ⟨w.heap.size, 0, none⟩ = some (.int .i64 a) ∧ w'.cell? ⟨w.heap.size, 1, none⟩ = some (.int .i64 b) ∧ w.heap.size < w'.heap.size ∧ Below w.heap.size w w')
    (first | (exact keepG B0 hB (hw0.drew.mono hs)) | (exact keepG B0 hB (hw1.mono hs)) | (fail))
    (first | (go_at_call 13; refine (lp _).mono ?_; rintro o w1 ⟨rfl, hbn⟩; have hw1 := below_on hw0.drew hbn; clear hbn))
  go_wp2
  go_ret
  exact ⟨rfl, (keepG B0 hB (hw1.mono hs)).2.2.2⟩

theorem implGood_any (a b : Int) (w : World) (ha : I64 a) (hb : I64 b) :
    Calls Try.prog 7 #[tn a b] w fun e w' => e = .returned (.bool (goodT a b)) ∧ Below w.heap.size w w' := by
  by_cases hz : a = 0 ∧ b = 0
  · obtain ⟨rfl, rfl⟩ := hz
    exact implGood_nought w
  · exact implGood_some a b w ha hb hz

set_option maxHeartbeats 1000000 in
theorem goodLaw (a b : Int) (w : World) (ha : I64 a) (hb : I64 b) :
    Calls Try.prog 3 #[tn a b] w fun e w' => e = .returned (.bool true) ∧ Below w.heap.size w w' := by
  have ls := fun w => specGood_any a b w ha hb
  have li := fun w => implGood_any a b w ha hb
  generalize goodT a b = r at ls li
  clear ha hb
  go_enter Try.func3, Try.ntmps3
  go_wp2_with fail
  refine (toTurn_any a b _).mono ?_
  rintro e w1 ⟨rfl, hb1⟩
  obtain ⟨B0, hB⟩ := boxes1 hb1
  clear hb1
  go_wp2_with fail
  refine (ls _).mono ?_
  rintro e w2 ⟨rfl, hb2⟩
  have B0 := B0.on hb2
  have hB := below_on hB hb2
  clear hb2
  obtain ⟨k0, k1, k2, k3, k4⟩ := B0
  go_wp2_with fail
  refine (toTurn_any a b _).mono ?_
  rintro e w3 ⟨rfl, hb3⟩
  have hB := below_on hB hb3
  clear hb3
  go_wp2_with fail
  refine (li _).mono ?_
  rintro e w4 ⟨rfl, hb4⟩
  have hB := below_on hB hb4
  clear hb4
  go_wp2
  go_ret
  exact ⟨rfl, hB⟩
end Go.Proofs.Ytpnbkmlmbfogdaa
