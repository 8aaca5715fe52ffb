/- A queue of the last words, as the model keeps it. -/
import Derived.Test.YtbhfkhlhfpmkmaaTaKlM
import Derived.Deep.Cut
namespace Go.Proofs.Ytbhfkhlhfpmkmaa
open Go.RowKit
set_option maxRecDepth 20000 in
set_option maxHeartbeats 2000000 in
theorem sKeep (b n c : Nat) (f : Nat → Int) (d x : Int) (w : World) (hn : n ≤ 1048576) (h : IL w (some ⟨b, 0, none⟩) n f) :
    Calls Try.prog 12 #[.slice (some ⟨b, 0, none⟩) n c, .int .i64 d, .int .i64 x] w fun e w' => AnsTb w w' e (klN n d) (klF n f d x) (klB n d) ∧ Below w.heap.size w w' := by
  obtain ⟨i0, hi, hzz⟩ := Option.map_eq_some_iff.1 infoI
  simp only [Prod.mk.injEq] at hzz
  obtain ⟨hz0, hz1, hz2⟩ := hzz
  by_cases h1 : d < 1
  · have HA : Hid (AnsTb w w (.returned (.tuple #[.slice none 0 0, .bool false])) (klN n d) (klF n f d x) (klB n d)) := kl_nil (klB_bad (.inl h1))
    go_enter Try.func12, Try.ntmps12
    go_wp2
    go_ret2
    exact ⟨HA.out, Below.refl _ _⟩
  by_cases h2 : 10 < d
  · have HA : Hid (AnsTb w w (.returned (.tuple #[.slice none 0 0, .bool false])) (klN n d) (klF n f d x) (klB n d)) := kl_nil (klB_bad (.inr (.inl h2)))
    go_enter Try.func12, Try.ntmps12
    go_wp2
    go_ret2
    exact ⟨HA.out, Below.refl _ _⟩
  by_cases h3 : d < (n : Int)
  · have HA : Hid (AnsTb w w (.returned (.tuple #[.slice none 0 0, .bool false])) (klN n d) (klF n f d x) (klB n d)) := kl_nil (klB_bad (.inr (.inr h3)))
    go_enter Try.func12, Try.ntmps12
    go_wp2
    go_ret2
    exact ⟨HA.out, Below.refl _ _⟩
  have HK : Hid (klB n d = true) := klB_ok (by omega) (by omega) (by omega)
  have hnw := il_news (h.alloc (.cells #[] 3))
  go_enter Try.func12, Try.ntmps12
  go_upto_region 4 with (first | (at_builtin; refine wpList_append_own _ rfl _ _ 32 rfl w.heap.size 3 i0 (.int .i64 0) 1 8 Try.underlying32 hi hz0 hz1 hz2 rfl (by decide) _ _ _ rfl (own_new0 w w.heap.size (fun _ => 0) (Nat.le_refl _)) ⟨b, 0, none⟩ n c (vL f n) rfl (by rw [vL_len, Nat.mul_one]) hnw (vL_one f n) (by unfold maxLen; omega) (by omega) (by simp) ?_; intro v1 w1 hown1 hgrow1 _) | fail)
  have hO1 : Own w1 w.heap.size v1 n f := own_app0 hown1
  have hB1 : Below w.heap.size w w1 := ((Below.refl w.heap.size w).alloc (Nat.le_refl _) _).grown hgrow1 (by simp) (fun q hq => by simp [Value.ownBlock, Act.eval] at hq; omega)
  obtain ⟨sa, sc, rfl⟩ := hO1.shape
  clear hown1 hgrow1 hnw
  go_upto_region 5 with (first | (at_builtin; refine wpList_append_own _ rfl _ _ 32 rfl w.heap.size 3 i0 (.int .i64 0) 1 8 Try.underlying32 hi hz0 hz1 hz2 rfl (by decide) _ _ _ rfl (hO1.below ((Below.refl _ _).alloc (Nat.le_refl _) _)) ⟨w1.heap.size, 0, none⟩ 1 1 [.int .i64 x] rfl rfl (cell_one_new _ _ _) (fun y hy => by simp at hy; subst hy; rfl) (by unfold maxLen; omega) (by omega) (by have := hB1.size; rw [size_al]; omega) ?_; intro v2 w2 hown2 hgrow2 _) | fail)
  have hO2 : Own w2 w.heap.size v2 (n + 1) (put f n x) := own_put hown2
  have hB2 : Below w.heap.size w w2 := (hB1.alloc hB1.size _).grown hgrow2 (by rw [size_al]; have := hB1.size; omega) (fun q hq => (World.ownsRow.lt hO1 q hq).1)
  obtain ⟨g, cp, rfl, hg1, hg2, hP2⟩ := own_at hO2 (Nat.succ_pos _)
  clear hown2 hgrow2
  by_cases he : (n : Int) = d
  · have j1 : d < (n : Int) + 1 := by omega
    obtain ⟨A, hA1, hA2, -⟩ := slice1t g 0 (n + 1) cp (by omega) hg2
    obtain rfl := hA2 (by omega)
    have HE : Hid ((n : Int) = d) := he
    clear he
    rw [Nat.add_sub_cancel] at hA1
    have hL := il_drop (hP2.il)
    have hnw := il_news (hL.alloc (.cells #[] 3))
    go_wp2_with (first | (at_builtin; refine wpList_append_own _ rfl _ _ 32 rfl w.heap.size 3 i0 (.int .i64 0) 1 8 Try.underlying32 hi hz0 hz1 hz2 rfl (by decide) _ _ _ rfl (own_new0 w2 w.heap.size (fun _ => 0) hB2.size) ⟨g, 1, none⟩ n (cp - 1) (vL (fun i => put f n x (i + 1)) n) rfl (by rw [vL_len, Nat.mul_one]) hnw (vL_one _ n) (by unfold maxLen; omega) (by omega) (by have := hB2.size; rw [size_al]; omega) ?_; intro v3 w3 hown3 hgrow3 _; obtain ⟨sa3, sc3, rfl⟩ := (own_app0 hown3).shape) | fail)
    go_ret2
    have hB3 : Below w.heap.size w w3 := (hB2.alloc hB2.size _).grown hgrow3 (by rw [size_al]; have := hB2.size; omega) (fun q hq => by simp [Value.ownBlock, Act.eval] at hq; have := hB2.size; omega)
    refine ⟨kl_eq HK.out HE.out (fun i hi => ?_) (own_app0 hown3), hB3⟩
    unfold put
    by_cases e : i + 1 = n
    · rw [if_pos e, if_neg (by omega)]
    · rw [if_neg e, if_pos (by omega)]
  · have j1 : ¬ d < (n : Int) + 1 := by omega
    have HE : Hid (¬ (n : Int) = d) := he
    clear he
    go_wp2
    go_ret2
    refine ⟨kl_ne HK.out HE.out (fun i hi => ?_) hO2, hB2⟩
    unfold put
    by_cases e : i = n
    · rw [if_pos e, if_neg (by omega)]
    · rw [if_neg e, if_pos (by omega)]
end Go.Proofs.Ytbhfkhlhfpmkmaa
