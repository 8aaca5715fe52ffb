/- What FnPlant and FnHold draw: a list of numbers. -/
import Derived.Test.YtnoaonflphameaaHdDraw
namespace Go.Proofs.Ytnoaonflphameaa
open Go.RowKit

theorem int_eq {x y : Int} (h : x = y) : Value.int .i64 x = .int .i64 y := by rw [h]
def AnsLv (w w' : World) (e : Ending) (C : Nat) (a : Option Addr) (len cap n : Nat) (m : Nat) : Prop := ∃ (x : Option Addr) (c : Nat) (F : Nat → Int) (n' : Nat), e = .returned (.slice x m c) ∧ LQ w' w.heap.size w'.heap.size x m F ∧ n' ≤ n + 6 * m + 4 ∧ Cur w' C a len cap n' ∧ Turns C (C + 1) w w'

set_option maxHeartbeats 4000000 in
theorem levels_any (C : Nat) (a : Option Addr) (len cap n : Nat) (m : Nat) (w : World) (h : Cur w C a len cap n) (hn : n ≤ 800000) (hm : m ≤ 100) :
    Calls Try.prog 41 #[.pointer (some ⟨C, 0, none⟩), .int .i64 (m : Int)] w fun e w' => AnsLv w w' e C a len cap n m := by
  obtain ⟨i0, hi, hzz⟩ := Option.map_eq_some_iff.1 infoI
  simp only [Prod.mk.injEq] at hzz
  obtain ⟨hz0, hz1, hz2⟩ := hzz
  have hC := h.lt
  go_enter Try.func41, Try.ntmps41
  go_wp2_with fail
  refine (level_any C a len cap n _ h (by omega)).mono ?_
  rintro e w1 ⟨v1, n1, rfl, hn1, hc1, hT1⟩
  clear h
  go_wp2_with fail
  go_loopw [1, 5, 6] (fun im vo at_ wr => ∃ (k : Nat) (v : Int) (F : Nat → Int) (n' : Nat), k ≤ m ∧ im = .int .i64 ((m : Int) - (k : Int)) ∧ at_ = .int .i64 v ∧ Own wr w.heap.size vo k F ∧ n' ≤ n + 4 + 6 * k ∧ Cur wr C a len cap n' ∧ Turns C (C + 1) w wr) (fun im _ _ _ => (intOf im).toNat)
  case atStart => exact ⟨0, v1, fun _ => 0, n1, Nat.zero_le _, by simp, rfl, ⟨rfl, .inl ⟨rfl, rfl⟩⟩, by omega, hc1, hT1⟩
  case round =>
    obtain ⟨k, v, F, n2, hk, rfl, rfl, hown, hn2, hc2, hT2⟩ := hrel
    clear hc1 hT1
    by_cases hlt : k < m
    · have j1 : (0 : Int) < (m : Int) - (k : Int) := by omega
      go_wp2_with fail
      refine (one_any C a len cap n2 4 _ hc2 (by omega)).mono ?_
      rintro e w3 ⟨q, n3, rfl, hn3, hc3, hO⟩
      have hT3 := hT2.trans (on_turns hO)
      have hown3 := own_turns hown (on_turns hO) (by omega)
      clear hc2 hT2 hown hO
      cases q with
      | false =>
        have hs5 := hT3.size
        have hclt := hc3.lt
        go_wp2_with (at_builtin; refine wpList_append_own _ rfl _ _ 23 rfl w.heap.size 3 i0 (.int .i64 0) 1 8 Try.underlying23 hi hz0 hz1 hz2 rfl (by decide) _ _ _ rfl (World.ownsRow.alloc hown3 _) ⟨w3.heap.size, 0, none⟩ 1 1 [.int .i64 v] rfl rfl (cell_one_new _ _ _) (fun x hx => by simp at hx; subst hx; rfl) (by unfold maxLen; omega) (by omega) (by simp; omega) ?_; intro vN w6 hown6 hgrow6 _)
        have hBx : Below w.heap.size w3 w6 := ((Below.refl w.heap.size w3).alloc (by omega) (.cells #[.int .i64 v] 3)).grown hgrow6 (by simp; omega) (fun q hq => (World.ownsRow.lt hown3 q hq).1)
        exact ⟨⟨k + 1, v, put F k v, n3, by omega, int_eq (by omega), rfl, own_put hown6, by omega, hc3.below hBx (by omega), turns_below hT3 hBx (Nat.le_refl _)⟩, by simp [intOf]; omega⟩
      | true =>
        go_wp2_with fail
        refine (level_any C a len cap n3 _ hc3 (by omega)).mono ?_
        rintro e w5 ⟨v5, n5, rfl, hn5, hc5, hT5'⟩
        have hT5 := hT3.trans hT5'
        have hown5 := own_turns hown3 hT5' (by omega)
        have hs5 := hT5.size
        have hclt := hc5.lt
        clear hc3 hT3 hown3 hT5'
        go_wp2_with (at_builtin; refine wpList_append_own _ rfl _ _ 23 rfl w.heap.size 3 i0 (.int .i64 0) 1 8 Try.underlying23 hi hz0 hz1 hz2 rfl (by decide) _ _ _ rfl (World.ownsRow.alloc hown5 _) ⟨w5.heap.size, 0, none⟩ 1 1 [.int .i64 v5] rfl rfl (cell_one_new _ _ _) (fun x hx => by simp at hx; subst hx; rfl) (by unfold maxLen; omega) (by omega) (by simp; omega) ?_; intro vN w6 hown6 hgrow6 _)
        have hBx : Below w.heap.size w5 w6 := ((Below.refl w.heap.size w5).alloc (by omega) (.cells #[.int .i64 v5] 3)).grown hgrow6 (by simp; omega) (fun q hq => (World.ownsRow.lt hown5 q hq).1)
        exact ⟨⟨k + 1, v5, put F k v5, n5, by omega, int_eq (by omega), rfl, own_put hown6, by omega, hc5.below hBx (by omega), turns_below hT5 hBx (Nat.le_refl _)⟩, by simp [intOf]; omega⟩
    · have hke : k = m := by omega
      subst hke
      obtain ⟨x, c, rfl⟩ := hown.shape
      go_wp2
      go_ret
      exact ⟨x, c, F, n2, rfl, hown.lq, by omega, hc2, hT2⟩
end Go.Proofs.Ytnoaonflphameaa
