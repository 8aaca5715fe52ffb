/- A drawn who. -/
import Derived.Test.YtjmdghkhapajiaaAsDg
import Derived.Deep.Cut
import Derived.BigRegion
namespace Go.Proofs.Ytjmdghkhapajiaa
open Go.RowKit
/-- a drawn who, and the cursor behind it -/
def AnsWh (w w' : World) (e : Ending) (C : Nat) (a : Option Addr) (len cap n0 N : Nat) : Prop := ∃ (n' : Nat) (p : Option Addr) (c : Nat) (G : Nat → Int), e = .returned (.slice p N c) ∧ LQ w' w.heap.size w'.heap.size p N G ∧ n' ≤ n0 + 100 ∧ Cur w' C a len cap n' ∧ Turns C (C + 1) w w'
theorem Es.put {w wx : World} {C : Nat} {a : Option Addr} {len cap n' k j g c : Nat} {F : Nat → Int} (h : Es w wx C a len cap n' (.slice (some ⟨g, 0, none⟩) k c) k F) (hj : j < k) (hC : C < w.heap.size) (x : Int) : Es w (wx.setCell ⟨g, j, none⟩ (.int .i64 x)) C a len cap n' (.slice (some ⟨g, 0, none⟩) k c) k (Go.Proofs.Ytjmdghkhapajiaa.put F j x) := by
  have hg := (World.ownsRow.lt h.own g rfl).1
  have hO := (Only.refl g wx).set j (.int .i64 x)
  have h1 := (World.ownsRow.stored h.own j (.int .i64 x)).1
  rw [vL_set _ hj] at h1
  exact ⟨h.cur.below hO.below (by omega), h1, tn_below h.t hO.below hg⟩
set_option maxRecDepth 20000 in
set_option maxHeartbeats 8000000 in
theorem who_any (C : Nat) (a : Option Addr) (len cap n0 N : Nat) (w : World) (h : Cur w C a len cap n0) (hn0 : n0 ≤ 5000) (hN : N ≤ 7) :
    Calls Try.prog 33 #[.pointer (some ⟨C, 0, none⟩), .int .i64 (N : Int)] w fun e w' => AnsWh w w' e C a len cap n0 N := by
  obtain ⟨i0', hi, hzz⟩ := Option.map_eq_some_iff.1 infoI
  simp only [Prod.mk.injEq] at hzz
  obtain ⟨hz0, hz1, hz2⟩ := hzz
  have hC := h.lt
  go_enter Try.func33, Try.ntmps33
  go_wp2_with fail
  go_loopw [5, 6] (fun v i wr => ∃ (k : Nat) (F : Nat → Int), k ≤ N ∧ i = .int .i64 (k : Int) ∧ Es w wr C a len cap n0 v k F) (fun _ i _ => N - (intOf i).toNat)
  case atStart => exact ⟨0, fun _ => 0, Nat.zero_le _, rfl, h, World.ownsRow_nil _ _ _ _, turns_of (Below.refl _ _)⟩
  case round =>
    obtain ⟨k, F, hk, rfl, hE⟩ := hrel
    have i0 : (0 : Int) ≤ (k : Int) := by omega
    by_cases hlt : k < N
    · have i1 : (k : Int) < (N : Int) := by omega
      have hown := hE.own
      have hsz := hE.t.size
      go_wp2_with (at_builtin; refine wpList_append_own _ rfl _ _ 24 rfl w.heap.size 3 i0' (.int .i64 0) 1 8 Try.underlying24 hi hz0 hz1 hz2 rfl (by decide) _ _ _ rfl (World.ownsRow.alloc hown _) ⟨wr.heap.size, 0, none⟩ 1 1 [.int .i64 (k : Int)] rfl rfl (cell_one_new _ _ _) (fun x hx => by simp at hx; subst hx; rfl) (by unfold maxLen; omega) (by omega) (by simp; omega) ?_; intro vN w6 hown6 hgrow6 _)
      have hE6 := hE.app hown6 hgrow6 hC
      exact ⟨⟨k + 1, _, by omega, by go_num, hE6⟩, by simp [intOf]; omega⟩
    · have hkN : k = N := by omega
      subst hkN
      have i1 : ¬ (k : Int) < (k : Int) := by omega
      obtain ⟨sa, sc, rfl⟩ := Own.shape hE.own
      go_wp2_with fail
      go_loopw [7] (fun i wr => ∃ (q : Int) (m : Nat) (F : Nat → Int), -1 ≤ q ∧ q < (k : Int) ∧ i = .int .i64 q ∧ (m : Int) ≤ n0 + 2 * ((k : Int) - q) ∧ Es w wr C a len cap m (.slice sa k sc) k F) (fun i _ => (intOf i).toNat)
      case atStart => exact ⟨(k : Int) - 1, n0, F, by omega, by omega, rfl, by omega, hE⟩
      case round =>
        obtain ⟨q, m, F2, hq0, hq1, rfl, hm, hE2⟩ := hrel
        clear hE
        by_cases hqp : 0 < q
        · obtain ⟨qn, rfl⟩ := Int.eq_ofNat_of_zero_le (show 0 ≤ q by omega)
          obtain ⟨g, cp, ev0, hg, -⟩ := hE2.own.some (by omega)
          have esa : sa = some ⟨g, 0, none⟩ := by injection ev0
          subst esa
          clear ev0
          go_wp2_with fail
          refine (pick_any C a len cap _ _ _ hE2.cur (by omega)).mono ?_
          rintro e w5 ⟨x5, n5, rfl, p5, q5, -, m5, hc5, hO5⟩
          have q5 := q5 (by omega)
          obtain ⟨xn, rfl⟩ := Int.eq_ofNat_of_zero_le p5
          have hE5 := hE2.step hc5 hO5 hC
          clear hE2
          obtain ⟨g2, cp2, ev, -, hP⟩ := hE5.own.some (by omega)
          have eg : g = g2 := by injection ev with e1 e2 e3; injection e1 with e4; injection e4
          subst eg
          have y0 := hP.c qn (by omega)
          have y1 := hP.c xn (by omega)
          have yf := hP.fz qn
          have yl := hP.lt
          have i2 : (0 : Int) ≤ (qn : Int) := by omega
          have i3 : (qn : Int) < (k : Int) := by omega
          have i4 : (0 : Int) ≤ (xn : Int) := by omega
          have i5 : (xn : Int) < (k : Int) := by omega
          clear hP ev
          generalize F2 qn = X at *
          generalize F2 xn = Y at *
          go_upto_region 12 with fail
          have hE6 := hE5.put (j := qn) (by omega) hC Y
          generalize w5.setCell ⟨g, qn, none⟩ (.int .i64 Y) = w6 at *
          obtain ⟨g3, cp3, ev, -, hP6⟩ := hE6.own.some (by omega)
          have eg : g = g3 := by injection ev with e1 e2 e3; injection e1 with e4; injection e4
          subst eg
          have z1 := hP6.c xn (by omega)
          have zf := hP6.fz xn
          have hE7 := hE6.put (j := xn) (by omega) hC X
          clear hP6 ev hE6 hE5 y0 y1 yf
          go_wp2
          exact ⟨⟨(qn : Int) - 1, n5, _, by omega, by omega, by go_num, by omega, hE7⟩, by simp [intOf]; omega⟩
        · have hq2 : ¬ 0 < q := hqp
          go_wp2_with fail
          refine (one_any C a len cap _ _ _ hE2.cur (by omega)).mono ?_
          rintro e w5 ⟨b5, n5, rfl, m5, hc5, hO5⟩
          have hE5 := hE2.step hc5 hO5 hC
          clear hE2
          by_cases hk0 : 0 < k
          rotate_left
          · have i2 : ¬ (0 : Int) < (k : Int) := by omega
            have HA : Hid (AnsWh w w5 (.returned (.slice sa k sc)) C a len cap n0 k) := ⟨n5, sa, sc, _, rfl, hE5.own.lq, by omega, hc5, hE5.t⟩
            clear hE5
            cases b5 with
            | false =>
              go_wp2
              go_ret
              exact HA.out
            | true =>
              go_wp2
              go_ret
              exact HA.out
          have i2 : (0 : Int) < (k : Int) := by omega
          obtain ⟨g, cp, ev0, hg, hP⟩ := hE5.own.some hk0
          have esa : sa = some ⟨g, 0, none⟩ := by injection ev0
          subst esa
          clear ev0
          cases b5 with
          | false =>
            have HA : Hid (AnsWh w w5 (.returned (.slice (some ⟨g, 0, none⟩) k sc)) C a len cap n0 k) := ⟨n5, _, sc, _, rfl, Own.lq hE5.own, by omega, hc5, hE5.t⟩
            clear hE5 hP
            go_wp2
            go_ret
            exact HA.out
          | true =>
            clear hP
            go_wp2_with fail
            refine (pick_any C a len cap _ _ _ hE5.cur (by omega)).mono ?_
            rintro e w7 ⟨x7, n7, rfl, p7, -, s7, m7, hc7, hO7⟩
            have hE7 := hE5.step hc7 hO7 hC
            clear hE5
            go_wp2_with fail
            refine (pick_any C a len cap _ _ _ hE7.cur (by omega)).mono ?_
            rintro e w8 ⟨x8, n8, rfl, p8, -, s8, m8, hc8, hO8⟩
            have hE8 := hE7.step hc8 hO8 hC
            clear hE7
            obtain ⟨g2, cp2, ev, -, hP⟩ := hE8.own.some hk0
            have eg : g = g2 := by injection ev with e1 e2 e3; injection e1 with e4; injection e4
            subst eg
            have y0 := hP.c 0 hk0
            have yf := hP.fz 0
            have yl := hP.lt
            have hE9 := hE8.put (j := 0) hk0 hC (x7 - x8)
            have HA : Hid (AnsWh w (w8.setCell ⟨g, 0, none⟩ (.int .i64 (x7 - x8))) (.returned (.slice (some ⟨g, 0, none⟩) k sc)) C a len cap n0 k) := ⟨n8, _, sc, _, rfl, Own.lq hE9.own, by omega, hE9.cur, hE9.t⟩
            clear hP ev hE8 hE9
            go_wp2
            go_ret
            exact HA.out
end Go.Proofs.Ytjmdghkhapajiaa
