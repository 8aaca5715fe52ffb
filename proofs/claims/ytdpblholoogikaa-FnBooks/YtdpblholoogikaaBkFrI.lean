/- FreeLane, as the program takes it. -/
import Derived.Test.YtdpblholoogikaaBkGoodI
import Derived.Test.YtdpblholoogikaaBkRs
import Derived.Test.YtdpblholoogikaaBkFrM
import Derived.Test.YtdpblholoogikaaBkOw
import Derived.BigQuiet
import Derived.Deep.Cut
namespace Go.Proofs.Ytdpblholoogikaa
open Go.RowKit
set_option maxHeartbeats 4000000 in
set_option maxRecDepth 20000 in
theorem iGive_no (a : Option Addr) (n c : Nat) (F : Nat → Int) (who at_ : Int) (w : World) (hn : n ≤ 1048576) (h : IL w a (n * 4) F) (h2 : bsB n F = false) :
    Calls Try.prog 11 #[.slice a n c, .int .i64 who, .int .i64 at_] w fun e w' => AnsBk w w' e 0 (fun _ => 0) false ∧ Below w.heap.size w w' := by
  have kB := iBooks a n c F w hn h
  rw [h2] at kB
  go_enter Try.func11, Try.ntmps11
  go_wp2_with (first | (go_at_call 7; refine kB.mono ?_; rintro e w' ⟨rfl, hb⟩; clear kB) | fail)
  go_ret2
  exact ⟨ansBk_nil _ _ _ _, hb⟩
set_option maxHeartbeats 4000000 in
set_option maxRecDepth 20000 in
theorem iGive_in (a : Option Addr) (n c : Nat) (F : Nat → Int) (who at_ : Int) (w : World) (hn : n ≤ 1048576) (h : IL w a (n * 4) F) (h2 : bsB n F = true) :
    Calls Try.prog 11 #[.slice a n c, .int .i64 who, .int .i64 at_] w fun e w' => (∃ m, m ≤ n ∧ (frL F who at_ n).length = m * 4 ∧ AnsBk w w' e m (fun i => (frL F who at_ n).getD i 0) true) ∧ Below w.heap.size w w' := by
  obtain ⟨i0', hi, hz0, hz1, hz2⟩ := infoBkd
  have hn40 := (bsB_t h2).1
  have kB := iBooks a n c F w hn h
  rw [h2] at kB
  clear h2
  go_enter Try.func11, Try.ntmps11
  go_wp2_with fail
  refine kB.mono ?_
  rintro e w1 ⟨rfl, hb⟩
  clear kB
  obtain ⟨wm, hrun, hown, hgrow⟩ := run_make_own (P := Try.prog) w1 w.heap.size 23 25 i0' _ 4 Try.underlying23 hi hz0 hz1 .i64 .i64 n (by rw [hz2]; omega) (by unfold maxLen; omega) hb.size
  have hBm : Below w1.heap.size w1 wm := (Below.refl _ w1).grown hgrow (Nat.le_refl _) (fun q hq => by cases hq)
  have HO : Hid (OwB wm w.heap.size (.slice (some ⟨w1.heap.size, 0, none⟩) 0 n) 0 []) := ⟨rfl, hown⟩
  have HB : Hid (Below w.heap.size w wm) := stepA hb hBm
  clear hown hgrow hBm hb
  go_wp2_with fail
  clear hrun
  go_loopw [8, 21] (fun v i wr => ∃ k m : Nat, k ≤ n ∧ i = .int .i64 (k : Int) ∧ m ≤ k ∧ OwB wr w.heap.size v m (frL F who at_ k) ∧ Below w.heap.size w wr) (fun _ i _ => n - (intOf i).toNat)
  case atStart => exact ⟨0, 0, Nat.zero_le _, rfl, Nat.le_refl _, HO.out, HB.out⟩
  case round =>
    obtain ⟨k, m, hk, rfl, hm, hown, hB⟩ := hrel
    clear HO HB
    by_cases hlt : k < n
    · obtain ⟨gb, go_, rfl, gl_, x0, x1, x2, x3⟩ := il_four4 (h.below hB) hlt
      have i0 : (0 : Int) ≤ (k : Int) := by omega
      have i1 : (k : Int) < (n : Int) := by omega
      have HS : Hid (frL F who at_ (k + 1) = frL F who at_ k ++ frS who at_ (F (k * 4)) (F (k * 4 + 1)) (F (k * 4 + 2)) (F (k * 4 + 3))) := rfl
      generalize F (k * 4) = A at x0 HS
      generalize F (k * 4 + 1) = B at x1 HS
      generalize F (k * 4 + 2) = C at x2 HS
      generalize F (k * 4 + 3) = D at x3 HS
      generalize frL F who at_ k = l at HS hown
      clear h
      by_cases g0 : D = who
      rotate_left
      · have g1 : (D != who) = true := by simpa using g0
        have HX : Hid (frS who at_ A B C D = [A, B, C, D]) := by show frS who at_ A B C D = _; unfold frS; rw [if_neg (fun h => g0 h.1)]
        have hZ9 := bk_box wr A B C D 25
        have hBz : Below wr.heap.size wr (wr.alloc (.cells #[.int .i64 A, .int .i64 B, .int .i64 C, .int .i64 D] 25)) := (Below.refl _ _).alloc (Nat.le_refl _) _
        have hown9 := hown.below hBz
        have hB9 := stepA hB hBz
        clear hown hB hBz
        clear g0
        go_upto_region 8 with fail
        generalize wr.alloc (.cells #[.int .i64 A, .int .i64 B, .int .i64 C, .int .i64 D] 25) = w9 at hZ9 hown9 hB9 ⊢
        generalize wr.heap.size = zb at hZ9 ⊢
        obtain ⟨y0, y1, y2, y3⟩ := bx_four4 hZ9
        have hs9 := hB9.size
        go_wp2_with (at_builtin; refine wpList_append_own _ rfl _ _ 23 rfl w.heap.size 25 i0' (bkv 0 0 0 0) 4 32 Try.underlying23 hi hz0 hz1 hz2 rfl (by decide) _ _ _ rfl (World.ownsRow.alloc hown9.2 _) ⟨w9.heap.size, 0, none⟩ 1 1 [.int .i64 A, .int .i64 B, .int .i64 C, .int .i64 D] rfl rfl (four_new _ _ _ _ _ _) (fun x hx => by simp at hx; rcases hx with rfl | rfl | rfl | rfl <;> rfl) (by unfold maxLen; omega) (by omega) (by simp; omega) ?_; intro vN w6 hown6 hgrow6 _)
        have hB6 := (hB9.alloc hB9.size (.cells #[.int .i64 A, .int .i64 B, .int .i64 C, .int .i64 D] 25)).grown hgrow6 (by simp; omega) (fun q hq => (World.ownsRow.lt hown9.2 q hq).1)
        refine ⟨⟨k + 1, m + 1, by omega, by go_num, by omega, ?_, hB6⟩, by simp [intOf]; omega⟩
        rw [HS.out, HX.out]; exact owB_app hown9.1 hown6
      have g1 : (D != who) = false := by simpa using g0
      by_cases g2 : at_ < C
      rotate_left
      · skip
        have hZ := bk_box wr A B C D 25
        have hBz : Below wr.heap.size wr (wr.alloc (.cells #[.int .i64 A, .int .i64 B, .int .i64 C, .int .i64 D] 25)) := (Below.refl _ _).alloc (Nat.le_refl _) _
        obtain ⟨z0, z1, z2, z3⟩ := bx_four4 hZ
        have HX : Hid (frS who at_ A B C D = [A, B, C, D]) := by show frS who at_ A B C D = _; unfold frS; rw [if_neg (fun h => g2 h.2)]
        have kR := fun w => rest1 A B C D at_ w (by omega)
        clear g0
        go_upto_region 9 with fail
        go_wp2_with fail
        refine (kR _).mono ?_
        rintro e w5 ⟨rfl, hb5⟩
        clear kR z0 z1 z2 z3
        have hZ9 := bk_box w5 A B C D 25
        have hB5 : Below wr.heap.size wr (w5.alloc (.cells #[.int .i64 A, .int .i64 B, .int .i64 C, .int .i64 D] 25)) := (stepA hBz hb5).alloc (stepA hBz hb5).size _
        have hown9 := hown.below hB5
        have hB9 := stepA hB hB5
        clear hown hB hB5 hBz hb5 hZ
        go_upto_region 11 with fail
        generalize w5.alloc (.cells #[.int .i64 A, .int .i64 B, .int .i64 C, .int .i64 D] 25) = w9 at hZ9 hown9 hB9 ⊢
        generalize w5.heap.size = zb at hZ9 ⊢
        obtain ⟨y0, y1, y2, y3⟩ := bx_four4 hZ9
        have hs9 := hB9.size
        go_wp2_with (at_builtin; refine wpList_append_own _ rfl _ _ 23 rfl w.heap.size 25 i0' (bkv 0 0 0 0) 4 32 Try.underlying23 hi hz0 hz1 hz2 rfl (by decide) _ _ _ rfl (World.ownsRow.alloc hown9.2 _) ⟨w9.heap.size, 0, none⟩ 1 1 [.int .i64 A, .int .i64 B, .int .i64 C, .int .i64 D] rfl rfl (four_new _ _ _ _ _ _) (fun x hx => by simp at hx; rcases hx with rfl | rfl | rfl | rfl <;> rfl) (by unfold maxLen; omega) (by omega) (by simp; omega) ?_; intro vN w6 hown6 hgrow6 _)
        have hB6 := (hB9.alloc hB9.size (.cells #[.int .i64 A, .int .i64 B, .int .i64 C, .int .i64 D] 25)).grown hgrow6 (by simp; omega) (fun q hq => (World.ownsRow.lt hown9.2 q hq).1)
        refine ⟨⟨k + 1, m + 1, by omega, by go_num, by omega, ?_, hB6⟩, by simp [intOf]; omega⟩
        rw [HS.out, HX.out]; exact owB_app hown9.1 hown6
      by_cases g3 : at_ ≤ B
      · skip
        have hZ := bk_box wr A B C D 25
        have hBz : Below wr.heap.size wr (wr.alloc (.cells #[.int .i64 A, .int .i64 B, .int .i64 C, .int .i64 D] 25)) := (Below.refl _ _).alloc (Nat.le_refl _) _
        obtain ⟨z0, z1, z2, z3⟩ := bx_four4 hZ
        have HX : Hid (frS who at_ A B C D = []) := by show frS who at_ A B C D = _; unfold frS; rw [if_pos ⟨g0, g2⟩, if_pos g3]
        have kR := fun w => rest3 A B C D at_ w (by omega)
        clear g0
        go_upto_region 9 with fail
        go_wp2_with fail
        refine (kR _).mono ?_
        rintro e w5 ⟨rfl, hb5⟩
        clear kR z0 z1 z2 z3
        have hB5 : Below wr.heap.size wr (w5.alloc (.cells #[.int .i64 0, .int .i64 0, .int .i64 0, .int .i64 0] 25)) := (stepA hBz hb5).alloc (stepA hBz hb5).size _
        go_wp2
        exact ⟨⟨k + 1, m, by omega, by go_num, by omega, by rw [HS.out, HX.out, List.append_nil]; exact hown.below hB5, stepA hB hB5⟩, by simp [intOf]; omega⟩
      · skip
        have hZ := bk_box wr A B C D 25
        have hBz : Below wr.heap.size wr (wr.alloc (.cells #[.int .i64 A, .int .i64 B, .int .i64 C, .int .i64 D] 25)) := (Below.refl _ _).alloc (Nat.le_refl _) _
        obtain ⟨z0, z1, z2, z3⟩ := bx_four4 hZ
        have HX : Hid (frS who at_ A B C D = [A, B, at_, D]) := by show frS who at_ A B C D = _; unfold frS; rw [if_pos ⟨g0, g2⟩, if_neg g3]
        have kR := fun w => rest2 A B C D at_ w (by omega)
        clear g0
        go_upto_region 9 with fail
        go_wp2_with fail
        refine (kR _).mono ?_
        rintro e w5 ⟨rfl, hb5⟩
        clear kR z0 z1 z2 z3
        have hZ9 := bk_box w5 A B at_ D 25
        have hB5 : Below wr.heap.size wr (w5.alloc (.cells #[.int .i64 A, .int .i64 B, .int .i64 at_, .int .i64 D] 25)) := (stepA hBz hb5).alloc (stepA hBz hb5).size _
        have hown9 := hown.below hB5
        have hB9 := stepA hB hB5
        clear hown hB hB5 hBz hb5 hZ
        go_upto_region 11 with fail
        generalize w5.alloc (.cells #[.int .i64 A, .int .i64 B, .int .i64 at_, .int .i64 D] 25) = w9 at hZ9 hown9 hB9 ⊢
        generalize w5.heap.size = zb at hZ9 ⊢
        obtain ⟨y0, y1, y2, y3⟩ := bx_four4 hZ9
        have hs9 := hB9.size
        go_wp2_with (at_builtin; refine wpList_append_own _ rfl _ _ 23 rfl w.heap.size 25 i0' (bkv 0 0 0 0) 4 32 Try.underlying23 hi hz0 hz1 hz2 rfl (by decide) _ _ _ rfl (World.ownsRow.alloc hown9.2 _) ⟨w9.heap.size, 0, none⟩ 1 1 [.int .i64 A, .int .i64 B, .int .i64 at_, .int .i64 D] rfl rfl (four_new _ _ _ _ _ _) (fun x hx => by simp at hx; rcases hx with rfl | rfl | rfl | rfl <;> rfl) (by unfold maxLen; omega) (by omega) (by simp; omega) ?_; intro vN w6 hown6 hgrow6 _)
        have hB6 := (hB9.alloc hB9.size (.cells #[.int .i64 A, .int .i64 B, .int .i64 at_, .int .i64 D] 25)).grown hgrow6 (by simp; omega) (fun q hq => (World.ownsRow.lt hown9.2 q hq).1)
        refine ⟨⟨k + 1, m + 1, by omega, by go_num, by omega, ?_, hB6⟩, by simp [intOf]; omega⟩
        rw [HS.out, HX.out]; exact owB_app hown9.1 hown6
    · have hke : k = n := by omega
      subst hke
      obtain ⟨sa, sc, rfl⟩ := hown.shape
      go_wp2
      go_ret2
      exact ⟨⟨m, hm, hown.1, sa, sc, rfl, hown.lq⟩, hB⟩
end Go.Proofs.Ytdpblholoogikaa
