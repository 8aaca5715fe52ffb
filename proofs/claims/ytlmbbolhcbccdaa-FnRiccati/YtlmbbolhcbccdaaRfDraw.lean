/- What FnRiccati draws. -/
import Derived.Test.YtlmbbolhcbccdaaRfAbove
namespace Go.Proofs.Ytlmbbolhcbccdaa
open Go.RowKit

theorem results_five {fn : Func} {t u v x y : Tmp} (h : fn.results = #[.tmp t, .tmp u, .tmp v, .tmp x, .tmp y]) (tmps : Array Value) (P : Program) (w : World) :
    (results fn tmps).run P w = .ok (.tuple #[tmps.getD t undef, tmps.getD u undef, tmps.getD v undef, tmps.getD x undef, tmps.getD y undef]) w := by
  simp [results, h]
def AnsR (w w' : World) (e : Ending) : Prop := ∃ (a b q r : Nat) (n : Int), e = .returned (.tuple #[.float .f64 a, .float .f64 b, .float .f64 q, .float .f64 r, .int .i64 n]) ∧ a < 18446744073709551616 ∧ b < 18446744073709551616 ∧ q < 18446744073709551616 ∧ r < 18446744073709551616 ∧ (-1 ≤ n ∧ n ≤ 41) ∧ Below w.heap.size w w'

set_option maxHeartbeats 8000000 in
theorem drawRic (a : Option Addr) (len cap : Nat) (w : World) (hl : len ≤ 1048576) (hb : 0 < len → ∃ b off, a = some ⟨b, off, none⟩ ∧ b < w.heap.size ∧ ∀ i, i < len → ∃ v : Int, w.cell? ⟨b, off + i, none⟩ = some (.int .u8 v) ∧ 0 ≤ v ∧ v ≤ 255) :
    Calls Try.prog 7 #[.slice a len cap] w fun e w' => AnsR w w' e := by
  have hc0 := cur_new w a len cap hl hb
  have hB0 : Below w.heap.size w (w.alloc (.cells #[.slice a len cap, .int .i64 0, .int .u64 0] 41)) := (Below.refl _ _).alloc (Nat.le_refl _) _
  clear hb
  go_enter Try.func7, Try.ntmps7
  go_wp2_with fail
  refine (pick_any w.heap.size a len cap 0 12 _ hc0 (by omega)).mono ?_
  rintro e w1 ⟨n0, n1, rfl, g1, h1, -, hn1, hc1, hO1⟩
  have hB1 := hB0.trans (hO1.below)
  clear hc0 hB0 hO1
  have gn : -1 ≤ n0 ∧ n0 ≤ 41 := by have := h1 (by omega); omega
  clear h1 g1
  go_wp2_with fail
  refine (one_any w.heap.size a len cap _ 8 _ hc1 (by omega)).mono ?_
  rintro e w2 ⟨q2, n2, rfl, hn2, hc2, hO2⟩
  have hB2 := hB1.trans (hO2.below)
  clear hc1 hB1 hO2
  cases q2
  · go_wp2_with fail
    refine (sound_any w.heap.size a len cap _ _ hc2 (by omega)).mono ?_
    rintro e w3 ⟨x, n3, rfl, hn3, lx, hc3, hO3⟩
    have hB3 := hB2.trans (hO3.below (Nat.le_refl _) (Nat.le_of_lt hc2.lt))
    clear hc2 hB2 hO3
    go_wp2_with fail
    refine (one_any w.heap.size a len cap _ 16 _ hc3 (by omega)).mono ?_
    rintro e w4 ⟨q4, n4, rfl, hn4, hc4, hO4⟩
    have hB4 := hB3.trans (hO4.below)
    clear hc3 hB3 hO4
    cases q4
    · go_wp2_with fail
      refine (above_any w.heap.size a len cap _ _ hc4 (by omega)).mono ?_
      rintro e w5 ⟨b, n5, rfl, hn5, lb, hc5, hO5⟩
      have hB5 := hB4.trans (hO5.below (Nat.le_refl _) (Nat.le_of_lt hc4.lt))
      clear hc4 hB4 hO5
      go_wp2_with fail
      refine (above_any w.heap.size a len cap _ _ hc5 (by omega)).mono ?_
      rintro e w6 ⟨c, n6, rfl, hn6, lc, hc6, hO6⟩
      have hB6 := hB5.trans (hO6.below (Nat.le_refl _) (Nat.le_of_lt hc5.lt))
      clear hc5 hB5 hO6
      go_wp2_with fail
      refine (above_any w.heap.size a len cap _ _ hc6 (by omega)).mono ?_
      rintro e w7 ⟨d, n7, rfl, hn7, ld, hc7, hO7⟩
      have hB7 := hB6.trans (hO7.below (Nat.le_refl _) (Nat.le_of_lt hc6.lt))
      clear hc6 hB6 hO7
      go_wp2
      refine bodyPost_ret (results_five rfl _ _ _) rfl ?_
      exact ⟨_, _, _, _, _, rfl, lx, lb, lc, ld, gn, hB7⟩
    · clear lx
      go_wp2_with fail
      refine (real_any w.heap.size a len cap _ _ hc4 (by omega)).mono ?_
      rintro e w5 ⟨x, n5, rfl, hn5, lx, hc5, hO5⟩
      have hB5 := hB4.trans (hO5.below (Nat.le_refl _) (Nat.le_of_lt hc4.lt))
      clear hc4 hB4 hO5
      go_wp2_with fail
      refine (above_any w.heap.size a len cap _ _ hc5 (by omega)).mono ?_
      rintro e w6 ⟨b, n6, rfl, hn6, lb, hc6, hO6⟩
      have hB6 := hB5.trans (hO6.below (Nat.le_refl _) (Nat.le_of_lt hc5.lt))
      clear hc5 hB5 hO6
      go_wp2_with fail
      refine (above_any w.heap.size a len cap _ _ hc6 (by omega)).mono ?_
      rintro e w7 ⟨c, n7, rfl, hn7, lc, hc7, hO7⟩
      have hB7 := hB6.trans (hO7.below (Nat.le_refl _) (Nat.le_of_lt hc6.lt))
      clear hc6 hB6 hO7
      go_wp2_with fail
      refine (above_any w.heap.size a len cap _ _ hc7 (by omega)).mono ?_
      rintro e w8 ⟨d, n8, rfl, hn8, ld, hc8, hO8⟩
      have hB8 := hB7.trans (hO8.below (Nat.le_refl _) (Nat.le_of_lt hc7.lt))
      clear hc7 hB7 hO8
      go_wp2
      refine bodyPost_ret (results_five rfl _ _ _) rfl ?_
      exact ⟨_, _, _, _, _, rfl, lx, lb, lc, ld, gn, hB8⟩
  · have hL := lit_ip w2 [-1, 40, 41] 3
    have hA := (Below.refl w2.heap.size w2).alloc (Nat.le_refl _) (.cells #[.int .i64 (-1), .int .i64 40, .int .i64 41] 3)
    have hc3 := hc2.below hA hc2.lt
    have hB3 := hB2.alloc hB2.size (.cells #[.int .i64 (-1), .int .i64 40, .int .i64 41] 3)
    have hne : w2.heap.size ≠ w.heap.size := Nat.ne_of_gt hc2.lt
    clear hc2 hB2 hA gn
    go_wp2_with fail
    refine (among_any w.heap.size a len cap _ _ 3 _ _ _ hc3 (by omega) hL hne (by omega) (by omega)).mono ?_
    rintro e w4 ⟨y4, n4, hy4, rfl, hn4, hc4, hO4⟩
    have hB4 := hB3.trans (hO4.below)
    clear hc3 hB3 hO4
    have gn : -1 ≤ List.getD [-1, 40, 41] y4 (0 : Int) ∧ List.getD [-1, 40, 41] y4 (0 : Int) ≤ 41 := by
      have : y4 = 0 ∨ y4 = 1 ∨ y4 = 2 := by omega
      rcases this with rfl | rfl | rfl <;> decide
    clear hL hne
    generalize List.getD [-1, 40, 41] y4 (0 : Int) = n5 at *
    go_wp2_with fail
    refine (sound_any w.heap.size a len cap _ _ hc4 (by omega)).mono ?_
    rintro e w5 ⟨x, n5, rfl, hn5, lx, hc5, hO5⟩
    have hB5 := hB4.trans (hO5.below (Nat.le_refl _) (Nat.le_of_lt hc4.lt))
    clear hc4 hB4 hO5
    go_wp2_with fail
    refine (one_any w.heap.size a len cap _ 16 _ hc5 (by omega)).mono ?_
    rintro e w6 ⟨q6, n6, rfl, hn6, hc6, hO6⟩
    have hB6 := hB5.trans (hO6.below)
    clear hc5 hB5 hO6
    cases q6
    · go_wp2_with fail
      refine (above_any w.heap.size a len cap _ _ hc6 (by omega)).mono ?_
      rintro e w7 ⟨b, n7, rfl, hn7, lb, hc7, hO7⟩
      have hB7 := hB6.trans (hO7.below (Nat.le_refl _) (Nat.le_of_lt hc6.lt))
      clear hc6 hB6 hO7
      go_wp2_with fail
      refine (above_any w.heap.size a len cap _ _ hc7 (by omega)).mono ?_
      rintro e w8 ⟨c, n8, rfl, hn8, lc, hc8, hO8⟩
      have hB8 := hB7.trans (hO8.below (Nat.le_refl _) (Nat.le_of_lt hc7.lt))
      clear hc7 hB7 hO8
      go_wp2_with fail
      refine (above_any w.heap.size a len cap _ _ hc8 (by omega)).mono ?_
      rintro e w9 ⟨d, n9, rfl, hn9, ld, hc9, hO9⟩
      have hB9 := hB8.trans (hO9.below (Nat.le_refl _) (Nat.le_of_lt hc8.lt))
      clear hc8 hB8 hO9
      go_wp2
      refine bodyPost_ret (results_five rfl _ _ _) rfl ?_
      exact ⟨_, _, _, _, _, rfl, lx, lb, lc, ld, gn, hB9⟩
    · clear lx
      go_wp2_with fail
      refine (real_any w.heap.size a len cap _ _ hc6 (by omega)).mono ?_
      rintro e w7 ⟨x, n7, rfl, hn7, lx, hc7, hO7⟩
      have hB7 := hB6.trans (hO7.below (Nat.le_refl _) (Nat.le_of_lt hc6.lt))
      clear hc6 hB6 hO7
      go_wp2_with fail
      refine (above_any w.heap.size a len cap _ _ hc7 (by omega)).mono ?_
      rintro e w8 ⟨b, n8, rfl, hn8, lb, hc8, hO8⟩
      have hB8 := hB7.trans (hO8.below (Nat.le_refl _) (Nat.le_of_lt hc7.lt))
      clear hc7 hB7 hO8
      go_wp2_with fail
      refine (above_any w.heap.size a len cap _ _ hc8 (by omega)).mono ?_
      rintro e w9 ⟨c, n9, rfl, hn9, lc, hc9, hO9⟩
      have hB9 := hB8.trans (hO9.below (Nat.le_refl _) (Nat.le_of_lt hc8.lt))
      clear hc8 hB8 hO9
      go_wp2_with fail
      refine (above_any w.heap.size a len cap _ _ hc9 (by omega)).mono ?_
      rintro e w10 ⟨d, n10, rfl, hn10, ld, hc10, hO10⟩
      have hB10 := hB9.trans (hO10.below (Nat.le_refl _) (Nat.le_of_lt hc9.lt))
      clear hc9 hB9 hO10
      go_wp2
      refine bodyPost_ret (results_five rfl _ _ _) rfl ?_
      exact ⟨_, _, _, _, _, rfl, lx, lb, lc, ld, gn, hB10⟩
end Go.Proofs.Ytlmbbolhcbccdaa
