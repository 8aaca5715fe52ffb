/- A drawn line; the walk of the law on it. -/
import Derived.Test.YtipopglbpfdcmaaLnFine
namespace Go.Proofs.Ytipopglbpfdcmaa
open Go.RowKit

theorem cur_new (w : World) (a : Option Addr) (len cap : Nat) (hl : len ≤ 1048576) (hb : 0 < len → ∃ b off, a = some ⟨b, off, none⟩ ∧ b < w.heap.size ∧ ∀ i, i < len → ∃ v : Int, w.cell? ⟨b, off + i, none⟩ = some (.int .u8 v) ∧ 0 ≤ v ∧ v ≤ 255) :
    Cur (w.alloc (.cells #[.slice a len cap, .int .i64 0, .int .u64 0] 53)) w.heap.size a len cap 0 := by
  have hB : Below w.heap.size w (w.alloc (.cells #[.slice a len cap, .int .i64 0, .int .u64 0] 53)) := (Below.refl _ _).alloc (Nat.le_refl _) _
  refine ⟨by simp, by simp [go_sem], by simp [go_sem], ⟨0, by simp [go_sem], by omega, by omega⟩, by simp [go_sem], by simp [go_sem], fun h0 => ?_, hl⟩
  obtain ⟨b, off, ha, hbw, hc⟩ := hb h0
  refine ⟨b, off, ha, hbw, fun i hi => ?_⟩
  obtain ⟨v, hv, hv1⟩ := hc i hi
  exact ⟨v, (hB.cell (p := ⟨b, _, none⟩) hbw).trans hv, hv1⟩
theorem results_four {fn : Func} {t u v x : Tmp} (h : fn.results = #[.tmp t, .tmp u, .tmp v, .tmp x]) (tmps : Array Value) (P : Program) (w : World) :
    (results fn tmps).run P w = .ok (.tuple #[tmps.getD t undef, tmps.getD u undef, tmps.getD v undef, tmps.getD x undef]) w := by
  simp [results, h]
def AnsD (w w' : World) (e : Ending) : Prop := ∃ p q r s : Int, e = .returned (.tuple #[.int .i64 p, .int .i64 q, .int .i64 r, .int .i64 s]) ∧ Below w.heap.size w w'

set_option maxHeartbeats 4000000 in
theorem drawLine (a : Option Addr) (len cap : Nat) (w : World) (hl : len ≤ 1048576) (hb : 0 < len → ∃ b off, a = some ⟨b, off, none⟩ ∧ b < w.heap.size ∧ ∀ i, i < len → ∃ v : Int, w.cell? ⟨b, off + i, none⟩ = some (.int .u8 v) ∧ 0 ≤ v ∧ v ≤ 255) :
    Calls Try.prog 8 #[.slice a len cap] w fun e w' => AnsD w w' e := by
  have hc0 := cur_new w a len cap hl hb
  have hB0 : Below w.heap.size w (w.alloc (.cells #[.slice a len cap, .int .i64 0, .int .u64 0] 53)) := (Below.refl _ _).alloc (Nat.le_refl _) _
  clear hb
  go_enter Try.func8, Try.ntmps8
  go_wp2_with fail
  refine (one_any w.heap.size a len cap 0 _ _ hc0 (by omega)).mono ?_
  rintro e w1 ⟨q, n1, rfl, hn1, hc1, hO1⟩
  have hB1 := hB0.trans hO1.below
  clear hc0 hB0 hO1
  cases q with
  | true =>
    have hL := lit_ip w1 [-1000, 1000, 1001] 3
    have hc2 := hc1.below ((Below.refl w1.heap.size w1).alloc (Nat.le_refl _) (.cells #[.int .i64 (-1000), .int .i64 1000, .int .i64 1001] 3)) hc1.lt
    have hB2 := hB1.alloc hB1.size (.cells #[.int .i64 (-1000), .int .i64 1000, .int .i64 1001] 3)
    have hne : w1.heap.size ≠ w.heap.size := Nat.ne_of_gt hc1.lt
    clear hc1 hB1
    go_wp2_with fail
    refine (among_any w.heap.size a len cap _ _ 3 _ _ _ hc2 (by omega) hL hne (by omega) (by omega)).mono ?_
    rintro e w3 ⟨y1, n3, -, rfl, hn3, hc3, hO3⟩
    have hB3 := hB2.trans hO3.below
    clear hc2 hB2 hO3 hL hne
    generalize List.getD [-1000, 1000, 1001] y1 (0 : Int) = p1
    go_wp2_with fail
    refine (pick_any w.heap.size a len cap _ _ _ hc3 (by omega)).mono ?_
    rintro e w4 ⟨p2, n4, rfl, h20, h21, h22, hn4, hc4, hO4⟩
    have hB4 := hB3.trans hO4.below
    clear hc3 hB3 hO4 h21
    have hL := lit_ip w4 [-1000, 1000, 0] 3
    have hc5 := hc4.below ((Below.refl w4.heap.size w4).alloc (Nat.le_refl _) (.cells #[.int .i64 (-1000), .int .i64 1000, .int .i64 0] 3)) hc4.lt
    have hB5 := hB4.alloc hB4.size (.cells #[.int .i64 (-1000), .int .i64 1000, .int .i64 0] 3)
    have hne : w4.heap.size ≠ w.heap.size := Nat.ne_of_gt hc4.lt
    clear hc4 hB4
    go_wp2_with fail
    refine (among_any w.heap.size a len cap _ _ 3 _ _ _ hc5 (by omega) hL hne (by omega) (by omega)).mono ?_
    rintro e w6 ⟨y2, n6, -, rfl, hn6, hc6, hO6⟩
    have hB6 := hB5.trans hO6.below
    clear hc5 hB5 hO6 hL hne
    generalize List.getD [-1000, 1000, 0] y2 (0 : Int) = p3
    go_wp2_with fail
    refine (pick_any w.heap.size a len cap _ _ _ hc6 (by omega)).mono ?_
    rintro e w7 ⟨p4, n7, rfl, h40, h41, h42, hn7, hc7, hO7⟩
    have hB7 := hB6.trans hO7.below
    clear hc6 hB6 hO7 h41 hc7
    go_wp2
    refine bodyPost_ret (results_four rfl _ _ _) rfl ?_
    exact ⟨_, _, _, _, rfl, hB7⟩
  | false =>
    go_wp2_with fail
    refine (pick_any w.heap.size a len cap _ _ _ hc1 (by omega)).mono ?_
    rintro e w2 ⟨p1, n2, rfl, h10, -, h12, hn2, hc2, hO2⟩
    have hB2 := hB1.trans hO2.below
    clear hc1 hB1 hO2
    go_wp2_with fail
    refine (pick_any w.heap.size a len cap _ _ _ hc2 (by omega)).mono ?_
    rintro e w3 ⟨p2, n3, rfl, h20, -, h22, hn3, hc3, hO3⟩
    have hB3 := hB2.trans hO3.below
    clear hc2 hB2 hO3
    go_wp2_with fail
    refine (pick_any w.heap.size a len cap _ _ _ hc3 (by omega)).mono ?_
    rintro e w4 ⟨p3, n4, rfl, h30, -, h32, hn4, hc4, hO4⟩
    have hB4 := hB3.trans hO4.below
    clear hc3 hB3 hO4
    go_wp2_with fail
    refine (pick_any w.heap.size a len cap _ _ _ hc4 (by omega)).mono ?_
    rintro e w5 ⟨p4, n5, rfl, h40, -, h42, hn5, hc5, hO5⟩
    have hB5 := hB4.trans hO5.below
    clear hc4 hB4 hO5 hc5
    go_wp2
    refine bodyPost_ret (results_four rfl _ _ _) rfl ?_
    exact ⟨_, _, _, _, rfl, hB5⟩

theorem lnN_pos {x1 y1 x2 y2 : Int} (h : lnB x1 y1 x2 y2 = true) : lnN x1 y1 x2 y2 = steps (ab (x2 - x1)) (ab (y2 - y1)) + 1 := by simp [lnN, h]
theorem lnN_no {x1 y1 x2 y2 : Int} (h : lnB x1 y1 x2 y2 = false) : lnN x1 y1 x2 y2 = 0 := by simp [lnN, h]

set_option maxHeartbeats 4000000 in
theorem fnLine (a : Option Addr) (len cap : Nat) (w : World) (hl : len ≤ 1048576) (hb : 0 < len → ∃ b off, a = some ⟨b, off, none⟩ ∧ b < w.heap.size ∧ ∀ i, i < len → ∃ v : Int, w.cell? ⟨b, off + i, none⟩ = some (.int .u8 v) ∧ 0 ≤ v ∧ v ≤ 255) :
    Calls Try.prog 3 #[.slice a len cap] w fun e w' => e = .returned (.bool true) ∧ Below w.heap.size w w' := by
  have hd := drawLine a len cap w hl hb
  clear hb
  have j0 : ¬ (1048576 : Int) < (len : Int) := by omega
  go_enter Try.func3, Try.ntmps3
  go_wp2_with fail
  refine hd.mono ?_
  rintro e w1 ⟨x1, y1, x2, y2, rfl, hB1⟩
  clear hd
  have hI := implLine x1 y1 x2 y2
  have hS := specLine x1 y1 x2 y2
  cases h : lnB x1 y1 x2 y2 with
  | false =>
    rw [lnN_no h] at hI hS
    go_wp2_with fail
    refine (hI _).mono ?_
    rintro e w2 ⟨⟨a2, c2, rfl, hL2⟩, hb2⟩
    have hB2 := stepA hB1 hb2
    go_wp2_with fail
    refine (hS _).mono ?_
    rintro e w3 ⟨⟨a3, c3, rfl, hL3⟩, hb3⟩
    have hB3 := stepA hB2 hb3
    clear hL2 hL3 hI hS
    go_wp2
    go_ret
    exact ⟨rfl, hB3⟩
  | true =>
    rw [lnN_pos h] at hI hS
    have hF := fun a c lo hi w => fine_any x1 y1 x2 y2 a c lo hi w h
    generalize steps (ab (x2 - x1)) (ab (y2 - y1)) = n at hI hS hF
    generalize lnX x1 y1 x2 y2 = X at hI hS hF
    generalize lnY x1 y1 x2 y2 = Y at hI hS hF
    have j2 : ((n : Int) + 1 == 0) = false := by simp; omega
    go_wp2_with fail
    refine (hI _).mono ?_
    rintro e w2 ⟨⟨a2, c2, rfl, hL2⟩, hb2⟩
    have hB2 := stepA hB1 hb2
    go_wp2_with fail
    refine (hS _).mono ?_
    rintro e w3 ⟨⟨a3, c3, rfl, hL3⟩, hb3⟩
    have hB3 := stepA hB2 hb3
    have hL4 := hL2.on hb3
    clear hL2 hL3 hI hS hb2 hb3
    go_wp2_with fail
    refine (hF _ _ _ _ _ hL4).mono ?_
    rintro e w5 ⟨rfl, hb5⟩
    have hB5 := stepA hB3 hb5
    clear hL4 hF
    go_wp2
    go_ret
    exact ⟨rfl, hB5⟩
set_option maxHeartbeats 400000 in
theorem fnLine_long (a : Option Addr) (len cap : Nat) (w : World) (hL : 1048576 < len) (hm : len ≤ 9223372036854775807) :
    Calls Try.prog 3 #[.slice a len cap] w fun e w' => e = .returned (.bool true) ∧ Below w.heap.size w w' := by
  have j0 : (1048576 : Int) < (len : Int) := by omega
  go_enter Try.func3, Try.ntmps3
  go_wp2
  go_ret
  exact ⟨rfl, Below.refl _ _⟩
theorem fnLineAll (a : Option Addr) (len cap : Nat) (w : World) (hm : len ≤ 9223372036854775807) (hb : 0 < len → ∃ b off, a = some ⟨b, off, none⟩ ∧ b < w.heap.size ∧ ∀ i, i < len → ∃ v : Int, w.cell? ⟨b, off + i, none⟩ = some (.int .u8 v) ∧ 0 ≤ v ∧ v ≤ 255) :
    Calls Try.prog 3 #[.slice a len cap] w fun e w' => e = .returned (.bool true) ∧ Below w.heap.size w w' := by
  by_cases hL : len ≤ 1048576
  · exact fnLine a len cap w hL hb
  · exact fnLine_long a len cap w (by omega) hm
end Go.Proofs.Ytipopglbpfdcmaa
