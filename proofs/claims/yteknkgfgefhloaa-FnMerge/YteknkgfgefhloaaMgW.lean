/- Which stamped word comes first: both sides (tools/gen_mgw.py). -/
import Derived.Test.YteknkgfgefhloaaMgM
import Derived.Test.YteknkgfgefhloaaTaSt
import Derived.Deep.RegionHeld3
import Derived.Deep.Cut
import Derived.BigQuiet
namespace Go.Proofs.Yteknkgfgefhloaa
open Go.RowKit
/-- the i-th stamped word of a list -/
def swF (F : Nat → Int) (i : Nat) : Sw := (F (i * 3), F (i * 3 + 1), F (i * 3 + 2))
def ltB2 (x y : Sw) : Bool := decide (kLt x y)
set_option maxHeartbeats 2000000 in
theorem sBefore (a b c d e f : Int) (w : World) :
    Calls Try.prog 45 #[spv a b c, spv d e f] w fun r w' => r = .returned (.bool (ltB2 (a, b, c) (d, e, f))) ∧ Below w.heap.size w w' := by
  have hB : Below w.heap.size w ((w.alloc (.cells #[.int .i64 a, .int .i64 b, .int .i64 c] 29)).alloc (.cells #[.int .i64 d, .int .i64 e, .int .i64 f] 29)) := ((Below.refl _ _).alloc (Nat.le_refl _) _).alloc (by simp) _
  have b0 := (bx_new (w := w) (b := w.heap.size) [.int .i64 a, .int .i64 b, .int .i64 c] 29 rfl).alloc (.cells #[.int .i64 d, .int .i64 e, .int .i64 f] 29)
  have b1 := bx_new (w := w.alloc (.cells #[.int .i64 a, .int .i64 b, .int .i64 c] 29)) (b := w.heap.size + 1) [.int .i64 d, .int .i64 e, .int .i64 f] 29 (by simp)
  have x0 := b0.c0
  have x1 := b0.c1
  have y0 := b1.c0
  have y1 := b1.c1
  unfold ltB2
  by_cases h1 : a < d
  · rw [decide_eq_true (show kLt (a, b, c) (d, e, f) from .inl h1)]
    go_enter Try.func45, Try.ntmps45
    go_wp2
    go_ret
    exact ⟨rfl, hB⟩
  by_cases h2 : a = d
  · have j2 : (a == d) = true := by simp [h2]
    by_cases h3 : b < e
    · rw [decide_eq_true (show kLt (a, b, c) (d, e, f) from .inr ⟨h2, h3⟩)]
      clear h2
      go_enter Try.func45, Try.ntmps45
      go_wp2
      go_ret
      exact ⟨rfl, hB⟩
    · rw [decide_eq_false (show ¬ kLt (a, b, c) (d, e, f) by unfold kLt; simp; omega)]
      clear h2
      go_enter Try.func45, Try.ntmps45
      go_wp2
      go_ret
      exact ⟨rfl, hB⟩
  · have j2 : (a == d) = false := by simp [h2]
    rw [decide_eq_false (show ¬ kLt (a, b, c) (d, e, f) by unfold kLt; simp; omega)]
    clear h2
    go_enter Try.func45, Try.ntmps45
    go_wp2
    go_ret
    exact ⟨rfl, hB⟩
/-- do the first k words rise -/
def risK (F : Nat → Int) : Nat → Bool
  | 0 => true
  | 1 => true
  | k + 2 => risK F (k + 1) && ltB2 (swF F k) (swF F (k + 1))
theorem risK_no {F : Nat → Int} {n k : Nat} (hk : k + 1 < n) (h : ltB2 (swF F k) (swF F (k + 1)) = false) : risK F n = false := by
  induction n with
  | zero => omega
  | succ n ih =>
    match n, hk, ih with
    | 0, hk, _ => omega
    | m + 1, hk, ih =>
      rw [risK]
      by_cases e : k = m
      · subst e; rw [h]; simp
      · rw [ih (by omega)]; rfl
theorem risK_yes {F : Nat → Int} {k : Nat} (h : risK F (k + 1) = true) (h2 : ltB2 (swF F k) (swF F (k + 1)) = true) : risK F (k + 2) = true := by
  rw [risK, h, h2]; rfl
set_option maxRecDepth 20000 in
set_option maxHeartbeats 4000000 in
theorem sStamped (a : Option Addr) (n c : Nat) (F : Nat → Int) (w : World) (hn : n ≤ 1048576) (h : IL w a (n * 3) F) :
    Calls Try.prog 44 #[.slice a n c] w fun e w' => e = .returned (.bool (decide (n ≤ 40) && risK F n)) ∧ Below w.heap.size w w' := by
  by_cases h4 : 40 < n
  · have j : (40 : Int) < (n : Int) := by omega
    rw [decide_eq_false (by omega : ¬ n ≤ 40)]
    go_enter Try.func44, Try.ntmps44
    go_wp2
    go_ret
    exact ⟨rfl, Below.refl _ _⟩
  rw [decide_eq_true (by omega : n ≤ 40), Bool.true_and]
  have j : ¬ (40 : Int) < (n : Int) := by omega
  have HN : Hid (∀ k, k + 1 < n → ltB2 (swF F k) (swF F (k + 1)) = false → risK F n = false) := fun k hk h => risK_no hk h
  have HY : Hid (∀ k, risK F (k + 1) = true → ltB2 (swF F k) (swF F (k + 1)) = true → risK F (k + 1 + 1) = true) := fun k h1 h2 => risK_yes h1 h2
  have H1 : Hid (risK F 1 = true) := rfl
  have H0 : Hid (n ≤ 1 → risK F n = true) := fun h => by
    match n, h with
    | 0, _ => rfl
    | 1, _ => rfl
  generalize hV : risK F n = V at *
  have HV : Hid (risK F n = V) := hV
  clear hV
  go_enter Try.func44, Try.ntmps44
  go_wp2_with fail
  go_loopw [3] (fun i wr => ∃ k : Nat, (k + 1 ≤ n ∨ k = 0) ∧ i = .int .i64 ((k : Int) + 1) ∧ Hid (risK F (k + 1) = true) ∧ Below w.heap.size w wr) (fun i _ => n + 1 - (intOf i).toNat)
  case atStart => exact ⟨0, .inr rfl, rfl, H1, Below.refl _ _⟩
  case round =>
    obtain ⟨k, hk, rfl, HE, hB⟩ := hrel
    by_cases hlt : k + 1 < n
    · obtain ⟨gb, go_, rfl, gl_, x0, x1, x2⟩ := il_three (h.below hB) (show k < n by omega)
      obtain ⟨gb', go', e', gl', y0, y1, y2⟩ := il_three (h.below hB) hlt
      cases e'
      have i1 : (k : Int) + 1 < (n : Int) := by omega
      have j0 : (0 : Int) ≤ (k : Int) := by omega
      have j2 : (k : Int) < (n : Int) := by omega
      have j3 : (0 : Int) ≤ (k : Int) + 1 := by omega
      have j4 : ((k : Int) + 1).toNat = k + 1 := by omega
      have j5 : IntKind.i64.wrap ((k : Int) + 1 - 1) = (k : Int) := by rw [IntWalk.i64_in _ ⟨by omega, by omega⟩]; omega
      have j6 : IntKind.i64.wrap (k : Int) = (k : Int) := IntWalk.i64_in _ ⟨by omega, by omega⟩
      have HN2 : Hid (ltB2 (swF F k) (swF F (k + 1)) = false → V = false) := HN.out k hlt
      have HY2 : Hid (ltB2 (swF F k) (swF F (k + 1)) = true → risK F (k + 1 + 1) = true) := HY.out k HE.out
      unfold swF at HN2 HY2
      clear HE HN HY HV H0 H1 gl'
      generalize F (k * 3) = A at *
      generalize F (k * 3 + 1) = B at *
      generalize F (k * 3 + 2) = C at *
      generalize F ((k + 1) * 3) = D at *
      generalize F ((k + 1) * 3 + 1) = E at *
      generalize F ((k + 1) * 3 + 2) = G at *
      have kb := fun w => sBefore A B C D E G w
      have hw0 := Below.refl wr.heap.size wr
      cases q : ltB2 (A, B, C) (D, E, G) with
      | true =>
        have HR : Hid (risK F (k + 1 + 1) = true) := HY2.out q
        rw [q] at kb
        clear HN2 HY2 q
        go_upto_region 6 with fail
        go_region_held3 (fun w' => w'.cell? ⟨gb, go_ + k * 3, none⟩ = some (.int .i64 A) ∧ w'.cell? ⟨gb, go_ + k * 3 + 1, none⟩ = some (.int .i64 B) ∧ w'.cell? ⟨gb, go_ + k * 3 + 2, none⟩ = some (.int .i64 C) ∧ w'.cell? ⟨gb, go_ + (k + 1) * 3, none⟩ = some (.int .i64 D) ∧ w'.cell? ⟨gb, go_ + (k + 1) * 3 + 1, none⟩ = some (.int .i64 E) ∧ w'.cell? ⟨gb, go_ + (k + 1) * 3 + 2, none⟩ = some (.int .i64 G)) (first | (exact keep4_sp x0 x1 x2 y0 y1 y2 gl_ gl_ hw0.drew) | (exact keep4_sp x0 x1 x2 y0 y1 y2 gl_ gl_ hw1) | (fail)) (first | (go_at_call 45; refine (kb _).mono ?_; rintro e w1 ⟨rfl, hb1⟩; have hw1 := stepA hw0.drew hb1) | (fail))
        have hB1 := stepA hB hw1
        clear x0 x1 x2 y0 y1 y2
        go_wp2
        exact ⟨⟨k + 1, .inl (by omega), by go_num, HR, hB1⟩, by simp [intOf]; omega⟩
      | false =>
        obtain rfl : V = false := HN2.out q
        rw [q] at kb
        clear HN2 HY2 q
        go_upto_region 6 with fail
        go_region_held3 (fun w' => w'.cell? ⟨gb, go_ + k * 3, none⟩ = some (.int .i64 A) ∧ w'.cell? ⟨gb, go_ + k * 3 + 1, none⟩ = some (.int .i64 B) ∧ w'.cell? ⟨gb, go_ + k * 3 + 2, none⟩ = some (.int .i64 C) ∧ w'.cell? ⟨gb, go_ + (k + 1) * 3, none⟩ = some (.int .i64 D) ∧ w'.cell? ⟨gb, go_ + (k + 1) * 3 + 1, none⟩ = some (.int .i64 E) ∧ w'.cell? ⟨gb, go_ + (k + 1) * 3 + 2, none⟩ = some (.int .i64 G)) (first | (exact keep4_sp x0 x1 x2 y0 y1 y2 gl_ gl_ hw0.drew) | (exact keep4_sp x0 x1 x2 y0 y1 y2 gl_ gl_ hw1) | (fail)) (first | (go_at_call 45; refine (kb _).mono ?_; rintro e w1 ⟨rfl, hb1⟩; have hw1 := stepA hw0.drew hb1) | (fail))
        have hB1 := stepA hB hw1
        clear x0 x1 x2 y0 y1 y2
        go_wp2
        go_ret
        exact ⟨rfl, hB1⟩
    · have i1 : ¬ (k : Int) + 1 < (n : Int) := by omega
      obtain rfl : V = true := by
        by_cases e : n ≤ 1
        · exact H0.out e
        · have : k + 1 = n := by omega
          rw [← HV.out, ← this]; exact HE.out
      clear HE HN HY HV H0 H1
      go_wp2
      go_ret
      exact ⟨rfl, hB⟩
end Go.Proofs.Yteknkgfgefhloaa
