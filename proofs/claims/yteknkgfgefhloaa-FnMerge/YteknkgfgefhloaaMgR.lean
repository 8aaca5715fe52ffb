/- Whether stamped words rise, as the program asks it (tools/gen_mgw.py). -/
import Derived.Test.YteknkgfgefhloaaMgD
namespace Go.Proofs.Yteknkgfgefhloaa
open Go.RowKit
set_option maxRecDepth 20000 in
set_option maxHeartbeats 4000000 in
theorem iRising (a : Option Addr) (n c : Nat) (F : Nat → Int) (w : World) (hn : n ≤ 1048576) (h : IL w a (n * 3) F) :
    Calls Try.prog 43 #[.slice a n c] w fun e w' => e = .returned (.bool (risK F n)) ∧ Below w.heap.size w w' := by
  have HN : Hid (∀ k, k + 1 < n → ltB2 (swF F k) (swF F (k + 1)) = false → risK F n = false) := fun k hk h => risK_no hk h
  have HY : Hid (∀ k, risK F (k + 1) = true → ltB2 (swF F k) (swF F (k + 1)) = true → risK F (k + 1 + 1) = true) := fun k h1 h2 => risK_yes h1 h2
  have H1 : Hid (risK F 1 = true) := rfl
  have H0 : Hid (n ≤ 1 → risK F n = true) := fun h => by
    match n, h with
    | 0, _ => rfl
    | 1, _ => rfl
  generalize hV : risK F n = V at *
  have HV : Hid (risK F n = V) := hV
  clear hV
  go_enter Try.func43, Try.ntmps43
  go_wp2_with fail
  go_loopw [3] (fun i wr => ∃ k : Nat, (k + 1 ≤ n ∨ k = 0) ∧ i = .int .i64 ((k : Int) + 1) ∧ Hid (risK F (k + 1) = true) ∧ Below w.heap.size w wr) (fun i _ => n + 1 - (intOf i).toNat)
  case atStart => exact ⟨0, .inr rfl, rfl, H1, Below.refl _ _⟩
  case round =>
    obtain ⟨k, hk, rfl, HE, hB⟩ := hrel
    by_cases hlt : k + 1 < n
    · obtain ⟨gb, go_, rfl, gl_, x0, x1, x2⟩ := il_three (h.below hB) (show k < n by omega)
      obtain ⟨gb', go', e', gl', y0, y1, y2⟩ := il_three (h.below hB) hlt
      cases e'
      have i1 : (k : Int) + 1 < (n : Int) := by omega
      have j0 : (0 : Int) ≤ (k : Int) := by omega
      have j2 : (k : Int) < (n : Int) := by omega
      have j3 : (0 : Int) ≤ (k : Int) + 1 := by omega
      have j4 : ((k : Int) + 1).toNat = k + 1 := by omega
      have j5 : IntKind.i64.wrap ((k : Int) + 1 - 1) = (k : Int) := by rw [IntWalk.i64_in _ ⟨by omega, by omega⟩]; omega
      have j6 : IntKind.i64.wrap (k : Int) = (k : Int) := IntWalk.i64_in _ ⟨by omega, by omega⟩
      have HN2 : Hid (ltB2 (swF F k) (swF F (k + 1)) = false → V = false) := HN.out k hlt
      have HY2 : Hid (ltB2 (swF F k) (swF F (k + 1)) = true → risK F (k + 1 + 1) = true) := HY.out k HE.out
      unfold swF at HN2 HY2
      clear HE HN HY HV H0 H1 gl'
      generalize F (k * 3) = A at *
      generalize F (k * 3 + 1) = B at *
      generalize F (k * 3 + 2) = C at *
      generalize F ((k + 1) * 3) = D at *
      generalize F ((k + 1) * 3 + 1) = E at *
      generalize F ((k + 1) * 3 + 2) = G at *
      have kb := fun w => iCompare A B C D E G w
      have hw0 := Below.refl wr.heap.size wr
      cases q : ltB2 (A, B, C) (D, E, G) with
      | true =>
        have HR : Hid (risK F (k + 1 + 1) = true) := HY2.out q
        have jz : cmpS (A, B, C) (D, E, G) < 0 := (cmpS_lt _ _).2 (of_decide_eq_true q)
        generalize cmpS (A, B, C) (D, E, G) = Z at kb jz
        have jy : ¬ (0 : Int) ≤ Z := by omega
        clear HN2 HY2 q
        go_upto_region 4 with fail
        go_region_held3 (fun w' => w'.cell? ⟨gb, go_ + k * 3, none⟩ = some (.int .i64 A) ∧ w'.cell? ⟨gb, go_ + k * 3 + 1, none⟩ = some (.int .i64 B) ∧ w'.cell? ⟨gb, go_ + k * 3 + 2, none⟩ = some (.int .i64 C) ∧ w'.cell? ⟨gb, go_ + (k + 1) * 3, none⟩ = some (.int .i64 D) ∧ w'.cell? ⟨gb, go_ + (k + 1) * 3 + 1, none⟩ = some (.int .i64 E) ∧ w'.cell? ⟨gb, go_ + (k + 1) * 3 + 2, none⟩ = some (.int .i64 G)) (first | (exact keep4_sp x0 x1 x2 y0 y1 y2 gl_ gl_ hw0.drew) | (exact keep4_sp x0 x1 x2 y0 y1 y2 gl_ gl_ hw1) | (fail)) (first | (go_at_call 41; refine (kb _).mono ?_; rintro e w1 ⟨rfl, hb1⟩; have hw1 := stepA hw0.drew hb1) | (fail))
        have hB1 := stepA hB hw1
        clear x0 x1 x2 y0 y1 y2
        go_wp2
        exact ⟨⟨k + 1, .inl (by omega), by go_num, HR, hB1⟩, by simp [intOf]; omega⟩
      | false =>
        obtain rfl : V = false := HN2.out q
        have jz : (0 : Int) ≤ cmpS (A, B, C) (D, E, G) := Int.not_lt.1 fun h => of_decide_eq_false q ((cmpS_lt _ _).1 h)
        generalize cmpS (A, B, C) (D, E, G) = Z at kb jz
        clear HN2 HY2 q
        go_upto_region 4 with fail
        go_region_held3 (fun w' => w'.cell? ⟨gb, go_ + k * 3, none⟩ = some (.int .i64 A) ∧ w'.cell? ⟨gb, go_ + k * 3 + 1, none⟩ = some (.int .i64 B) ∧ w'.cell? ⟨gb, go_ + k * 3 + 2, none⟩ = some (.int .i64 C) ∧ w'.cell? ⟨gb, go_ + (k + 1) * 3, none⟩ = some (.int .i64 D) ∧ w'.cell? ⟨gb, go_ + (k + 1) * 3 + 1, none⟩ = some (.int .i64 E) ∧ w'.cell? ⟨gb, go_ + (k + 1) * 3 + 2, none⟩ = some (.int .i64 G)) (first | (exact keep4_sp x0 x1 x2 y0 y1 y2 gl_ gl_ hw0.drew) | (exact keep4_sp x0 x1 x2 y0 y1 y2 gl_ gl_ hw1) | (fail)) (first | (go_at_call 41; refine (kb _).mono ?_; rintro e w1 ⟨rfl, hb1⟩; have hw1 := stepA hw0.drew hb1) | (fail))
        have hB1 := stepA hB hw1
        clear x0 x1 x2 y0 y1 y2
        go_wp2
        go_ret
        exact ⟨rfl, hB1⟩
    · have i1 : ¬ (k : Int) + 1 < (n : Int) := by omega
      obtain rfl : V = true := by
        by_cases e : n ≤ 1
        · exact H0.out e
        · have : k + 1 = n := by omega
          rw [← HV.out, ← this]; exact HE.out
      clear HE HN HY HV H0 H1
      go_wp2
      go_ret
      exact ⟨rfl, hB⟩
set_option maxHeartbeats 2000000 in
theorem iStamped (a : Option Addr) (n c : Nat) (F : Nat → Int) (w : World) (hn : n ≤ 1048576) (h : IL w a (n * 3) F) :
    Calls Try.prog 38 #[.slice a n c] w fun e w' => e = .returned (.bool (decide (n ≤ 40) && risK F n)) ∧ Below w.heap.size w w' := by
  have kr := iRising a n c F w hn h
  generalize risK F n = V at *
  by_cases h4 : n ≤ 40
  · have j : (n : Int) ≤ (40 : Int) := by omega
    rw [decide_eq_true h4, Bool.true_and]
    go_enter Try.func38, Try.ntmps38
    go_wp2_with (first | (go_at_call 43; refine kr.mono ?_; rintro e w1 ⟨rfl, hb⟩) | (fail))
    go_ret
    exact ⟨rfl, hb⟩
  · have j : ¬ (n : Int) ≤ (40 : Int) := by omega
    rw [decide_eq_false h4, Bool.false_and]
    go_enter Try.func38, Try.ntmps38
    go_wp2
    go_ret
    exact ⟨rfl, Below.refl _ _⟩
end Go.Proofs.Yteknkgfgefhloaa
