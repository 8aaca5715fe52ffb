/- Which places lie within the sides, as the model says it. -/
import Derived.Test.YtfciecoigfnnhaaQSzHv
import Derived.Test.YtfciecoigfnnhaaQWyKey
namespace Go.Proofs.Ytfciecoigfnnhaa
open Go.RowKit

set_option maxHeartbeats 1000000 in
theorem has_any (W : Int) (n : Nat) (x y : Int) (w : World) (h0 : 1 ≤ W) (hn : n ≤ 1048576) :
    Calls Try.prog 83 #[.int .i64 W, .int .i64 (n : Int), .int .i64 x, .int .i64 y] w fun e w' => e = .returned (.bool (hvB W (hgt W n) x y)) ∧ w' = w := by
  have j0 : (0 : Int) ≤ (n : Int) := by omega
  have hz : ¬ W = 0 := by omega
  have ed := Int.tdiv_eq_ediv_of_nonneg (a := (n : Int)) (b := W) (by omega)
  have hq0 : 0 ≤ (n : Int) / W := Int.ediv_nonneg (by omega) (by omega)
  have hq1 : (n : Int) / W ≤ (n : Int) := Int.ediv_le_self _ (by omega)
  unfold hgt
  by_cases h1 : 0 ≤ x
  · by_cases h2 : x < W
    · by_cases h3 : 0 ≤ y
      · by_cases h4 : y < (n : Int) / W
        · rw [hvB_mk ⟨h1, h2, h3, h4⟩]
          go_enter Try.func83, Try.ntmps83
          go_wp2
          go_ret
          exact ⟨rfl, rfl⟩
        · rw [hvB_f (by omega)]
          go_enter Try.func83, Try.ntmps83
          go_wp2
          go_ret
          exact ⟨rfl, rfl⟩
      · rw [hvB_f (by omega)]
        go_enter Try.func83, Try.ntmps83
        go_wp2
        go_ret
        exact ⟨rfl, rfl⟩
    · rw [hvB_f (by omega)]
      go_enter Try.func83, Try.ntmps83
      go_wp2
      go_ret
      exact ⟨rfl, rfl⟩
  · rw [hvB_f (by omega)]
    go_enter Try.func83, Try.ntmps83
    go_wp2
    go_ret
    exact ⟨rfl, rfl⟩

end Go.Proofs.Ytfciecoigfnnhaa

/- The cells around one, as the specification tells them. -/
namespace Go.Proofs.Ytfciecoigfnnhaa
open Go.RowKit

set_option maxRecDepth 20000 in
set_option maxHeartbeats 4000000 in
theorem sAround (W : Int) (q : Option Addr) (n c : Nat) (a : Int) (w : World) (hs : sizedB W n = true) (ha0 : 0 ≤ a) (ha1 : a < (n : Int)) :
    Calls Try.prog 47 #[cel W q n c, .int .i64 a] w fun e w' => AnsL w w' e (arK W n a 9) ∧ Below w.heap.size w w' := by
  obtain ⟨i0, hi, hzz⟩ := Option.map_eq_some_iff.1 infoI
  simp only [Prod.mk.injEq] at hzz
  obtain ⟨hz0, hz1, hz2⟩ := hzz
  have hn2 := sized_le hs
  have hW := (sizedB_t hs).1
  have hW2 := (sizedB_t hs).2.1
  have hW0 : ¬ W = 0 := by omega
  have hb0 : Below w.heap.size w (w.alloc (celO W q n c 25)) := (Below.refl _ _).alloc (Nat.le_refl _) _
  have bA := bx_new (w := w) (celL W q n c) 25 rfl
  obtain ⟨ax, ay⟩ := crd hs ha0 ha1
  have ta := tm_of (W := W) ha0
  have da := td_of (W := W) ha0
  have HST : Hid (∀ k, arK W n a (k + 1) = if arIn W n a k then arK W n a k ++ [arV W a k] else arK W n a k) := fun _ => rfl
  have HLN : Hid (∀ k, (arK W n a k).length ≤ k) := arK_len W n a
  have HIN : Hid (∀ r s : Nat, s < 3 → arIn W n a (3 * r + s) = (hvB W (hgt W n) (a % W + ((s : Int) - 1)) (a / W + ((r : Int) - 1)) && (((s : Int) - 1 != 0) || ((r : Int) - 1 != 0))) ∧ arV W a (3 * r + s) = (a / W + ((r : Int) - 1)) * W + (a % W + ((s : Int) - 1))) := fun r s h => (by
    have e1 : (3 * r + s) % 3 = s := by omega
    have e2 : (3 * r + s) / 3 = r := by omega
    unfold arIn arV arX arY
    rw [e1, e2]
    refine ⟨?_, rfl⟩
    congr 1
    rw [Bool.eq_iff_iff]
    simp : _ ∧ _)
  have khas := fun x y w => has_any W n x y w hW (by omega : n ≤ 1048576)
  generalize a % W = AX at *
  generalize a / W = AY at *
  go_enter Try.func47, Try.ntmps47
  go_wp2
  generalize w.alloc (celO W q n c 25) = w1 at bA hb0 ⊢
  have hbs := hb0.size
  go_loopw [5, 6] (fun v i wr => ∃ r : Nat, r ≤ 3 ∧ i = .int .i64 ((r : Int) - 1) ∧ Own wr w1.heap.size v (arK W n a (3 * r)).length (gl (arK W n a (3 * r))) ∧ Below w1.heap.size w1 wr) (fun _ i _ => (2 - intOf i).toNat)
  case atStart => exact ⟨0, by omega, rfl, World.ownsRow_nil _ _ _ _, Below.refl _ _⟩
  case round =>
    obtain ⟨r, hr, rfl, hown, hB⟩ := hrel
    by_cases hlt : r < 3
    · have d0 : (r : Int) - 1 ≤ 1 := by omega
      have d1 : -1 ≤ (r : Int) - 1 := by omega
      obtain ⟨w8, hw8⟩ : ∃ w8, w8 = wr := ⟨wr, rfl⟩
      subst hw8
      go_wp2
      go_loopw [5, 7] (fun v i wx => ∃ s : Nat, s ≤ 3 ∧ i = .int .i64 ((s : Int) - 1) ∧ Own wx w1.heap.size v (arK W n a (3 * r + s)).length (gl (arK W n a (3 * r + s))) ∧ Below w1.heap.size w1 wx) (fun _ i _ => (2 - intOf i).toNat)
      case atStart => exact ⟨0, by omega, rfl, hown, hB⟩
      case round =>
        obtain ⟨s, hs3, rfl, hown2, hB2⟩ := hrel
        clear hown hB
        by_cases hlt2 : s < 3
        · have c0 : (s : Int) - 1 ≤ 1 := by omega
          have c1 : -1 ≤ (s : Int) - 1 := by omega
          have bC := bA.on hB2
          have x0 := bC.c0
          have x1 := bC.c1
          have hlen := HLN.out (3 * r + s)
          obtain ⟨hin, hval⟩ := HIN.out r s hlt2
          have hstep := HST.out (3 * r + s)
          rw [hin, hval] at hstep
          have hbase : w1.heap.size ≤ wr.heap.size := hB2.size
          have kh := khas (AX + ((s : Int) - 1)) (AY + ((r : Int) - 1))
          have hvt : Hid (hvB W (hgt W n) (AX + ((s : Int) - 1)) (AY + ((r : Int) - 1)) = true → 0 ≤ AY + ((r : Int) - 1)) := fun h => (hvB_t h).2.2.1
          have e9 : 3 * r + (s + 1) = 3 * r + s + 1 := by omega
          have R9 : Hid (3 * r + (s + 1) = 3 * r + s + 1) := e9
          clear hin hval HIN HST HLN khas e9
          generalize arK W n a (3 * r + s) = l at hown2 hlen hstep
          generalize hvB W (hgt W n) (AX + ((s : Int) - 1)) (AY + ((r : Int) - 1)) = hv at kh hstep hvt
          have m1 := mul_100 (a := AY + ((r : Int) - 1)) (b := W) (by omega) (by omega) (by omega) (by omega)
          have z1 : IntKind.i64.wrap ((AY + ((r : Int) - 1)) * W) = (AY + ((r : Int) - 1)) * W := IntWalk.i64_in _ ⟨by omega, by omega⟩
          generalize hS : (s : Int) - 1 = DX at *
          generalize hR : (r : Int) - 1 = DY at *
          have HS : Hid ((s : Int) - 1 = DX) := hS
          clear hS hR
          obtain ⟨sa, sc, rfl⟩ := hown2.shape
          cases hv with
          | false =>
            have hp : arK W n a (3 * r + (s + 1)) = l := by rw [R9.out, hstep]; simp
            clear hstep hvt
            go_wp2_with (go_at_call 83; refine (kh _).mono ?_; rintro e w' ⟨rfl, hw'⟩; have hs' := hw'.symm; clear hw'; subst hs')
            exact ⟨⟨s + 1, by omega, by have := HS.out; congr 1; omega, by rw [hp]; exact hown2, hB2⟩, by have := HS.out; simp [intOf]; omega⟩
          | true =>
            have hy := hvt.out rfl
            clear hvt
            cases q1 : (DX != 0) with
            | true =>
              have hp : arK W n a (3 * r + (s + 1)) = l ++ [(AY + DY) * W + (AX + DX)] := by rw [R9.out, hstep]; simp [q1]
              clear hstep
              go_wp2_with (first | (go_at_call 83; refine (kh _).mono ?_; rintro e w' ⟨rfl, hw'⟩; have hs' := hw'.symm; clear hw'; subst hs') | (at_builtin; refine wpList_append_own _ rfl _ _ 23 rfl w1.heap.size 3 i0 (.int .i64 0) 1 8 Try.underlying23 hi hz0 hz1 hz2 rfl (by decide) _ _ _ rfl (World.ownsRow.alloc hown2 _) ⟨wr.heap.size, 0, none⟩ 1 1 [.int .i64 ((AY + DY) * W + (AX + DX))] rfl rfl (cell_one_new _ _ _) (fun x hx => by simp at hx; subst hx; rfl) (by unfold maxLen; omega) (by omega) (by simp; omega) ?_; intro v' w3 hown' hgrow3 _))
              have hB3 := (hB2.alloc hB2.size (.cells #[.int .i64 ((AY + DY) * W + (AX + DX))] 3)).grown hgrow3 (by simp; omega) (fun q hq => (World.ownsRow.lt hown2 q hq).1)
              exact ⟨⟨s + 1, by omega, by have := HS.out; congr 1; omega, by rw [hp]; exact own_snoc hown', hB3⟩, by have := HS.out; simp [intOf]; omega⟩
            | false =>
              cases q2 : (DY != 0) with
              | true =>
                have hp : arK W n a (3 * r + (s + 1)) = l ++ [(AY + DY) * W + (AX + DX)] := by rw [R9.out, hstep]; simp [q2]
                clear hstep
                go_wp2_with (first | (go_at_call 83; refine (kh _).mono ?_; rintro e w' ⟨rfl, hw'⟩; have hs' := hw'.symm; clear hw'; subst hs') | (at_builtin; refine wpList_append_own _ rfl _ _ 23 rfl w1.heap.size 3 i0 (.int .i64 0) 1 8 Try.underlying23 hi hz0 hz1 hz2 rfl (by decide) _ _ _ rfl (World.ownsRow.alloc hown2 _) ⟨wr.heap.size, 0, none⟩ 1 1 [.int .i64 ((AY + DY) * W + (AX + DX))] rfl rfl (cell_one_new _ _ _) (fun x hx => by simp at hx; subst hx; rfl) (by unfold maxLen; omega) (by omega) (by simp; omega) ?_; intro v' w3 hown' hgrow3 _))
                have hB3 := (hB2.alloc hB2.size (.cells #[.int .i64 ((AY + DY) * W + (AX + DX))] 3)).grown hgrow3 (by simp; omega) (fun q hq => (World.ownsRow.lt hown2 q hq).1)
                exact ⟨⟨s + 1, by omega, by have := HS.out; congr 1; omega, by rw [hp]; exact own_snoc hown', hB3⟩, by have := HS.out; simp [intOf]; omega⟩
              | false =>
                have hp : arK W n a (3 * r + (s + 1)) = l := by rw [R9.out, hstep]; simp [q1, q2]
                clear hstep
                go_wp2_with (go_at_call 83; refine (kh _).mono ?_; rintro e w' ⟨rfl, hw'⟩; have hs' := hw'.symm; clear hw'; subst hs')
                exact ⟨⟨s + 1, by omega, by have := HS.out; congr 1; omega, by rw [hp]; exact hown2, hB2⟩, by have := HS.out; simp [intOf]; omega⟩
        · have hs2 : s = 3 := by omega
          subst hs2
          clear HIN HST HLN khas
          go_wp2
          exact ⟨⟨r + 1, by omega, by congr 1; omega, hown2, hB2⟩, by simp [intOf]; omega⟩
    · have hr2 : r = 3 := by omega
      subst hr2
      clear HIN HST HLN khas
      have hBw := hb0.trans (hB.mono hb0.size)
      obtain ⟨sa, sc, rfl⟩ := hown.shape
      go_wp2
      go_ret
      exact ⟨ansL_own hown hbs, hBw⟩
end Go.Proofs.Ytfciecoigfnnhaa

/- CmpCost, as the specification says it. -/
namespace Go.Proofs.Ytfciecoigfnnhaa
open Go.RowKit

set_option maxHeartbeats 400000 in
theorem sSign (n : Int) (w : World) : Calls Try.prog 85 #[.int .i64 n] w fun e w' => e = .returned (.int .i64 (sgI n)) ∧ w' = w := by
  by_cases h0 : n < 0
  · skip
    have e0 : sgI n = -1 := by simp [sgI, *]
    rw [e0]
    go_enter Try.func85, Try.ntmps85
    go_wp2
    go_ret
    exact ⟨rfl, rfl⟩
  · by_cases h1 : 0 < n
    · skip
      have e0 : sgI n = 1 := by simp [sgI, *]
      rw [e0]
      go_enter Try.func85, Try.ntmps85
      go_wp2
      go_ret
      exact ⟨rfl, rfl⟩
    · skip
      have e0 : sgI n = 0 := by simp [sgI, *]
      rw [e0]
      go_enter Try.func85, Try.ntmps85
      go_wp2
      go_ret
      exact ⟨rfl, rfl⟩

set_option maxHeartbeats 1000000 in
theorem sCmp (a b : Int) (w : World) (ha0 : -1000000 ≤ a) (ha1 : a ≤ 1000000) (hb0 : -1000000 ≤ b) (hb1 : b ≤ 1000000) :
    Calls Try.prog 49 #[.int .i64 a, .int .i64 b] w fun e w' => e = .returned (.int .i64 (cmpV a b)) ∧ w' = w := by
  have ka := sSign a
  have kb := sSign b
  have q0 := sq_le ha0 ha1
  have q1 : 0 ≤ 2 * b * b ∧ 2 * b * b ≤ 2000000000000 := by rw [Int.mul_assoc]; have := sq_le hb0 hb1; omega
  have ecv : cmpV a b = if sgI a = sgI b ∨ b = 0 then sgI a else if a = 0 then sgI b else if 2 * b * b < a * a then sgI a else sgI b := rfl
  rw [ecv]
  clear ecv
  obtain ⟨q00, q01⟩ := q0
  obtain ⟨q10, q11⟩ := q1
  generalize sgI a = A at ka ⊢
  generalize sgI b = B at kb ⊢
  cases e1 : (A == B) with
  | true =>
    have h : A = B := by simpa using e1
    rw [if_pos (Or.inl h)]
    clear h
    go_enter Try.func49, Try.ntmps49
    go_wp2_with (first | (go_at_call_of 85 (Value.int .i64 a); refine (ka _).mono ?_; rintro e w' ⟨rfl, hw'⟩; have hs := hw'.symm; clear hw'; subst hs) | (go_at_call_of 85 (Value.int .i64 b); refine (kb _).mono ?_; rintro e w' ⟨rfl, hw'⟩; have hs := hw'.symm; clear hw'; subst hs))
    go_ret
    exact ⟨rfl, rfl⟩
  | false =>
    have h : ¬ A = B := by simpa using e1
    cases e2 : (b == 0) with
    | true =>
      have h2 : b = 0 := by simpa using e2
      rw [if_pos (Or.inr h2)]
      clear h h2
      go_enter Try.func49, Try.ntmps49
      go_wp2_with (first | (go_at_call_of 85 (Value.int .i64 a); refine (ka _).mono ?_; rintro e w' ⟨rfl, hw'⟩; have hs := hw'.symm; clear hw'; subst hs) | (go_at_call_of 85 (Value.int .i64 b); refine (kb _).mono ?_; rintro e w' ⟨rfl, hw'⟩; have hs := hw'.symm; clear hw'; subst hs))
      go_ret
      exact ⟨rfl, rfl⟩
    | false =>
      have h2 : ¬ b = 0 := by simpa using e2
      rw [if_neg (by rintro (x | x); exact h x; exact h2 x)]
      clear h h2
      cases e3 : (a == 0) with
      | true =>
        have h3 : a = 0 := by simpa using e3
        rw [if_pos h3]
        clear h3
        go_enter Try.func49, Try.ntmps49
        go_wp2_with (first | (go_at_call_of 85 (Value.int .i64 a); refine (ka _).mono ?_; rintro e w' ⟨rfl, hw'⟩; have hs := hw'.symm; clear hw'; subst hs) | (go_at_call_of 85 (Value.int .i64 b); refine (kb _).mono ?_; rintro e w' ⟨rfl, hw'⟩; have hs := hw'.symm; clear hw'; subst hs))
        go_ret
        exact ⟨rfl, rfl⟩
      | false =>
        have h3 : ¬ a = 0 := by simpa using e3
        rw [if_neg h3]
        clear h3
        by_cases e4 : 2 * b * b < a * a
        · rw [if_pos e4]
          go_enter Try.func49, Try.ntmps49
          go_wp2_with (first | (go_at_call_of 85 (Value.int .i64 a); refine (ka _).mono ?_; rintro e w' ⟨rfl, hw'⟩; have hs := hw'.symm; clear hw'; subst hs) | (go_at_call_of 85 (Value.int .i64 b); refine (kb _).mono ?_; rintro e w' ⟨rfl, hw'⟩; have hs := hw'.symm; clear hw'; subst hs))
          go_ret
          exact ⟨rfl, rfl⟩
        · rw [if_neg e4]
          go_enter Try.func49, Try.ntmps49
          go_wp2_with (first | (go_at_call_of 85 (Value.int .i64 a); refine (ka _).mono ?_; rintro e w' ⟨rfl, hw'⟩; have hs := hw'.symm; clear hw'; subst hs) | (go_at_call_of 85 (Value.int .i64 b); refine (kb _).mono ?_; rintro e w' ⟨rfl, hw'⟩; have hs := hw'.symm; clear hw'; subst hs))
          go_ret
          exact ⟨rfl, rfl⟩

set_option maxHeartbeats 400000 in
theorem sSteps (n : Int) (w : World) : Calls Try.prog 69 #[.int .i64 n] w fun e w' => e = .returned (.bool (stB n)) ∧ w' = w := by
  by_cases h0 : 0 ≤ n
  · by_cases h1 : n ≤ 1000000
    · skip
      have e0 : stB n = true := by simp [stB]; omega
      rw [e0]
      go_enter Try.func69, Try.ntmps69
      go_wp2
      go_ret
      exact ⟨rfl, rfl⟩
    · skip
      have e0 : stB n = false := by simp [stB]; omega
      rw [e0]
      go_enter Try.func69, Try.ntmps69
      go_wp2
      go_ret
      exact ⟨rfl, rfl⟩
  · skip
    have e0 : stB n = false := by simp [stB]; omega
    rw [e0]
    go_enter Try.func69, Try.ntmps69
    go_wp2
    go_ret
    exact ⟨rfl, rfl⟩

set_option maxHeartbeats 1000000 in
theorem sCmpCost (a b c d : Int) (w : World) :
    Calls Try.prog 27 #[.int .i64 a, .int .i64 b, .int .i64 c, .int .i64 d] w fun e w' => e = .returned (.tuple #[.int .i64 (cstV a b c d), .bool (cstB a b c d)]) ∧ w' = w := by
  have ka := sSteps a
  have kb := sSteps b
  have kc := sSteps c
  have kd := sSteps d
  cases e0 : stB a with
  | false =>
    have e : cstB a b c d = false := by simp [cstB, e0]
    have e' : cstV a b c d = 0 := by simp [cstV, e]
    rw [e, e']
    rw [e0] at ka
    go_enter Try.func27, Try.ntmps27
    go_wp2_with (first | (go_at_call_of 69 (Value.int .i64 a); refine (ka _).mono ?_; rintro e w' ⟨rfl, hw'⟩; have hs := hw'.symm; clear hw'; subst hs))
    go_ret2
    exact ⟨rfl, rfl⟩
  | true =>
    cases e1 : stB b with
    | false =>
      have e : cstB a b c d = false := by simp [cstB, e1]
      have e' : cstV a b c d = 0 := by simp [cstV, e]
      rw [e, e']
      rw [e0] at ka
      rw [e1] at kb
      go_enter Try.func27, Try.ntmps27
      go_wp2_with (first | (go_at_call_of 69 (Value.int .i64 a); refine (ka _).mono ?_; rintro e w' ⟨rfl, hw'⟩; have hs := hw'.symm; clear hw'; subst hs) | (go_at_call_of 69 (Value.int .i64 b); refine (kb _).mono ?_; rintro e w' ⟨rfl, hw'⟩; have hs := hw'.symm; clear hw'; subst hs))
      go_ret2
      exact ⟨rfl, rfl⟩
    | true =>
      cases e2 : stB c with
      | false =>
        have e : cstB a b c d = false := by simp [cstB, e2]
        have e' : cstV a b c d = 0 := by simp [cstV, e]
        rw [e, e']
        rw [e0] at ka
        rw [e1] at kb
        rw [e2] at kc
        go_enter Try.func27, Try.ntmps27
        go_wp2_with (first | (go_at_call_of 69 (Value.int .i64 a); refine (ka _).mono ?_; rintro e w' ⟨rfl, hw'⟩; have hs := hw'.symm; clear hw'; subst hs) | (go_at_call_of 69 (Value.int .i64 b); refine (kb _).mono ?_; rintro e w' ⟨rfl, hw'⟩; have hs := hw'.symm; clear hw'; subst hs) | (go_at_call_of 69 (Value.int .i64 c); refine (kc _).mono ?_; rintro e w' ⟨rfl, hw'⟩; have hs := hw'.symm; clear hw'; subst hs))
        go_ret2
        exact ⟨rfl, rfl⟩
      | true =>
        cases e3 : stB d with
        | false =>
          have e : cstB a b c d = false := by simp [cstB, e3]
          have e' : cstV a b c d = 0 := by simp [cstV, e]
          rw [e, e']
          rw [e0] at ka
          rw [e1] at kb
          rw [e2] at kc
          rw [e3] at kd
          go_enter Try.func27, Try.ntmps27
          go_wp2_with (first | (go_at_call_of 69 (Value.int .i64 a); refine (ka _).mono ?_; rintro e w' ⟨rfl, hw'⟩; have hs := hw'.symm; clear hw'; subst hs) | (go_at_call_of 69 (Value.int .i64 b); refine (kb _).mono ?_; rintro e w' ⟨rfl, hw'⟩; have hs := hw'.symm; clear hw'; subst hs) | (go_at_call_of 69 (Value.int .i64 c); refine (kc _).mono ?_; rintro e w' ⟨rfl, hw'⟩; have hs := hw'.symm; clear hw'; subst hs) | (go_at_call_of 69 (Value.int .i64 d); refine (kd _).mono ?_; rintro e w' ⟨rfl, hw'⟩; have hs := hw'.symm; clear hw'; subst hs))
          go_ret2
          exact ⟨rfl, rfl⟩
        | true =>
          have e : cstB a b c d = true := by simp [cstB, e0, e1, e2, e3]
          have e' : cstV a b c d = cmpV (a - c) (b - d) := by simp [cstV, e]
          rw [e, e']
          rw [e0] at ka
          rw [e1] at kb
          rw [e2] at kc
          rw [e3] at kd
          have g0 := stB_t e0
          have g1 := stB_t e1
          have g2 := stB_t e2
          have g3 := stB_t e3
          clear e e' e0 e1 e2 e3
          have kc0 := sCmp (a - c) (b - d)
          generalize cmpV (a - c) (b - d) = v at kc0 ⊢
          go_enter Try.func27, Try.ntmps27
          go_wp2_with (first | (go_at_call_of 69 (Value.int .i64 a); refine (ka _).mono ?_; rintro e w' ⟨rfl, hw'⟩; have hs := hw'.symm; clear hw'; subst hs) | (go_at_call_of 69 (Value.int .i64 b); refine (kb _).mono ?_; rintro e w' ⟨rfl, hw'⟩; have hs := hw'.symm; clear hw'; subst hs) | (go_at_call_of 69 (Value.int .i64 c); refine (kc _).mono ?_; rintro e w' ⟨rfl, hw'⟩; have hs := hw'.symm; clear hw'; subst hs) | (go_at_call_of 69 (Value.int .i64 d); refine (kd _).mono ?_; rintro e w' ⟨rfl, hw'⟩; have hs := hw'.symm; clear hw'; subst hs) | (go_at_call 49; refine (kc0 _ (by omega) (by omega) (by omega) (by omega)).mono ?_; rintro e w' ⟨rfl, hw'⟩; have hs := hw'.symm; clear hw'; subst hs))
          go_ret2
          exact ⟨rfl, rfl⟩
end Go.Proofs.Ytfciecoigfnnhaa
