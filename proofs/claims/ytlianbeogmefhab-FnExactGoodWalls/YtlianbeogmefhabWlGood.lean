/- Which walls are good, as both say it; the walk of the law on GoodWalls. -/
import Derived.Test.YtlianbeogmefhabWlBase
namespace Go.Proofs.Ytlianbeogmefhab
open Go.RowKit

def plB (n : Int) : Bool := decide (-1000 ≤ n) && decide (n ≤ 1000)
def ppB (x y : Int) : Bool := plB x && plB y
/-- is a wall good -/
def goodW (a b c d : Int) : Bool := ppB a b && ppB c d && !(decide (a = c) && decide (b = d))
/-- are the first k walls good -/
def allW (F : Nat → Int) : Nat → Bool
  | 0 => true
  | k + 1 => allW F k && goodW (F (k * 4)) (F (k * 4 + 1)) (F (k * 4 + 2)) (F (k * 4 + 3))
theorem allW_false {F : Nat → Int} {k n : Nat} (hk : k < n) (h : goodW (F (k * 4)) (F (k * 4 + 1)) (F (k * 4 + 2)) (F (k * 4 + 3)) = false) : allW F n = false := by
  induction n with
  | zero => omega
  | succ n ih =>
    by_cases e : k = n
    · subst e; simp [allW, h]
    · simp [allW, ih (by omega)]
def wallsB (F : Nat → Int) (n : Nat) : Bool := decide (n ≤ 12) && allW F n

set_option maxHeartbeats 400000 in
theorem l8Place_any (n : Int) (w : World) :
    Calls Try.prog 9 #[.int .i64 n] w fun e w' => e = .returned (.bool (plB n)) ∧ w' = w := by
  by_cases h0 : -1000 ≤ n
  · by_cases h1 : n ≤ 1000
    · go_enter Try.func9, Try.ntmps9
      go_wp2
      go_ret
      exact ⟨ret_bool (by simp [plB, h0, h1]), rfl⟩
    · go_enter Try.func9, Try.ntmps9
      go_wp2
      go_ret
      exact ⟨ret_bool (by simp [plB, h0, h1]), rfl⟩
  · go_enter Try.func9, Try.ntmps9
    go_wp2
    go_ret
    exact ⟨ret_bool (by simp [plB]; omega), rfl⟩
set_option maxHeartbeats 400000 in
theorem within_any (n : Int) (w : World) :
    Calls Try.prog 13 #[.int .i64 n, .int .i64 1000] w fun e w' => e = .returned (.bool (plB n)) ∧ w' = w := by
  by_cases h0 : -1000 ≤ n
  · by_cases h1 : n ≤ 1000
    · go_enter Try.func13, Try.ntmps13
      go_wp2
      go_ret
      exact ⟨ret_bool (by simp [plB, h0, h1]), rfl⟩
    · go_enter Try.func13, Try.ntmps13
      go_wp2
      go_ret
      exact ⟨ret_bool (by simp [plB, h0, h1]), rfl⟩
  · go_enter Try.func13, Try.ntmps13
    go_wp2
    go_ret
    exact ⟨ret_bool (by simp [plB]; omega), rfl⟩
set_option maxHeartbeats 400000 in
theorem goodPlace_any (x y : Int) (w : World) :
    Calls Try.prog 11 #[.int .i64 x, .int .i64 y] w fun e w' => e = .returned (.bool (ppB x y)) ∧ w' = w := by
  cases hx : plB x with
  | false =>
    go_enter Try.func11, Try.ntmps11
    go_wp2_with (go_at_call 13; refine (within_any x _).mono ?_; rw [hx]; rintro e w' ⟨rfl, rfl⟩)
    go_ret
    exact ⟨ret_bool (by simp [ppB, hx]), rfl⟩
  | true =>
    go_enter Try.func11, Try.ntmps11
    go_wp2_with (first | (go_at_call_of 13 x; refine (within_any x _).mono ?_; rw [hx]; rintro e w' ⟨rfl, rfl⟩) | (go_at_call 13; refine (within_any y _).mono ?_; rintro e w' ⟨rfl, rfl⟩))
    go_ret
    exact ⟨ret_bool (by simp [ppB, hx]), rfl⟩

set_option maxHeartbeats 2000000 in
theorem implWalls_any (b n cap : Nat) (F : Nat → Int) (w : World) (hn : n ≤ 1048576) (h : IP w b (n * 4) F) :
    Calls Try.prog 7 #[.slice (some ⟨b, 0, none⟩) n cap] w fun e w' => e = .returned (.bool (wallsB F n)) ∧ Below w.heap.size w w' := by
  by_cases h12 : 12 < n
  · have j : (12 : Int) < (n : Int) := by omega
    go_enter Try.func7, Try.ntmps7
    go_wp2
    go_ret
    exact ⟨ret_bool (by simp [wallsB]; omega), Below.refl _ _⟩
  have j : ¬ (12 : Int) < (n : Int) := by omega
  have hw : wallsB F n = allW F n := by simp [wallsB]; omega
  go_enter Try.func7, Try.ntmps7
  go_wp2
  go_loopw [10] (fun i wr => ∃ k : Nat, k ≤ n ∧ i = .int .i64 k ∧ allW F k = true ∧ Below w.heap.size w wr) (fun i _ => n - (intOf i).toNat)
  case atStart => exact ⟨0, Nat.zero_le _, rfl, rfl, Below.refl _ _⟩
  case round =>
    obtain ⟨k, hk, rfl, hall, hB⟩ := hrel
    by_cases hlt : k < n
    · have t1 := h.below hB h.lt
      obtain ⟨x0, x1, x2, x3⟩ := t1.four hlt
      have l1 := t1.lt
      have hno : goodW (F (k * 4)) (F (k * 4 + 1)) (F (k * 4 + 2)) (F (k * 4 + 3)) = false → wallsB F n = false := fun q => by rw [hw]; exact allW_false hlt q
      have hyes : goodW (F (k * 4)) (F (k * 4 + 1)) (F (k * 4 + 2)) (F (k * 4 + 3)) = true → allW F (k + 1) = true := fun q => by simp [allW, hall, q]
      have hlt' : (k : Int) < (n : Int) := by omega
      clear t1 h hw hall
      generalize F (k * 4) = A at x0 hno hyes
      generalize F (k * 4 + 1) = B at x1 hno hyes
      generalize F (k * 4 + 2) = C at x2 hno hyes
      generalize F (k * 4 + 3) = D at x3 hno hyes
      have hB' := hB.alloc hB.size (.cells #[.int .i64 A, .int .i64 B, .int .i64 C, .int .i64 D] 30)
      cases hP : ppB A B
      · have hn0 := hno (by simp [goodW, hP])
        go_wp2_with (first | (go_at_call_of 11 A; refine (goodPlace_any A B _).mono ?_; rw [hP]; rintro e w' ⟨rfl, hw'⟩; have hs := hw'.symm; clear hw'; subst hs) | (go_at_call 11; refine (goodPlace_any C D _).mono ?_; rw [hQ]; rintro e w' ⟨rfl, hw'⟩; have hs := hw'.symm; clear hw'; subst hs))
        go_ret
        exact ⟨ret_bool hn0.symm, hB'⟩
      cases hQ : ppB C D
      · have hn0 := hno (by simp [goodW, hQ])
        go_wp2_with (first | (go_at_call_of 11 A; refine (goodPlace_any A B _).mono ?_; rw [hP]; rintro e w' ⟨rfl, hw'⟩; have hs := hw'.symm; clear hw'; subst hs) | (go_at_call 11; refine (goodPlace_any C D _).mono ?_; rw [hQ]; rintro e w' ⟨rfl, hw'⟩; have hs := hw'.symm; clear hw'; subst hs))
        go_ret
        exact ⟨ret_bool hn0.symm, hB'⟩
      cases e1 : (A == C) with
      | true =>
        cases e2 : (B == D) with
        | true =>
          have hn0 := hno (by have h1 : A = C := by simpa using e1
                              have h2 : B = D := by simpa using e2
                              simp [goodW, h1, h2])
          go_wp2_with (first | (go_at_call_of 11 A; refine (goodPlace_any A B _).mono ?_; rw [hP]; rintro e w' ⟨rfl, hw'⟩; have hs := hw'.symm; clear hw'; subst hs) | (go_at_call 11; refine (goodPlace_any C D _).mono ?_; rw [hQ]; rintro e w' ⟨rfl, hw'⟩; have hs := hw'.symm; clear hw'; subst hs))
          go_ret
          exact ⟨ret_bool hn0.symm, hB'⟩
        | false =>
          have hy := hyes (by have h2 : ¬ B = D := by simpa using e2
                              simp [goodW, hP, hQ, h2])
          go_wp2_with (first | (go_at_call_of 11 A; refine (goodPlace_any A B _).mono ?_; rw [hP]; rintro e w' ⟨rfl, hw'⟩; have hs := hw'.symm; clear hw'; subst hs) | (go_at_call 11; refine (goodPlace_any C D _).mono ?_; rw [hQ]; rintro e w' ⟨rfl, hw'⟩; have hs := hw'.symm; clear hw'; subst hs))
          exact ⟨⟨k + 1, by omega, by go_num, hy, hB'⟩, by simp [intOf]; omega⟩
      | false =>
        have hy := hyes (by have h1 : ¬ A = C := by simpa using e1
                            simp [goodW, hP, hQ, h1])
        go_wp2_with (first | (go_at_call_of 11 A; refine (goodPlace_any A B _).mono ?_; rw [hP]; rintro e w' ⟨rfl, hw'⟩; have hs := hw'.symm; clear hw'; subst hs) | (go_at_call 11; refine (goodPlace_any C D _).mono ?_; rw [hQ]; rintro e w' ⟨rfl, hw'⟩; have hs := hw'.symm; clear hw'; subst hs))
        exact ⟨⟨k + 1, by omega, by go_num, hy, hB'⟩, by simp [intOf]; omega⟩
    · have hke : k = n := by omega
      subst hke
      clear h
      go_wp2
      go_ret
      exact ⟨ret_bool (hw.trans hall).symm, hB⟩

set_option maxHeartbeats 2000000 in
theorem specWalls_any (b n cap : Nat) (F : Nat → Int) (w : World) (hn : n ≤ 1048576) (h : IP w b (n * 4) F) :
    Calls Try.prog 5 #[.slice (some ⟨b, 0, none⟩) n cap] w fun e w' => e = .returned (.bool (wallsB F n)) ∧ Below w.heap.size w w' := by
  by_cases h12 : 12 < n
  · have j : (12 : Int) < (n : Int) := by omega
    go_enter Try.func5, Try.ntmps5
    go_wp2
    go_ret
    exact ⟨ret_bool (by simp [wallsB]; omega), Below.refl _ _⟩
  have j : ¬ (12 : Int) < (n : Int) := by omega
  have hw : wallsB F n = allW F n := by simp [wallsB]; omega
  go_enter Try.func5, Try.ntmps5
  go_wp2
  go_loopw [10] (fun i wr => ∃ k : Nat, k ≤ n ∧ i = .int .i64 k ∧ allW F k = true ∧ Below w.heap.size w wr) (fun i _ => n - (intOf i).toNat)
  case atStart => exact ⟨0, Nat.zero_le _, rfl, rfl, Below.refl _ _⟩
  case round =>
    obtain ⟨k, hk, rfl, hall, hB⟩ := hrel
    by_cases hlt : k < n
    · have t1 := h.below hB h.lt
      obtain ⟨x0, x1, x2, x3⟩ := t1.four hlt
      have l1 := t1.lt
      have hno : goodW (F (k * 4)) (F (k * 4 + 1)) (F (k * 4 + 2)) (F (k * 4 + 3)) = false → wallsB F n = false := fun q => by rw [hw]; exact allW_false hlt q
      have hyes : goodW (F (k * 4)) (F (k * 4 + 1)) (F (k * 4 + 2)) (F (k * 4 + 3)) = true → allW F (k + 1) = true := fun q => by simp [allW, hall, q]
      have hlt' : (k : Int) < (n : Int) := by omega
      clear t1 h hw hall
      generalize F (k * 4) = A at x0 hno hyes
      generalize F (k * 4 + 1) = B at x1 hno hyes
      generalize F (k * 4 + 2) = C at x2 hno hyes
      generalize F (k * 4 + 3) = D at x3 hno hyes
      have hB' := hB.alloc hB.size (.cells #[.int .i64 A, .int .i64 B, .int .i64 C, .int .i64 D] 30)
      cases hA : plB A
      · have hn0 := hno (by simp [goodW, ppB, hA])
        go_wp2_with (first | (go_at_call_of 9 A; refine (l8Place_any A _).mono ?_; rw [hA]; rintro e w' ⟨rfl, hw'⟩; have hs := hw'.symm; clear hw'; subst hs) | (go_at_call_of 9 B; refine (l8Place_any B _).mono ?_; rw [hB0]; rintro e w' ⟨rfl, hw'⟩; have hs := hw'.symm; clear hw'; subst hs) | (go_at_call_of 9 C; refine (l8Place_any C _).mono ?_; rw [hC]; rintro e w' ⟨rfl, hw'⟩; have hs := hw'.symm; clear hw'; subst hs) | (go_at_call_of 9 D; refine (l8Place_any D _).mono ?_; rw [hD]; rintro e w' ⟨rfl, hw'⟩; have hs := hw'.symm; clear hw'; subst hs))
        go_ret
        exact ⟨ret_bool hn0.symm, hB'⟩
      cases hB0 : plB B
      · have hn0 := hno (by simp [goodW, ppB, hB0])
        go_wp2_with (first | (go_at_call_of 9 A; refine (l8Place_any A _).mono ?_; rw [hA]; rintro e w' ⟨rfl, hw'⟩; have hs := hw'.symm; clear hw'; subst hs) | (go_at_call_of 9 B; refine (l8Place_any B _).mono ?_; rw [hB0]; rintro e w' ⟨rfl, hw'⟩; have hs := hw'.symm; clear hw'; subst hs) | (go_at_call_of 9 C; refine (l8Place_any C _).mono ?_; rw [hC]; rintro e w' ⟨rfl, hw'⟩; have hs := hw'.symm; clear hw'; subst hs) | (go_at_call_of 9 D; refine (l8Place_any D _).mono ?_; rw [hD]; rintro e w' ⟨rfl, hw'⟩; have hs := hw'.symm; clear hw'; subst hs))
        go_ret
        exact ⟨ret_bool hn0.symm, hB'⟩
      cases hC : plB C
      · have hn0 := hno (by simp [goodW, ppB, hC])
        go_wp2_with (first | (go_at_call_of 9 A; refine (l8Place_any A _).mono ?_; rw [hA]; rintro e w' ⟨rfl, hw'⟩; have hs := hw'.symm; clear hw'; subst hs) | (go_at_call_of 9 B; refine (l8Place_any B _).mono ?_; rw [hB0]; rintro e w' ⟨rfl, hw'⟩; have hs := hw'.symm; clear hw'; subst hs) | (go_at_call_of 9 C; refine (l8Place_any C _).mono ?_; rw [hC]; rintro e w' ⟨rfl, hw'⟩; have hs := hw'.symm; clear hw'; subst hs) | (go_at_call_of 9 D; refine (l8Place_any D _).mono ?_; rw [hD]; rintro e w' ⟨rfl, hw'⟩; have hs := hw'.symm; clear hw'; subst hs))
        go_ret
        exact ⟨ret_bool hn0.symm, hB'⟩
      cases hD : plB D
      · have hn0 := hno (by simp [goodW, ppB, hD])
        go_wp2_with (first | (go_at_call_of 9 A; refine (l8Place_any A _).mono ?_; rw [hA]; rintro e w' ⟨rfl, hw'⟩; have hs := hw'.symm; clear hw'; subst hs) | (go_at_call_of 9 B; refine (l8Place_any B _).mono ?_; rw [hB0]; rintro e w' ⟨rfl, hw'⟩; have hs := hw'.symm; clear hw'; subst hs) | (go_at_call_of 9 C; refine (l8Place_any C _).mono ?_; rw [hC]; rintro e w' ⟨rfl, hw'⟩; have hs := hw'.symm; clear hw'; subst hs) | (go_at_call_of 9 D; refine (l8Place_any D _).mono ?_; rw [hD]; rintro e w' ⟨rfl, hw'⟩; have hs := hw'.symm; clear hw'; subst hs))
        go_ret
        exact ⟨ret_bool hn0.symm, hB'⟩
      cases e1 : (A == C) with
      | true =>
        cases e2 : (B == D) with
        | true =>
          have hn0 := hno (by have h1 : A = C := by simpa using e1
                              have h2 : B = D := by simpa using e2
                              simp [goodW, h1, h2])
          go_wp2_with (first | (go_at_call_of 9 A; refine (l8Place_any A _).mono ?_; rw [hA]; rintro e w' ⟨rfl, hw'⟩; have hs := hw'.symm; clear hw'; subst hs) | (go_at_call_of 9 B; refine (l8Place_any B _).mono ?_; rw [hB0]; rintro e w' ⟨rfl, hw'⟩; have hs := hw'.symm; clear hw'; subst hs) | (go_at_call_of 9 C; refine (l8Place_any C _).mono ?_; rw [hC]; rintro e w' ⟨rfl, hw'⟩; have hs := hw'.symm; clear hw'; subst hs) | (go_at_call_of 9 D; refine (l8Place_any D _).mono ?_; rw [hD]; rintro e w' ⟨rfl, hw'⟩; have hs := hw'.symm; clear hw'; subst hs))
          go_ret
          exact ⟨ret_bool hn0.symm, hB'⟩
        | false =>
          have hy := hyes (by have h2 : ¬ B = D := by simpa using e2
                              simp [goodW, ppB, hA, hB0, hC, hD, h2])
          go_wp2_with (first | (go_at_call_of 9 A; refine (l8Place_any A _).mono ?_; rw [hA]; rintro e w' ⟨rfl, hw'⟩; have hs := hw'.symm; clear hw'; subst hs) | (go_at_call_of 9 B; refine (l8Place_any B _).mono ?_; rw [hB0]; rintro e w' ⟨rfl, hw'⟩; have hs := hw'.symm; clear hw'; subst hs) | (go_at_call_of 9 C; refine (l8Place_any C _).mono ?_; rw [hC]; rintro e w' ⟨rfl, hw'⟩; have hs := hw'.symm; clear hw'; subst hs) | (go_at_call_of 9 D; refine (l8Place_any D _).mono ?_; rw [hD]; rintro e w' ⟨rfl, hw'⟩; have hs := hw'.symm; clear hw'; subst hs))
          exact ⟨⟨k + 1, by omega, by go_num, hy, hB'⟩, by simp [intOf]; omega⟩
      | false =>
        have hy := hyes (by have h1 : ¬ A = C := by simpa using e1
                            simp [goodW, ppB, hA, hB0, hC, hD, h1])
        go_wp2_with (first | (go_at_call_of 9 A; refine (l8Place_any A _).mono ?_; rw [hA]; rintro e w' ⟨rfl, hw'⟩; have hs := hw'.symm; clear hw'; subst hs) | (go_at_call_of 9 B; refine (l8Place_any B _).mono ?_; rw [hB0]; rintro e w' ⟨rfl, hw'⟩; have hs := hw'.symm; clear hw'; subst hs) | (go_at_call_of 9 C; refine (l8Place_any C _).mono ?_; rw [hC]; rintro e w' ⟨rfl, hw'⟩; have hs := hw'.symm; clear hw'; subst hs) | (go_at_call_of 9 D; refine (l8Place_any D _).mono ?_; rw [hD]; rintro e w' ⟨rfl, hw'⟩; have hs := hw'.symm; clear hw'; subst hs))
        exact ⟨⟨k + 1, by omega, by go_num, hy, hB'⟩, by simp [intOf]; omega⟩
    · have hke : k = n := by omega
      subst hke
      clear h
      go_wp2
      go_ret
      exact ⟨ret_bool (hw.trans hall).symm, hB⟩

set_option maxHeartbeats 400000 in
theorem szWalls_in (a : Option Addr) (n cap : Nat) (w : World) (h : n ≤ 1048576) :
    Calls Try.prog 4 #[.slice a n cap, .int .i64 1048576] w fun e w' => e = .returned (.int .i64 (1048576 - (n : Int))) ∧ w' = w := by
  have j : ¬ (1048576 : Int) - (n : Int) < 0 := by omega
  go_enter Try.func4, Try.ntmps4
  go_wp2
  go_ret
  exact ⟨rfl, rfl⟩
set_option maxHeartbeats 400000 in
theorem szWalls_out (a : Option Addr) (n cap : Nat) (w : World) (h : 1048576 < n) (hm : n ≤ 9223372036854775807) :
    Calls Try.prog 4 #[.slice a n cap, .int .i64 1048576] w fun e w' => e = .returned (.int .i64 (-1)) ∧ w' = w := by
  have j : (1048576 : Int) - (n : Int) < 0 := by omega
  go_enter Try.func4, Try.ntmps4
  go_wp2
  go_ret
  exact ⟨rfl, rfl⟩

set_option maxHeartbeats 1000000 in
theorem wallsLaw (a : Option Addr) (n cap : Nat) (F : Nat → Int) (w : World) (hn : n ≤ 1048576) (h : IL w a (n * 4) F) :
    Calls Try.prog 3 #[.slice a n cap] w fun e w' => e = .returned (.bool true) ∧ Below w.heap.size w w' := by
  have j : ¬ (1048576 : Int) - (n : Int) < 0 := by omega
  go_enter Try.func3, Try.ntmps3
  go_wp2_with fail
  refine (szWalls_in a n cap _ hn).mono ?_
  rintro e w' ⟨rfl, hw'⟩
  have hs := hw'.symm
  clear hw'
  subst hs
  go_wp2_with fail
  refine (toWalls_any a n cap F _ hn h).mono ?_
  rintro e w1 ⟨rfl, hP1, hB1⟩
  go_wp2_with fail
  refine (specWalls_any _ n _ F _ hn hP1).mono ?_
  rintro e w2 ⟨rfl, hb2⟩
  have hB2 := stepA hB1 hb2
  clear hB1 hb2 hP1
  go_wp2_with fail
  refine (toWalls_any a n cap F _ hn (h.below hB2)).mono ?_
  rintro e w3 ⟨rfl, hP3, hb3⟩
  have hB3 := stepA hB2 hb3
  clear hB2 hb3
  go_wp2_with fail
  refine (implWalls_any _ n _ F _ hn hP3).mono ?_
  rintro e w4 ⟨rfl, hb4⟩
  have hP4 := hP3.below hb4 hP3.lt
  have hB4 := stepA hB3 hb4
  clear hB3 hb4 hP3
  generalize wallsB F n = q
  go_wp2_with fail
  refine (toWalls_any a n cap F _ hn (h.below hB4)).mono ?_
  rintro e w5 ⟨rfl, hP5, hb5⟩
  have hQ5 := hP4.below hb5 hP4.lt
  have hB5 := stepA hB4 hb5
  clear hB4 hb5 hP4
  go_wp2_with fail
  refine (eqWalls_any _ _ n _ _ F _ hn hQ5 hP5).mono ?_
  rintro e w6 ⟨rfl, hb6⟩
  have hB6 := stepA hB5 hb6
  clear hB5 hb6 hQ5 hP5
  go_wp2
  go_ret
  exact ⟨rfl, hB6⟩
set_option maxHeartbeats 400000 in
theorem wallsLaw_long (a : Option Addr) (n cap : Nat) (w : World) (h : 1048576 < n) (hm : n ≤ 9223372036854775807) :
    Calls Try.prog 3 #[.slice a n cap] w fun e w' => e = .returned (.bool true) ∧ Below w.heap.size w w' := by
  go_enter Try.func3, Try.ntmps3
  go_wp2_with fail
  refine (szWalls_out a n cap _ h hm).mono ?_
  rintro e w' ⟨rfl, rfl⟩
  go_wp2
  go_ret
  exact ⟨rfl, Below.refl _ _⟩
end Go.Proofs.Ytlianbeogmefhab
