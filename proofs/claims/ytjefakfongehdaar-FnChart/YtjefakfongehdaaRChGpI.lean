/- Whether a state's Parent and First are good, as the program tells it. -/
import Derived.Test.YtjefakfongehdaaRChGcS
import Derived.Test.YtjefakfongehdaaRCwTwo
namespace Go.Proofs.YtjefakfongehdaaR
open Go.RowKit
/-- x is the number of one of n -/
def numB (x : Int) (n : Nat) : Bool := decide (0 ≤ x) && decide (x < (n : Int))
theorem isNum_any (x : Int) (a : Option Addr) (n c : Nat) (w : World) : Calls Try.prog 39 #[.int .i64 x, .slice a n c] w fun e w' => e = .returned (.bool (numB x n)) ∧ w' = w := by
  by_cases h0 : 0 ≤ x
  · by_cases h1 : x < (n : Int)
    · have hr : numB x n = true := by unfold numB; simp [h0, h1]
      rw [hr]
      go_enter Try.func39, Try.ntmps39
      go_wp2
      go_ret
      exact ⟨rfl, rfl⟩
    · have hr : numB x n = false := by unfold numB; simp [h1]
      rw [hr]
      go_enter Try.func39, Try.ntmps39
      go_wp2
      go_ret
      exact ⟨rfl, rfl⟩
  · have hr : numB x n = false := by unfold numB; simp [h0]
    rw [hr]
    go_enter Try.func39, Try.ntmps39
    go_wp2
    go_ret
    exact ⟨rfl, rfl⟩
set_option maxHeartbeats 1000000 in
theorem iParent (a : Option Addr) (n c : Nat) (f : Nat → Int) (s : Nat) (w : World) (hs : s < n) (hc : n ≤ c) (hf : IL w a (n * 2) f) :
    Calls Try.prog 44 #[.slice a n c, .int .i64 (s : Int)] w fun e w' => e = .returned (.bool (parB f s)) ∧ Below w.heap.size w w' := by
  obtain ⟨gb, go_, rfl, gl_, y0, y1⟩ := il_two hf hs
  have j0 : (0 : Int) ≤ (s : Int) := by omega
  have j1 : (s : Int) < (n : Int) := by omega
  have j2 : (s : Int) ≤ (c : Int) := by omega
  by_cases h : s = 0
  · subst h
    have HR : Hid (parB f 0 = (f (0 * 2) == -1)) := by show parB f 0 = _; unfold parB; simp; rfl
    generalize parB f 0 = Q at *
    have y2 : w.cell? ⟨gb, go_, none⟩ = some (.int .i64 (f (0 * 2))) := by simpa using y0
    generalize f (0 * 2) = B at *
    clear hf y0
    go_enter Try.func44, Try.ntmps44
    go_wp2
    go_ret
    exact ⟨ret_bool HR.out.symm, Below.refl _ _⟩
  · have h' : ((s : Int) == 0) = false := by simp; omega
    have hr : parB f s = numB (f (s * 2)) s := by unfold parB numB; rw [if_neg h]
    rw [hr]
    generalize f (s * 2) = B at *
    generalize hq : numB B s = Q at *
    have kN := fun w => isNum_any B (some ⟨gb, go_, none⟩) s c w
    rw [hq] at kN
    clear hr hq hf h
    go_enter Try.func44, Try.ntmps44
    go_wp2_with fail
    go_quiet ((go_at_call 39; exact Calls.quiet_of_same (kN _)))
    go_wp2
    go_ret
    exact ⟨rfl, below_dr (Below.refl _ _) _⟩
set_option maxHeartbeats 1000000 in
theorem isChild_any (u v s : Int) (p : Nat) (w : World) (h0 : w.cell? ⟨p, 0, none⟩ = some (.int .i64 s)) (hp : p < w.heap.size) :
    Calls Try.prog 63 #[.agg #[.int .i64 u, .int .i64 v], .pointer (some ⟨p, 0, none⟩)] w fun e w' => e = .returned (.bool (u == s)) ∧ Below w.heap.size w w' := by
  have hB : Below w.heap.size w (w.alloc (.cells #[.int .i64 u, .int .i64 v] 67)) := (Below.refl _ _).alloc (Nat.le_refl _) _
  go_enter Try.func63, Try.ntmps63
  go_wp2
  go_ret
  exact ⟨rfl, hB⟩
/-- what IndexFunc tells of the children of a state -/
def IdxS (g : Nat → Int) (i k : Nat) (e : Ending) : Prop := ∃ d : Int, e = .returned (.int .i64 d) ∧ decide (0 ≤ d) = kidB k g i
theorem kidB_up {g : Nat → Int} {i k n : Nat} (hk : k < n) (h : g (k * 2) = (i : Int)) : kidB n g i = true := kidB_iff.2 ⟨k, hk, h⟩
set_option maxHeartbeats 1000000 in
theorem idxSta (a : Option Addr) (n c : Nat) (f : Nat → Int) (s p : Nat) (w : World) (hn : n ≤ 12) (hf : IL w a (n * 2) f) (h0 : w.cell? ⟨p, 0, none⟩ = some (.int .i64 (s : Int))) (hp : p < w.heap.size) :
    Calls Try.prog 70 #[.slice a n c, .func (.func 63) #[] #[.pointer (some ⟨p, 0, none⟩)]] w fun e w' => IdxS f s n e ∧ Below w.heap.size w w' := by
  go_enter Try.func70, Try.ntmps70
  go_wp2
  go_loopw [8] (fun q wr => ∃ k : Nat, k ≤ n ∧ q = .int .i64 k ∧ kidB k f s = false ∧ Below w.heap.size w wr) (fun q _ => n - (intOf q).toNat)
  case atStart => exact ⟨0, Nat.zero_le _, rfl, rfl, Below.refl _ _⟩
  case round =>
    obtain ⟨k, hk, rfl, hT, hB⟩ := hrel
    by_cases hlt : k < n
    · obtain ⟨gb, go_, rfl, gl_, y0, y1⟩ := il_two (hf.below hB) hlt
      have j0 : (0 : Int) ≤ (k : Int) := by omega
      have j1 : (k : Int) < (n : Int) := by omega
      have z0 := (hB.cell (p := ⟨p, 0, none⟩) hp).trans h0
      have hp2 : p < wr.heap.size := Nat.lt_of_lt_of_le hp hB.size
      have kA := isChild_any (f (k * 2)) (f (k * 2 + 1)) (s : Int) p wr z0 hp2
      have HE : Hid (f (k * 2) = (s : Int) → kidB n f s = true) := fun h => kidB_up hlt h
      have HN : Hid (¬ f (k * 2) = (s : Int) → kidB (k + 1) f s = false) := fun h => by
        show kidB (k + 1) f s = false
        rw [kidB_succ, hT]; simpa using h
      clear z0 h0
      generalize f (k * 2) = v0 at *
      generalize f (k * 2 + 1) = v1 at *
      cases R : (v0 == (s : Int)) with
      | true =>
        have hr : kidB n f s = true := HE.out (by simpa using R)
        have HR : Hid (IdxS f s n (.returned (.int .i64 (k : Int)))) := ⟨(k : Int), rfl, by rw [hr]; simp⟩
        rw [R] at kA
        clear hr HE HN R
        go_wp2_with (first | (go_at_call 63; refine kA.mono ?_; rintro e w9 ⟨rfl, hb9⟩) | fail)
        go_ret
        exact ⟨HR.out, stepA hB hb9⟩
      | false =>
        have HR : Hid (kidB (k + 1) f s = false) := HN.out (by simpa using R)
        rw [R] at kA
        clear HE HN R
        go_wp2_with (first | (go_at_call 63; refine kA.mono ?_; rintro e w9 ⟨rfl, hb9⟩) | fail)
        exact ⟨⟨k + 1, by omega, by go_num, HR.out, stepA hB hb9⟩, by simp [intOf]; omega⟩
    · have hke : k = n := by omega
      subst hke
      have HR : Hid (IdxS f s k (.returned (.int .i64 (-1)))) := ⟨-1, rfl, by rw [hT]; rfl⟩
      clear hT
      go_wp2
      go_ret
      exact ⟨HR.out, hB⟩
set_option maxHeartbeats 1000000 in
theorem conSta (a : Option Addr) (n c : Nat) (f : Nat → Int) (s p : Nat) (w : World) (hn : n ≤ 12) (hf : IL w a (n * 2) f) (h0 : w.cell? ⟨p, 0, none⟩ = some (.int .i64 (s : Int))) (hp : p < w.heap.size) :
    Calls Try.prog 64 #[.slice a n c, .func (.func 63) #[] #[.pointer (some ⟨p, 0, none⟩)]] w fun e w' => e = .returned (.bool (kidB n f s)) ∧ Below w.heap.size w w' := by
  have hI := idxSta a n c f s p w hn hf h0 hp
  clear h0
  go_enter Try.func64, Try.ntmps64
  go_wp2_with fail
  refine hI.mono ?_
  rintro e w1 ⟨⟨x, rfl, hd⟩, hb1⟩
  clear hI
  have HD : Hid (decide (0 ≤ x) = kidB n f s) := hd
  clear hd
  go_wp2
  go_ret
  exact ⟨ret_bool HD.out, hb1⟩
set_option maxHeartbeats 2000000 in
theorem iFirstOf (a : Option Addr) (n c : Nat) (f : Nat → Int) (s : Nat) (w : World) (hs : s < n) (hn : n ≤ 12) (hf : IL w a (n * 2) f) :
    Calls Try.prog 45 #[.slice a n c, .int .i64 (s : Int)] w fun e w' => e = .returned (.bool (fstB n f s)) ∧ Below w.heap.size w w' := by
  have hb0 : Below w.heap.size w (w.alloc (.cells #[.int .i64 (s : Int)] 3)) := (Below.refl _ _).alloc (Nat.le_refl _) _
  have b0 := bx_new (w := w) [.int .i64 (s : Int)] 3 rfl
  have hf0 := hf.below hb0
  have kC := conSta a n c f s w.heap.size _ hn hf0 b0.c0 b0.lt
  obtain ⟨gb, go_, rfl, gl_, y0, y1⟩ := il_two hf0 hs
  have x0 := b0.c0
  have j0 : (0 : Int) ≤ (s : Int) := by omega
  have j1 : (s : Int) < (n : Int) := by omega
  have kN := fun w => isNum_any (f (s * 2 + 1)) (some ⟨gb, go_, none⟩) n c w
  cases hk : kidB n f s with
  | false =>
    have HR : Hid (fstB n f s = (f (s * 2 + 1) == -1)) := by show fstB n f s = _; unfold fstB; rw [hk]; simp; rfl
    rw [hk] at kC
    generalize fstB n f s = Q at *
    generalize f (s * 2 + 1) = B at *
    clear hf hk kN
    go_enter Try.func45, Try.ntmps45
    go_wp2_with fail
    refine kC.mono ?_
    rintro e w1 ⟨rfl, hb1⟩
    clear kC x0
    go_wp2
    go_ret
    exact ⟨ret_bool HR.out.symm, stepA hb0 hb1⟩
  | true =>
    have HR : Hid (fstB n f s = (numB (f (s * 2 + 1)) n && decide (f ((f (s * 2 + 1)).toNat * 2) = (s : Int)))) := by show fstB n f s = _; unfold fstB numB; rw [hk]; rfl
    rw [hk] at kC
    generalize fstB n f s = Q at *
    cases hB : numB (f (s * 2 + 1)) n with
    | false =>
      have hq : Q = false := by rw [HR.out, hB]; rfl
      rw [hq]
      rw [hB] at kN
      generalize f (s * 2 + 1) = B at *
      clear hf hk HR hq hB
      go_enter Try.func45, Try.ntmps45
      go_wp2_with fail
      refine kC.mono ?_
      rintro e w1 ⟨rfl, hb1⟩
      clear kC x0
      go_wp2_with fail
      refine (kN _).mono ?_
      rintro e w2 ⟨rfl, hw2⟩
      have hs2 := hw2.symm
      clear hw2
      subst hs2
      go_wp2
      go_ret
      exact ⟨rfl, stepA hb0 hb1⟩
    | true =>
      have h9 : 0 ≤ f (s * 2 + 1) ∧ f (s * 2 + 1) < (n : Int) := by unfold numB at hB; simpa using hB
      obtain ⟨t, ht⟩ : ∃ t : Nat, f (s * 2 + 1) = (t : Int) := ⟨(f (s * 2 + 1)).toNat, by omega⟩
      have htn : t < n := by omega
      rw [hB] at kN
      have hq : Q = (f (t * 2) == (s : Int)) := by rw [HR.out, hB, ht]; simp; rfl
      rw [ht] at y1 kN
      obtain ⟨gb', go', he, gl', u0, u1⟩ := il_two hf0 htn
      obtain ⟨rfl, rfl⟩ : gb' = gb ∧ go' = go_ := by simp at he; exact ⟨he.1.symm, he.2.symm⟩
      have i0 : (0 : Int) ≤ (t : Int) := by omega
      have i1 : (t : Int) < (n : Int) := by omega
      rw [hq]
      clear hf hk HR hq hB h9 ht he
      generalize f (t * 2) = v0 at *
      generalize f (t * 2 + 1) = v1 at *
      go_enter Try.func45, Try.ntmps45
      go_wp2_with fail
      refine kC.mono ?_
      rintro e w1 ⟨rfl, hb1⟩
      have b1 := b0.on hb1
      have u2 := (hb1.cell (p := ⟨gb', _, none⟩) gl').trans u0
      have u3 := (hb1.cell (p := ⟨gb', _, none⟩) gl').trans u1
      have kI := isChild_any v0 v1 (s : Int) w.heap.size w1 b1.c0 b1.lt
      clear kC x0
      go_wp2_with fail
      refine (kN _).mono ?_
      rintro e w2 ⟨rfl, hw2⟩
      have hs2 := hw2.symm
      clear hw2
      subst hs2
      clear kN
      go_wp2_with (first | (go_at_call 63; refine kI.mono ?_; rintro e w9 ⟨rfl, hb9⟩) | fail)
      go_ret
      exact ⟨rfl, stepA (stepA hb0 hb1) hb9⟩
end Go.Proofs.YtjefakfongehdaaR
