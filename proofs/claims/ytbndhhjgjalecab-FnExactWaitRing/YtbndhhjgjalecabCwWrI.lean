/- Who waits in a ring, as the program tells it. -/
import Derived.Test.YtbndhhjgjalecabCwWrP
namespace Go.Proofs.Ytbndhhjgjalecab
open Go.RowKit

/-- is a number beyond -/
def byB (n : Nat) (x : Int) : Bool := decide (x < -1) || decide ((n : Int) ≤ x)
def IdxW (n : Nat) (f : Nat → Int) (e : Ending) : Prop := ∃ d : Int, e = .returned (.int .i64 d) ∧ decide (0 ≤ d) = !(wkB n f n)
set_option maxHeartbeats 1000000 in
theorem beyond_any (a : Option Addr) (n c p : Nat) (x : Int) (w : World) (hp : w.cell? ⟨p, 0, none⟩ = some (.slice a n c)) :
    Calls Try.prog 12 #[.int .i64 x, .pointer (some ⟨p, 0, none⟩)] w fun e w' => e = .returned (.bool (byB n x)) ∧ w' = w := by
  by_cases h1 : x < -1
  · have hr : byB n x = true := by simp [byB, h1]
    rw [hr]
    go_enter Try.func12, Try.ntmps12
    go_wp2
    go_ret
    exact ⟨rfl, rfl⟩
  · by_cases h2 : (n : Int) ≤ x
    · have hr : byB n x = true := by simp [byB, h2]
      rw [hr]
      go_enter Try.func12, Try.ntmps12
      go_wp2
      go_ret
      exact ⟨rfl, rfl⟩
    · have hr : byB n x = false := by simp [byB, h1, h2]
      rw [hr]
      go_enter Try.func12, Try.ntmps12
      go_wp2
      go_ret
      exact ⟨rfl, rfl⟩
set_option maxHeartbeats 1000000 in
theorem idxWait (a : Option Addr) (n c p : Nat) (f : Nat → Int) (w : World) (hn : n ≤ 1048576) (hf : IL w a n f) (hp : w.cell? ⟨p, 0, none⟩ = some (.slice a n c)) :
    Calls Try.prog 14 #[.slice a n c, .func (.func 12) #[] #[.pointer (some ⟨p, 0, none⟩)]] w fun e w' => IdxW n f e ∧ w' = w := by
  go_enter Try.func14, Try.ntmps14
  go_wp2
  go_loopw [8] (fun i wr => ∃ k : Nat, k ≤ n ∧ i = .int .i64 k ∧ wkB n f k = true ∧ wr = w) (fun i _ => n - (intOf i).toNat)
  case atStart => exact ⟨0, Nat.zero_le _, rfl, rfl, rfl⟩
  case round =>
    obtain ⟨k, hk, rfl, hT, hw⟩ := hrel
    have hw' := hw.symm
    clear hw
    subst hw'
    by_cases hlt : k < n
    · obtain ⟨b, off, ea, hb, hc⟩ := hf (by omega)
      have x0 := hc k hlt
      have j0 : (0 : Int) ≤ (k : Int) := by omega
      have j1 : (k : Int) < (n : Int) := by omega
      have kB := beyond_any a n c p (f k) w hp
      have HE : Hid (byB n (f k) = false → wkB n f (k + 1) = true) := fun h => by
        simp only [byB, Bool.or_eq_false_iff, decide_eq_false_iff_not] at h
        simp only [wkB, hT, Bool.true_and, Bool.and_eq_true, decide_eq_true_eq]; omega
      have HN : Hid (byB n (f k) = true → wkB n f n = false) := fun h => by
        cases e : wkB n f n with
        | false => rfl
        | true =>
          have := wkB_at e k hlt
          simp only [byB, Bool.or_eq_true, decide_eq_true_eq] at h
          omega
      subst ea
      clear hc hf hp
      generalize byB n (f k) = R at kB HE HN
      generalize f k = X at x0 kB
      cases R with
      | true =>
        have hr := HN.out rfl
        have HR : Hid (IdxW n f (.returned (.int .i64 (k : Int)))) := ⟨(k : Int), rfl, by rw [hr]; simp⟩
        clear HN HE hr
        go_wp2_with (first | (go_at_call 12; refine kB.mono ?_; rintro e w9 ⟨rfl, hw9⟩; have hs' := hw9.symm; clear hw9 kB; subst hs') | fail)
        go_ret
        exact ⟨HR.out, by first | trivial | rfl⟩
      | false =>
        have HR : Hid (wkB n f (k + 1) = true) := HE.out rfl
        clear HN HE
        go_wp2_with (first | (go_at_call 12; refine kB.mono ?_; rintro e w9 ⟨rfl, hw9⟩; have hs' := hw9.symm; clear hw9 kB; subst hs') | fail)
        exact ⟨⟨k + 1, by omega, by go_num, HR.out, by first | trivial | rfl⟩, by simp [intOf]; omega⟩
    · have hke : k = n := by omega
      subst hke
      have HR : Hid (IdxW k f (.returned (.int .i64 (-1)))) := ⟨-1, rfl, by rw [hT]; rfl⟩
      clear hT
      go_wp2
      go_ret
      exact ⟨HR.out, rfl⟩
set_option maxHeartbeats 1000000 in
theorem conWait (a : Option Addr) (n c p : Nat) (f : Nat → Int) (w : World) (hn : n ≤ 1048576) (hf : IL w a n f) (hp : w.cell? ⟨p, 0, none⟩ = some (.slice a n c)) :
    Calls Try.prog 13 #[.slice a n c, .func (.func 12) #[] #[.pointer (some ⟨p, 0, none⟩)]] w fun e w' => e = .returned (.bool (!(wkB n f n))) ∧ w' = w := by
  have hI := idxWait a n c p f w hn hf hp
  go_enter Try.func13, Try.ntmps13
  go_wp2_with fail
  refine hI.mono ?_
  rintro e w1 ⟨⟨d, rfl, hd⟩, hw1⟩
  have hs' := hw1.symm
  clear hw1 hI
  subst hs'
  have HD : Hid (decide (0 ≤ d) = !(wkB n f n)) := hd
  clear hd
  go_wp2
  go_ret
  exact ⟨ret_bool HD.out, rfl⟩
set_option maxHeartbeats 1000000 in
theorem goodWaits_any (a : Option Addr) (n c : Nat) (f : Nat → Int) (w : World) (hn : n ≤ 1048576) (hf : IL w a n f) :
    Calls Try.prog 10 #[.slice a n c] w fun e w' => e = .returned (.bool (decide (n ≤ 5) && wkB n f n)) ∧ Below w.heap.size w w' := by
  have hB : Below w.heap.size w (w.alloc (.cells #[.slice a n c] 22)) := (Below.refl _ _).alloc (Nat.le_refl _) _
  have kC := conWait a n c w.heap.size f (w.alloc (.cells #[.slice a n c] 22)) hn (hf.below hB) (bx_new (w := w) [.slice a n c] 22 rfl).c0
  by_cases h5 : n ≤ 5
  · have h5' : (n : Int) ≤ 5 := by omega
    rw [decide_eq_true h5, Bool.true_and]
    generalize wkB n f n = R at kC ⊢
    go_enter Try.func10, Try.ntmps10
    go_wp2_with fail
    refine kC.mono ?_
    rintro e w1 ⟨rfl, hw1⟩
    have hs' := hw1.symm
    clear hw1 kC
    subst hs'
    go_wp2
    go_ret
    exact ⟨by simp, hB⟩
  · have h5' : ¬ (n : Int) ≤ 5 := by omega
    rw [decide_eq_false h5, Bool.false_and]
    clear kC
    go_enter Try.func10, Try.ntmps10
    go_wp2
    go_ret
    exact ⟨rfl, hB⟩
set_option maxHeartbeats 1000000 in
theorem inRing_any (a : Option Addr) (n c : Nat) (f : Nat → Int) (i : Nat) (w : World) (hn : n ≤ 5) (hi : i < n) (hb : ∀ k, k < n → -1 ≤ f k ∧ f k < (n : Int)) (hf : IL w a n f) :
    Calls Try.prog 11 #[.slice a n c, .int .i64 (i : Int)] w fun e w' => e = .returned (.bool (rgB n f i)) ∧ w' = w := by
  rw [rgB_less hb hi]
  obtain ⟨q, off, rfl, hq, hc⟩ := hf (by omega)
  have HC : Hid (∀ k, k < n → w.cell? ⟨q, off + k, none⟩ = some (.int .i64 (f k))) := hc
  have HB : Hid (∀ k, k < n → -1 ≤ f k ∧ f k < (n : Int)) := hb
  clear hc hb hf
  obtain ⟨Z, hZ⟩ : ∃ Z, decide (wgo f (i : Int) (n - 1) (f i) = (i : Int)) = Z := ⟨_, rfl⟩
  rw [hZ]
  have HZ : Hid (decide (wgo f (i : Int) (n - 1) (f i) = (i : Int)) = Z) := hZ
  clear hZ
  go_enter Try.func11, Try.ntmps11
  go_wp2
  go_loopw [5, 9] (fun x r wr => ∃ k p : Nat, k ≤ n ∧ r = .int .i64 k ∧ x = .int .i64 (p : Int) ∧ p < n ∧ (k < n → decide (wgo f (i : Int) (n - 1 - k) (f p) = (i : Int)) = Z) ∧ (k = n → Z = false) ∧ wr = w) (fun _ r _ => n - (intOf r).toNat)
  case atStart => exact ⟨0, i, Nat.zero_le _, rfl, rfl, hi, fun _ => HZ.out, fun h => by omega, rfl⟩
  case round =>
    obtain ⟨k, p, hk, rfl, rfl, hp, hT, hE, hw⟩ := hrel
    have HT : Hid (k < n → decide (wgo f (i : Int) (n - 1 - k) (f p) = (i : Int)) = Z) := hT
    have HE : Hid (k = n → Z = false) := hE
    have hw' := hw.symm
    clear hw hT hE
    subst hw'
    by_cases hlt : k < n
    · have x0 := HC.out p hp
      have j0 : (0 : Int) ≤ (p : Int) := by omega
      have j1 : (p : Int) < (n : Int) := by omega
      have j2 : (k : Int) < (n : Int) := by omega
      obtain ⟨b1, b2⟩ := HB.out p hp
      have HG := HT.out hlt
      generalize f p = X at x0 b1 b2 HG
      cases r : (X == (i : Int)) with
      | true =>
        have hX : X = (i : Int) := by simpa using r
        have HR : Hid (Z = true) := by
          show Z = true
          rw [← HG, hX]
          refine decide_eq_true ?_
          cases n - 1 - k with
          | zero => rfl
          | succ t => exact wgo_stop (fun h => h.2 rfl)
        clear HG HT HE hX
        go_wp2
        go_ret
        exact ⟨ret_bool HR.out.symm, by first | trivial | rfl⟩
      | false =>
        have hX : X ≠ (i : Int) := by simpa using r
        cases r2 : (X == (-1 : Int)) with
        | true =>
          have hX2 : X = -1 := by simpa using r2
          have HR : Hid (Z = false) := by
            show Z = false
            rw [← HG, hX2]
            refine decide_eq_false ?_
            cases n - 1 - k with
            | zero => show ¬ (-1 : Int) = (i : Int); omega
            | succ t => rw [wgo_stop (fun h => by omega)]; omega
          clear HG HT HE hX hX2
          go_wp2
          go_ret
          exact ⟨ret_bool HR.out.symm, by first | trivial | rfl⟩
        | false =>
          have hX2 : X ≠ -1 := by simpa using r2
          obtain ⟨p2, hp2⟩ := Int.eq_ofNat_of_zero_le (show 0 ≤ X by omega)
          have HR1 : Hid (k + 1 < n → decide (wgo f (i : Int) (n - 1 - (k + 1)) (f p2) = (i : Int)) = Z) := fun h => by
            rw [← HG, show n - 1 - k = (n - 1 - (k + 1)) + 1 by omega, wgo_step (show 0 ≤ X ∧ X ≠ (i : Int) from ⟨by omega, hX⟩), hp2, Int.toNat_natCast]
          have HR2 : Hid (k + 1 = n → Z = false) := fun h => by
            rw [← HG, show n - 1 - k = 0 by omega]
            exact decide_eq_false hX
          have hl : p2 < n := by omega
          subst hp2
          clear HG HT HE hX hX2
          go_wp2
          exact ⟨⟨k + 1, p2, by omega, by go_num, rfl, hl, HR1.out, HR2.out, by first | trivial | rfl⟩, by simp [intOf]; omega⟩
    · have hke : k = n := by omega
      have HR : Hid (Z = false) := HE.out hke
      subst hke
      clear HT HE
      go_wp2
      go_ret
      exact ⟨ret_bool HR.out.symm, rfl⟩
set_option maxRecDepth 20000 in
set_option maxHeartbeats 4000000 in
theorem iRing (a : Option Addr) (n c : Nat) (f : Nat → Int) (w : World) (hn : n ≤ 1048576) (hf : IL w a n f) :
    Calls Try.prog 6 #[.slice a n c] w fun e w' => AnsL w w' e (wrL n f) ∧ Below w.heap.size w w' := by
  obtain ⟨i0', hi, hzz⟩ := Option.map_eq_some_iff.1 infoI
  simp only [Prod.mk.injEq] at hzz
  obtain ⟨hz0, hz1, hz2⟩ := hzz
  have kG := goodWaits_any a n c f w hn hf
  by_cases hq : n ≤ 5 ∧ wkB n f n = true
  case neg =>
    have e : (decide (n ≤ 5) && wkB n f n) = false := by
      cases h : (decide (n ≤ 5) && wkB n f n) with
      | false => rfl
      | true => exact absurd (by simpa using h) hq
    rw [e] at kG
    have HR : Hid (wrL n f = []) := by show wrL n f = []; unfold wrL; rw [if_neg hq]
    clear e hq
    go_enter Try.func6, Try.ntmps6
    go_wp2_with fail
    refine kG.mono ?_
    rintro e w1 ⟨rfl, hb1⟩
    clear kG
    go_wp2
    go_ret
    exact ⟨by rw [HR.out]; exact ansL_nil _ _, hb1⟩
  case pos =>
    obtain ⟨h5, hk5⟩ := hq
    rw [decide_eq_true h5, hk5] at kG
    have HL : Hid (wrL n f = wrK n f n) := by show wrL n f = wrK n f n; unfold wrL; rw [if_pos ⟨h5, hk5⟩]
    have HB : Hid (∀ i, i < n → -1 ≤ f i ∧ f i < (n : Int)) := wkB_at hk5
    clear hk5
    go_enter Try.func6, Try.ntmps6
    go_wp2_with fail
    refine kG.mono ?_
    rintro e w1 ⟨rfl, hb1⟩
    clear kG
    have hf1 := hf.below hb1
    have HO0 : Hid (Own (w1.alloc (.cells #[] 3)) w1.heap.size (.slice (some ⟨w1.heap.size, 0, none⟩) 0 0) 0 (gl [])) := own_lit0 w1 w1.heap.size (gl []) (Nat.le_refl _)
    have hBa : Below w1.heap.size w1 (w1.alloc (.cells #[] 3)) := (Below.refl _ _).alloc (Nat.le_refl _) _
    have hs1 := hb1.size
    go_wp2
    go_loopw [3, 11] (fun v i wr => ∃ k : Nat, k ≤ n ∧ i = .int .i64 k ∧ Own wr w1.heap.size v (wrK n f k).length (gl (wrK n f k)) ∧ Below w1.heap.size w1 wr) (fun _ i _ => n - (intOf i).toNat)
    case atStart => exact ⟨0, Nat.zero_le _, rfl, HO0.out, hBa⟩
    case round =>
      obtain ⟨k, hk, rfl, hown, hB⟩ := hrel
      clear HO0 hBa
      have hlen := wrK_len n f k
      have hsz := hB.size
      by_cases hlt : k < n
      · have kR := inRing_any a n c f k wr h5 hlt HB.out (hf1.below hB)
        have HK : Hid (wrK n f (k + 1) = if rgB n f k then wrK n f k ++ [(k : Int)] else wrK n f k) := rfl
        have j2 : (k : Int) < (n : Int) := by omega
        generalize rgB n f k = R at kR HK
        generalize wrK n f k = l at *
        obtain ⟨sa, sc, rfl⟩ := hown.shape
        cases R with
        | true =>
          have HS : Hid (wrK n f (k + 1) = l ++ [(k : Int)]) := HK.out
          clear HK
          go_wp2_with (first | (go_at_call 11; refine kR.mono ?_; rintro e w9 ⟨rfl, hw9⟩; have hs' := hw9.symm; clear hw9 kR; subst hs') | (at_builtin; refine wpList_append_own _ rfl _ _ 22 rfl w1.heap.size 3 i0' (.int .i64 0) 1 8 Try.underlying22 hi hz0 hz1 hz2 rfl (by decide) _ _ _ rfl (World.ownsRow.alloc hown _) ⟨wr.heap.size, 0, none⟩ 1 1 [.int .i64 (k : Int)] rfl rfl (cell_one_new _ _ _) (fun x hx => by simp at hx; subst hx; rfl) (by unfold maxLen; omega) (by omega) (by simp; omega) ?_; intro v' w3 hown' hgrow3 _))
          have hB3 := (hB.alloc hsz (.cells #[.int .i64 (k : Int)] 3)).grown hgrow3 (by simp; omega) (fun q hq => (World.ownsRow.lt hown q hq).1)
          exact ⟨⟨k + 1, by omega, by go_num, by rw [HS.out]; exact own_snoc hown', hB3⟩, by simp [intOf]; omega⟩
        | false =>
          have HS : Hid (wrK n f (k + 1) = l) := HK.out
          clear HK
          go_wp2_with (first | (go_at_call 11; refine kR.mono ?_; rintro e w9 ⟨rfl, hw9⟩; have hs' := hw9.symm; clear hw9 kR; subst hs') | fail)
          exact ⟨⟨k + 1, by omega, by go_num, by rw [HS.out]; exact hown, hB⟩, by simp [intOf]; omega⟩
      · have hke : k = n := by omega
        subst hke
        have HL2 := HL.out
        rw [← HL2] at hown
        have HOW : Hid (Own wr w1.heap.size _ (wrL k f).length (gl (wrL k f))) := hown
        obtain ⟨sa, sc, rfl⟩ := hown.shape
        clear hown hlen HL HL2
        go_wp2
        go_ret
        exact ⟨ansL_own HOW.out hs1, hb1.trans (hB.mono hs1)⟩
end Go.Proofs.Ytbndhhjgjalecab
