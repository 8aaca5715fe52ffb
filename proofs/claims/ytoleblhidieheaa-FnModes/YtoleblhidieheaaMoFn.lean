/- The law on modes, its draws a premise. -/
import Derived.Test.YtoleblhidieheaaMoP
namespace Go.Proofs.Ytoleblhidieheaa
open Go.RowKit
/-- events and needed parts that were drawn -/
def AnsDm (w w' : World) (e : Ending) : Prop := ∃ (a b : Option Addr) (n c nn d : Nat) (E N : Nat → ByteArray), e = .returned (.tuple #[.slice a n c, .slice b nn d]) ∧ n ≤ 1000 ∧ nn ≤ 1000 ∧ (∀ i, i < n * 2 → (E i).size ≤ 1000) ∧ SL w' a (n * 2) E ∧ SL w' b nn N ∧ Below w.heap.size w w'
set_option maxRecDepth 20000 in
set_option maxHeartbeats 8000000 in
theorem modesFn (A : Option Addr) (len cap : Nat) (w : World) (hl : len ≤ 1048576) (hD : Calls Try.prog 5 #[.slice A len cap] w fun e w' => AnsDm w w' e) :
    Calls Try.prog 3 #[.slice A len cap] w fun e w' => e = .returned (.bool true) ∧ Below w.heap.size w w' := by
  go_enter Try.func3, Try.ntmps3
  go_wp2_with fail
  refine hD.mono ?_
  rintro e w1 ⟨a, b, n, c, nn, d, E, N, rfl, hn, hnn, hsz, hE, hN, hB1⟩
  clear hD
  have hsz2 : ∀ i, i < n * 2 → (E i).size ≤ 1048576 := fun i hi => by have := hsz i hi; omega
  have kI := iModes a b n c nn d E N w1 (by omega) (by omega) hsz2 hE hN
  have HSz : Hid (∀ i, i < n * 2 → (E i).size ≤ 1000) := hsz
  clear hsz hsz2
  go_wp2_with fail
  refine kI.mono ?_
  rintro e w2 ⟨⟨a2, c2, rfl, ho2⟩, hb2⟩
  have hE2 := hE.below hb2
  have hN2 := hN.below hb2
  have hB2 := stepA hB1 hb2
  have kS := sModes a b n c nn d E N w2 (by omega) (by omega) hE2 hN2
  clear kI hE hN hB1 hb2
  obtain ⟨M, hM⟩ : ∃ M, (if moOk n nn = true then runM N nn E n else 0) = M := ⟨_, rfl⟩
  obtain ⟨L, hL⟩ : ∃ L, (if moOk n nn = true then (runF E n).length else 0) = L := ⟨_, rfl⟩
  obtain ⟨Q, hQ⟩ : ∃ Q, moOk n nn = Q := ⟨_, rfl⟩
  have hs2 : SL w2 a2 L (lg (runF E n)) := by
    rw [← hL]
    by_cases q : moOk n nn = true
    · rw [if_pos q]; exact ows_sl (ho2 q)
    · rw [if_neg q]; exact fun h => absurd h (Nat.lt_irrefl _)
  have hLb : L ≤ 1048576 := by
    have := runF_len E n
    rw [← hL]; split <;> omega
  have kS' : Calls Try.prog 7 #[.slice a n c, .slice b nn d] w2 fun e w' => (∃ a3 c3, e = .returned (.tuple #[.int .i64 M, .slice a3 L c3, .bool Q]) ∧ SL w' a3 L (lg (runF E n))) ∧ Below w2.heap.size w2 w' := by
    refine kS.mono ?_
    rintro e w3 ⟨⟨a3, c3, rfl, ho3⟩, hb3⟩
    refine ⟨⟨a3, c3, by rw [hM, hL, hQ], ?_⟩, hb3⟩
    rw [← hL]
    by_cases q : moOk n nn = true
    · rw [if_pos q]; exact ows_sl (ho3 q)
    · rw [if_neg q]; exact fun h => absurd h (Nat.lt_irrefl _)
  have HQ : Hid (moOk n nn = Q) := hQ
  rw [hM, hL, hQ]
  clear kS ho2 hM hL hQ
  generalize lg (runF E n) = R at *
  go_wp2_with fail
  refine kS'.mono ?_
  rintro e w3 ⟨⟨a3, c3, rfl, hs3⟩, hb3⟩
  have kT := sTexts a2 a3 L c2 c3 R w3 hLb (hs2.below hb3) hs3
  have hE3 := hE2.below hb3
  have hN3 := hN2.below hb3
  have hB3 := stepA hB2 hb3
  clear kS' hE2 hN2 hB2 hb3 hs2 hs3
  go_wp2_with fail
  refine kT.mono ?_
  rintro e w4 ⟨rfl, hb4⟩
  have hE4 := hE3.below hb4
  have hN4 := hN3.below hb4
  have hB4 := stepA hB3 hb4
  have kP := sPlain a n c E w4 hn hE4
  clear kT hE3 hN3 hB3 hb4
  go_wp2_with fail
  refine kP.mono ?_
  rintro e w5 ⟨⟨a5, c5, rfl, hO5⟩, hb5⟩
  have hN5 := hN4.below hb5
  have hB5 := stepA hB4 hb5
  have hE5 := hO5.sl
  have hpl := plN_le E n
  have hln := plK_len E n
  have hsp := plK_sz (E := E) (m := 1000) HSz.out
  have HKd : Hid (∀ j, j < plN E n → fmB (lg (plK E n) (j * 2)) = false) := fun j hj => plK_kind E n j hj
  have hsz5 : ∀ i, i < plN E n * 2 → (lg (plK E n) i).size ≤ 1048576 := fun i hi => by
    have := hsp (lg (plK E n) i) (by simp [lg, show i < (plK E n).length by omega])
    omega
  have hHQ := HQ.out
  clear kP hN4 hB4 hb5 hE4 hO5 hsp hln HSz HQ
  generalize plN E n = m at *
  generalize lg (plK E n) = G at *
  have kI := iModes a5 b m c5 nn d G N w5 (by omega) (by omega) hsz5 hE5 hN5
  have HQ2 : Hid (Q = true → moOk m nn = true) := fun q => by
    rw [q] at hHQ
    have := of_decide_eq_true hHQ
    exact decide_eq_true ⟨by omega, this.2⟩
  have HM2 : Hid (moOk m nn = true → (if moOk m nn = true then runM N nn G m else 0) = stM G m) := fun q => by rw [if_pos q]; exact plain_M HKd.out m (Nat.le_refl _)
  clear hHQ hsz5 HKd
  go_wp2_with fail
  refine kI.mono ?_
  rintro e w6 ⟨⟨a6, c6, rfl, -⟩, hb6⟩
  have hE6 := hE5.below hb6
  have hB6 := stepA hB5 hb6
  clear kI hE5 hN5 hB5 hb6
  generalize (if moOk m nn = true then (runF G m).length else 0) = L6
  generalize (if moOk m nn = true then runM N nn G m else 0) = M6 at *
  generalize moOk m nn = Q6 at *
  go_wp2
  go_loopw [15, 65] (fun s i wr => ∃ (k : Nat) (T : Int), k ≤ m ∧ s = .int .i64 T ∧ i = .int .i64 (k : Int) ∧ Hid (T = stM G k) ∧ Below w.heap.size w wr ∧ Hid (Below w6.heap.size w6 wr)) (fun _ i _ => m - (intOf i).toNat)
  case atStart => exact ⟨0, 0, Nat.zero_le _, rfl, rfl, (rfl : (0 : Int) = stM G 0), hB6, Below.refl _ _⟩
  case round =>
    obtain ⟨k, T, hk, rfl, rfl, HT, hB, HB6⟩ := hrel
    by_cases hlt : k < m
    · obtain ⟨b1, o1, rfl, l1, y0, y1⟩ := sl_two (hE6.below HB6.out) hlt
      have j3 : (0 : Int) ≤ (k : Int) := by omega
      have j4 : (k : Int) < (m : Int) := by omega
      have HT2 : Hid (msV T (G (k * 2)) = stM G (k + 1)) := by show _ = _; rw [HT.out]; rfl
      clear HT HM2 HQ2
      generalize G (k * 2) = kd at *
      generalize G (k * 2 + 1) = pt at *
      have hbt : Below wr.heap.size wr (wr.alloc (.cells #[.string kd, .string pt] 32)) := (Below.refl _ _).alloc (Nat.le_refl _) _
      have b3 := evb (w := wr) kd pt
      have z0 := b3.c0
      have z1 := b3.c1
      have hl3 := b3.lt
      have hB7 := stepA hB hbt
      have HB7 : Hid (Below w6.heap.size w6 (wr.alloc (.cells #[.string kd, .string pt] 32))) := stepA HB6.out hbt
      clear hbt b3 hB HB6
      generalize hw3 : wr.alloc (.cells #[.string kd, .string pt] 32) = w7 at *
      have kM := iStep T kd w7
      obtain ⟨Z, hZ⟩ : ∃ Z, msV T kd = Z := ⟨_, rfl⟩
      rw [hZ] at kM HT2
      clear hZ
      go_wp2_with (first | (go_at_call 10; refine kM.mono ?_; rintro e w9 ⟨rfl, hw9⟩; have hs' := hw9.symm; clear hw9; subst hs') | fail)
      exact ⟨⟨k + 1, Z, by omega, rfl, by go_num, HT2.out.symm ▸ rfl, hB7, HB7⟩, by simp [intOf]; omega⟩
    · have hke : k = m := by omega
      subst hke
      cases Q with
      | false =>
        clear HM2 HQ2 HT
        go_wp2
        go_ret
        exact ⟨rfl, hB⟩
      | true =>
        have e6 := HQ2.out rfl
        subst e6
        have e7 := HM2.out rfl
        have e8 : (M6 == T) = true := by rw [e7, HT.out]; simp
        clear HM2 HQ2 HT e7
        go_wp2
        go_ret
        exact ⟨rfl, hB⟩
end Go.Proofs.Ytoleblhidieheaa
