/- Ids and their bits: what the program asks of them. -/
import Derived.Test.YtldagjgpapnfpaaQArM
import Derived.Test.YtldagjgpapnfpaaQFrGood
import Derived.Laws.BitsLemmas
namespace Go.Proofs.Ytldagjgpapnfpaa
open Go.RowKit
theorem and_one_i64 (y : Int) (h0 : 0 ≤ y) (h1 : y ≤ 2047) : bits .and .i64 y 1 = y % 2 := by
  have h := bits_mask .i64 62 (by decide) (fun n h0 h1 => by rw [IntKind.wrap_i64]; omega) 1 (by decide) y (by omega) (by omega)
  have e : ((2 : Int) ^ 1 - 1) = 1 := by decide
  have e2 : ((2 : Int) ^ 1) = 2 := by decide
  rw [e, e2] at h
  exact h
theorem ib_and (x : Int) (b : Nat) (h0 : 0 ≤ x) (h1 : x ≤ 2047) : bits .and .i64 (x / 2 ^ (10 - b)) 1 = ib x b := by
  have a0 : 0 ≤ x / 2 ^ (10 - b) := Int.ediv_nonneg h0 (Int.pow_nonneg (by omega))
  have a1 : x / 2 ^ (10 - b) ≤ x := Int.ediv_le_self _ h0
  rw [and_one_i64 _ a0 (by omega)]
  rfl

set_option maxHeartbeats 1000000 in
theorem idBit_any (x : Int) (b : Nat) (w : World) (hb : b ≤ 10) (h0 : 0 ≤ x) (h1 : x ≤ 2047) : Calls Try.prog 63 #[.int .i64 x, .int .i64 (b : Int)] w fun e w' => e = .returned (.int .i64 (ib x b)) ∧ w' = w := by
  have ha := ib_and x b h0 h1
  go_enter Try.func63, Try.ntmps63
  go_wp2
  go_ret
  exact ⟨rfl, rfl⟩
/-- the first k ids are good -/
def idsB (f : Nat → Int) : Nat → Bool
  | 0 => true
  | k + 1 => idsB f k && idB (f k)
theorem idsB_iff (f : Nat → Int) (k : Nat) : idsB f k = true ↔ ∀ i, i < k → 0 ≤ f i ∧ f i ≤ 2047 := by
  induction k with
  | zero => simp [idsB]
  | succ k ih =>
    unfold idsB
    rw [Bool.and_eq_true, ih]
    constructor
    · rintro ⟨h1, h2⟩ i hi
      rcases Nat.lt_or_eq_of_le (Nat.le_of_lt_succ hi) with h | rfl
      · exact h1 i h
      · exact idB_of h2
    · intro h
      refine ⟨fun i hi => h i (by omega), ?_⟩
      have := h k (by omega)
      unfold idB
      rw [decide_eq_true this.1, decide_eq_true this.2]; rfl
theorem idsB_false {f : Nat → Int} {n k : Nat} (hk : k < n) (h : idB (f k) = false) : idsB f n = false := by
  cases e : idsB f n with
  | false => rfl
  | true =>
    have := (idsB_iff f n).1 e k hk
    unfold idB at h
    rw [decide_eq_true this.1, decide_eq_true this.2] at h
    cases h
set_option maxHeartbeats 2000000 in
theorem goodIds_any (a : Option Addr) (n c : Nat) (f : Nat → Int) (w : World) (hn : n ≤ 1048576) (hf : IL w a n f) :
    Calls Try.prog 60 #[.slice a n c] w fun e w' => e = .returned (.bool (idsB f n)) ∧ w' = w := by
  have HT : Hid (∀ k, idsB f k = true → idB (f k) = true → idsB f (k + 1) = true) := fun k h1 h2 => by unfold idsB; rw [h1, h2]; rfl
  have HF : Hid (∀ k, k < n → idB (f k) = false → idsB f n = false) := fun k hk h => idsB_false hk h
  go_enter Try.func60, Try.ntmps60
  go_wp2
  go_loopw [7] (fun i wr => ∃ k : Nat, k ≤ n ∧ i = .int .i64 (k : Int) ∧ Hid (idsB f k = true) ∧ wr = w) (fun i _ => n - (intOf i).toNat)
  case atStart => exact ⟨0, Nat.zero_le _, rfl, (rfl : idsB f 0 = true), rfl⟩
  case round =>
    obtain ⟨k, hk, rfl, HE, hw⟩ := hrel
    have hw' := hw.symm
    clear hw
    subst hw'
    by_cases hlt : k < n
    · obtain ⟨b1, o1, rfl, l1, hc1⟩ := hf (by omega)
      have y1 := hc1 k hlt
      have j0 : (0 : Int) ≤ (k : Int) := by omega
      have j1 : (k : Int) < (n : Int) := by omega
      have HT2 : Hid (idB (f k) = true → idsB f (k + 1) = true) := HT.out k HE.out
      have HF2 : Hid (idB (f k) = false → idsB f n = false) := HF.out k hlt
      have kG := fun w2 => goodId_any (f k) w2
      clear hc1 hf HT HF HE
      generalize f k = X at *
      cases hx : idB X with
      | false =>
        rw [hx] at kG
        have HR : Hid (idsB f n = false) := HF2.out hx
        clear HT2 HF2
        go_wp2_with fail
        refine (kG _).mono ?_
        rintro e w2 ⟨rfl, hw2⟩
        have hs2 := hw2.symm
        clear hw2 kG
        subst hs2
        go_wp2
        go_ret
        exact ⟨ret_bool HR.out.symm, rfl⟩
      | true =>
        rw [hx] at kG
        have HR : Hid (idsB f (k + 1) = true) := HT2.out hx
        clear HT2 HF2
        go_wp2_with fail
        refine (kG _).mono ?_
        rintro e w2 ⟨rfl, hw2⟩
        have hs2 := hw2.symm
        clear hw2 kG
        subst hs2
        go_wp2
        exact ⟨⟨k + 1, by omega, by go_num, HR, trivial⟩, by simp [intOf]; omega⟩
    · have : k = n := by omega
      subst this
      go_wp2
      go_ret
      exact ⟨ret_bool HE.out.symm, rfl⟩
/-- what is on the wire -/
def wrV (f L : Nat → Int) (b k : Nat) : Int := if lowB f L b k = true then 0 else 1
theorem wrV_bd (f L : Nat → Int) (b k : Nat) : wrV f L b k = 0 ∨ wrV f L b k = 1 := by unfold wrV; split <;> simp
theorem wrV_out (f L : Nat → Int) (b k : Nat) (h : (L k == -1) = false) : wrV f L b (k + 1) = wrV f L b k := by
  unfold wrV
  rw [lowB, decide_eq_false (ne_of_beq_false h), Bool.false_and, Bool.or_false]
theorem wrV_in (f L : Nat → Int) (b k : Nat) (h : (L k == -1) = true) : bits .and .i64 (wrV f L b k) (ib (f k) b) = wrV f L b (k + 1) := by
  have e : L k = -1 := eq_of_beq h
  have hs : wrV f L b (k + 1) = if lowB f L b k = true ∨ ib (f k) b = 0 then 0 else 1 := by
    unfold wrV
    rw [lowB]
    simp [e]
  rw [hs]
  rcases ib_bd (f k) b with h1 | h1 <;> rw [h1] <;> unfold wrV <;> cases lowB f L b k <;> decide
set_option maxHeartbeats 2000000 in
theorem wireBit_any (a : Option Addr) (n c : Nat) (f : Nat → Int) (g cg b : Nat) (L : Nat → Int) (w : World) (hn : n ≤ 6) (hb : b ≤ 10) (hid : ∀ i, i < n → 0 ≤ f i ∧ f i ≤ 2047) (hf : IL w a n f) (hL : IP w g n L) :
    Calls Try.prog 62 #[.slice a n c, .slice (some ⟨g, 0, none⟩) n cg, .int .i64 (b : Int)] w fun e w' => e = .returned (.int .i64 (wrV f L b n)) ∧ w' = w := by
  have HO : Hid (∀ k, (L k == -1) = false → wrV f L b (k + 1) = wrV f L b k) := fun k h => wrV_out f L b k h
  have HI : Hid (∀ k, (L k == -1) = true → bits .and .i64 (wrV f L b k) (ib (f k) b) = wrV f L b (k + 1)) := fun k h => wrV_in f L b k h
  have HD : Hid (∀ i, i < n → 0 ≤ f i ∧ f i ≤ 2047) := hid
  clear hid
  go_enter Try.func62, Try.ntmps62
  go_wp2
  go_loopw [7, 12] (fun v i wr => ∃ k : Nat, k ≤ n ∧ i = .int .i64 (k : Int) ∧ v = .int .i64 (wrV f L b k) ∧ wr = w) (fun _ i _ => n - (intOf i).toNat)
  case atStart => exact ⟨0, Nat.zero_le _, rfl, rfl, rfl⟩
  case round =>
    obtain ⟨k, hk, rfl, rfl, hw⟩ := hrel
    have hw' := hw.symm
    clear hw
    subst hw'
    by_cases hlt : k < n
    · obtain ⟨b1, o1, rfl, l1, hc1⟩ := hf (by omega)
      have y1 := hc1 k hlt
      have y2 := hL.c k hlt
      have l2 := hL.lt
      have j0 : (0 : Int) ≤ (k : Int) := by omega
      have j1 : (k : Int) < (n : Int) := by omega
      have HO2 : Hid ((L k == -1) = false → wrV f L b (k + 1) = wrV f L b k) := HO.out k
      have HI2 : Hid ((L k == -1) = true → bits .and .i64 (wrV f L b k) (ib (f k) b) = wrV f L b (k + 1)) := HI.out k
      have kG := fun w2 => idBit_any (f k) b w2 hb (HD.out k hlt).1 (HD.out k hlt).2
      clear hc1 hf HO HI HD hL
      generalize f k = X at *
      generalize L k = Y at *
      generalize ib X b = Z at *
      generalize hV : wrV f L b k = V at *
      cases hx : (Y == -1) with
      | false =>
        have HR : Hid (wrV f L b (k + 1) = V) := HO2.out hx
        clear HO2 HI2 kG
        go_wp2
        exact ⟨⟨k + 1, by omega, by go_num, by rw [HR.out], trivial⟩, by simp [intOf]; omega⟩
      | true =>
        have HR : Hid (bits .and .i64 V Z = wrV f L b (k + 1)) := HI2.out hx
        clear HO2 HI2
        go_wp2_with fail
        refine (kG _).mono ?_
        rintro e w2 ⟨rfl, hw2⟩
        have hs2 := hw2.symm
        clear hw2 kG
        subst hs2
        go_wp2
        exact ⟨⟨k + 1, by omega, by go_num, by rw [HR.out], trivial⟩, by simp [intOf]; omega⟩
    · have : k = n := by omega
      subst this
      go_wp2
      go_ret
      exact ⟨rfl, rfl⟩
set_option maxHeartbeats 2000000 in
theorem idxFst (g n c : Nat) (L : Nat → Int) (w : World) (hn : n ≤ 6) (hL : IP w g n L) (hal : ∃ i, i < n ∧ L i = -1) :
    Calls Try.prog 48 #[.slice (some ⟨g, 0, none⟩) n c, .int .i64 (-1)] w fun e w' => (∃ z : Nat, e = .returned (.int .i64 (z : Int)) ∧ Fst L n z) ∧ w' = w := by
  have HA : Hid (∃ i, i < n ∧ L i = -1) := hal
  clear hal
  go_enter Try.func48, Try.ntmps48
  go_wp2
  go_loopw [8] (fun i wr => ∃ k : Nat, k ≤ n ∧ i = .int .i64 (k : Int) ∧ Hid (∀ j, j < k → L j ≠ -1) ∧ wr = w) (fun i _ => n - (intOf i).toNat)
  case atStart => exact ⟨0, Nat.zero_le _, rfl, (fun j h => absurd h (Nat.not_lt_zero _) : ∀ j, j < 0 → L j ≠ -1), rfl⟩
  case round =>
    obtain ⟨k, hk, rfl, HE, hw⟩ := hrel
    have hw' := hw.symm
    clear hw
    subst hw'
    by_cases hlt : k < n
    · have y2 := hL.c k hlt
      have l2 := hL.lt
      have j0 : (0 : Int) ≤ (k : Int) := by omega
      have j1 : (k : Int) < (n : Int) := by omega
      have HR : Hid (((-1 : Int) == L k) = true → Fst L n k) := fun h => ⟨hlt, (eq_of_beq h).symm, HE.out⟩
      have HQ : Hid (((-1 : Int) == L k) = false → ∀ j, j < k + 1 → L j ≠ -1) := fun h j hj => by
        rcases Nat.lt_or_eq_of_le (Nat.le_of_lt_succ hj) with h2 | rfl
        · exact HE.out j h2
        · exact fun e => ne_of_beq_false h e.symm
      clear HE HA hL
      generalize hY : L k = Y at *
      cases hx : ((-1 : Int) == Y) with
      | true =>
        have HS : Hid (Fst L n k) := HR.out hx
        clear HR HQ hY
        go_wp2
        go_ret
        exact ⟨⟨k, rfl, HS.out⟩, rfl⟩
      | false =>
        have HS : Hid (∀ j, j < k + 1 → L j ≠ -1) := HQ.out hx
        clear HR HQ hY
        go_wp2
        exact ⟨⟨k + 1, by omega, by go_num, HS, trivial⟩, by simp [intOf]; omega⟩
    · exfalso
      have : k = n := by omega
      subst this
      obtain ⟨i, hi, e⟩ := HA.out
      exact HE.out i hi e
end Go.Proofs.Ytldagjgpapnfpaa
