/- Talkers: their size as the law reckons it. -/
import Derived.Test.YtldagjgpapnfpaaQBuMt
namespace Go.Proofs.Ytldagjgpapnfpaa
open Go.RowKit
/-- what is left behind j frames -/
def szF (N : Nat → Nat) (l : Int) : Nat → Int
  | 0 => l
  | j + 1 => if szF N l j < (N j : Int) then -1 else szF N l j - (N j : Int)
theorem szF_ge (N : Nat → Nat) (l : Int) (hl : -1 ≤ l) (m : Nat) : -1 ≤ szF N l m ∧ szF N l m ≤ l := by
  induction m with
  | zero => exact ⟨hl, Int.le_refl _⟩
  | succ m ih => unfold szF; split <;> omega
theorem szF_neg {N : Nat → Nat} {l : Int} {j : Nat} (h : szF N l j < 0) (hl : -1 ≤ l) : ∀ d, szF N l (j + d) = -1
  | 0 => by have := (szF_ge N l hl j).1; show szF N l j = -1; omega
  | d + 1 => by
    have ih := szF_neg h hl d
    show szF N l (j + d + 1) = -1
    rw [szF, ih, if_pos (by omega)]
def szFr (N : Nat → Nat) (m : Nat) (l : Int) : Int := if l < (m : Int) then -1 else szF N (l - m) m
theorem szFr_ge (N : Nat → Nat) (m : Nat) (l : Int) (hl : 0 ≤ l) : -1 ≤ szFr N m l ∧ szFr N m l ≤ l := by
  unfold szFr
  split
  · omega
  · have := szF_ge N (l - m) (by omega) m; omega
set_option maxRecDepth 20000 in
set_option maxHeartbeats 4000000 in
theorem szFrameS_any (a : Option Addr) (m c : Nat) (I : Nat → Int) (A : Nat → Option Addr) (N C : Nat → Nat) (l : Int) (w : World) (h0 : 0 ≤ l) (h1 : l ≤ 1048576) (hm : m ≤ 9223372036854775807) (hN : ∀ j, j < m → N j ≤ 9223372036854775807) (hF : FrH w a m I A N C) :
    Calls Try.prog 52 #[.slice a m c, .int .i64 l] w fun e w' => e = .returned (.int .i64 (szFr N m l)) ∧ Below w.heap.size w w' := by
  unfold szFr
  by_cases hh : l < (m : Int)
  · rw [if_pos hh]
    have h2 : l - (m : Int) < 0 := by omega
    clear hN hF
    go_enter Try.func52, Try.ntmps52
    go_wp2
    go_ret
    exact ⟨rfl, Below.refl _ _⟩
  · rw [if_neg hh]
    have h2 : ¬ l - (m : Int) < 0 := by omega
    have HF : Hid (FrH w a m I A N C) := hF
    have HN : Hid (∀ j, j < m → N j ≤ 9223372036854775807) := hN
    obtain ⟨L, hL⟩ : ∃ L, L = l - (m : Int) := ⟨_, rfl⟩
    rw [← hL]
    have HL : Hid (L = l - (m : Int)) := hL
    have hL0 : 0 ≤ L ∧ L ≤ 1048576 := by omega
    have hmm : m ≤ 1048576 := by omega
    have HM : Hid (∀ k, k < m → szF N L (k + 1) < 0 → szF N L m = -1) := fun k hk h => by
      have := szF_neg h (by omega) (m - (k + 1))
      rwa [show k + 1 + (m - (k + 1)) = m by omega] at this
    clear hN hF hL hh
    go_enter Try.func52, Try.ntmps52
    go_wp2
    go_loopw [1, 5] (fun q i wr => ∃ (k : Nat) (V : Int), k ≤ m ∧ i = .int .i64 (k : Int) ∧ q = .int .i64 V ∧ Hid (V = szF N L k) ∧ (0 ≤ V ∧ V ≤ 1048576) ∧ Below w.heap.size w wr) (fun _ i _ => m - (intOf i).toNat)
    case atStart => exact ⟨0, _, Nat.zero_le _, rfl, rfl, by show _ = L; exact HL.out.symm, by have := HL.out; omega, Below.refl _ _⟩
    case round =>
      obtain ⟨k, V, hk, rfl, rfl, HV, hV, hB⟩ := hrel
      by_cases hlt : k < m
      · obtain ⟨b1, o1, rfl, l1, hc1⟩ := (HF.out.below hB) (by omega)
        obtain ⟨y0, y1⟩ := hc1 k hlt
        have kS := szFrame_any (I k) (A k) (N k) (C k) V wr hV.1 hV.2 (HN.out k hlt)
        have i0 : (0 : Int) ≤ (k : Int) := by omega
        have i1 : (k : Int) < (m : Int) := by omega
        have HS : Hid (szF N L (k + 1) = if V < (N k : Int) then -1 else V - (N k : Int)) := by show szF N L (k + 1) = _; rw [szF, ← HV.out]
        clear hc1
        generalize I k = X0 at *
        generalize A k = X1 at *
        generalize N k = X2 at *
        generalize C k = X3 at *
        by_cases hx : V < (X2 : Int)
        · rw [if_pos hx] at kS
          have HR : Hid (szF N L m = -1) := HM.out k hlt (by rw [HS.out, if_pos hx]; omega)
          go_wp2_with fail
          refine kS.mono ?_
          rintro e w5 ⟨rfl, hb5⟩
          have hB5 := stepA hB hb5
          clear kS hb5 hB y0 y1
          go_wp2
          go_ret
          exact ⟨ret_int HR.out.symm, hB5⟩
        · rw [if_neg hx] at kS
          have HR : Hid (V - (X2 : Int) = szF N L (k + 1)) := by show _ = szF N L (k + 1); rw [HS.out, if_neg hx]
          obtain ⟨U, hU⟩ : ∃ U, U = V - (X2 : Int) := ⟨_, rfl⟩
          rw [← hU] at kS HR
          have hU2 : 0 ≤ U ∧ U ≤ 1048576 := by omega
          clear hU HS
          go_wp2_with fail
          refine kS.mono ?_
          rintro e w5 ⟨rfl, hb5⟩
          have hB5 := stepA hB hb5
          clear kS hb5 hB y0 y1 hx
          go_wp2
          exact ⟨⟨k + 1, U, by omega, by go_num, rfl, HR, hU2, hB5⟩, by simp [intOf]; omega⟩
      · have hke : k = m := by omega
        subst hke
        go_wp2
        go_ret
        exact ⟨ret_int HV.out, hB⟩
set_option maxRecDepth 20000 in
set_option maxHeartbeats 1000000 in
theorem szTalker_any (qa : Option Addr) (m qc : Nat) (sh er : Int) (of : Bool) (I : Nat → Int) (A : Nat → Option Addr) (N C : Nat → Nat) (l : Int) (w : World) (h0 : 0 ≤ l) (h1 : l ≤ 1048576) (hm : m ≤ 9223372036854775807) (hN : ∀ j, j < m → N j ≤ 9223372036854775807) (hF : FrH w qa m I A N C) :
    Calls Try.prog 37 #[tkv qa m qc sh er of, .int .i64 l] w fun e w' => e = .returned (.int .i64 (szFr N m l)) ∧ Below w.heap.size w w' := by
  have hb0 : Below w.heap.size w (w.alloc (tkO qa m qc sh er of 76)) := (Below.refl _ _).alloc (Nat.le_refl _) _
  have kS := szFrameS_any qa m qc I A N C l (w.alloc (tkO qa m qc sh er of 76)) h0 h1 hm hN (hF.below hb0)
  have hg := szFr_ge N m l h0
  clear hN hF
  generalize szFr N m l = V at *
  by_cases hv : V < 0
  · obtain rfl : V = -1 := by omega
    go_enter Try.func37, Try.ntmps37
    go_wp2_with fail
    refine kS.mono ?_
    rintro e w5 ⟨rfl, hb5⟩
    have hB5 := stepA hb0 hb5
    clear kS
    go_wp2
    go_ret
    exact ⟨rfl, hB5⟩
  · go_enter Try.func37, Try.ntmps37
    go_wp2_with fail
    refine kS.mono ?_
    rintro e w5 ⟨rfl, hb5⟩
    have hB5 := stepA hb0 hb5
    clear kS
    go_wp2
    go_ret
    exact ⟨rfl, hB5⟩
/-- what is left behind i talkers -/
def szT (t : Tks) (l : Int) : Nat → Int
  | 0 => l
  | i + 1 => if szT t l i < 0 then -1 else szFr (t.N i) (t.qm i) (szT t l i)
theorem szT_ge (t : Tks) (l : Int) (hl : -1 ≤ l) (n : Nat) : -1 ≤ szT t l n ∧ szT t l n ≤ max l (-1) := by
  induction n with
  | zero => exact ⟨hl, Int.le_max_left _ _⟩
  | succ n ih =>
    unfold szT
    split
    · omega
    · have := szFr_ge (t.N n) (t.qm n) (szT t l n) (by omega); omega
theorem szT_neg {t : Tks} {l : Int} {j : Nat} (h : szT t l j < 0) (hl : -1 ≤ l) : ∀ d, szT t l (j + d) = -1
  | 0 => by have := (szT_ge t l hl j).1; show szT t l j = -1; omega
  | d + 1 => by
    have ih := szT_neg h hl d
    show szT t l (j + d + 1) = -1
    rw [szT, ih, if_pos (by omega)]
def szTk (t : Tks) (n : Nat) (l : Int) : Int := if l < (n : Int) then -1 else szT t (l - n) n
set_option maxRecDepth 20000 in
set_option maxHeartbeats 4000000 in
theorem szTalkerS_any (a : Option Addr) (n c : Nat) (t : Tks) (l : Int) (w : World) (h0 : 0 ≤ l) (h1 : l ≤ 1048576) (hn : n ≤ 9223372036854775807) (hq : ∀ i, i < n → t.qm i ≤ 9223372036854775807) (hN : ∀ i, i < n → ∀ j, j < t.qm i → t.N i j ≤ 9223372036854775807) (hT : TkH w a n t) :
    Calls Try.prog 9 #[.slice a n c, .int .i64 l] w fun e w' => e = .returned (.int .i64 (szTk t n l)) ∧ Below w.heap.size w w' := by
  unfold szTk
  by_cases hh : l < (n : Int)
  · rw [if_pos hh]
    have h2 : l - (n : Int) < 0 := by omega
    clear hN hT hq
    go_enter Try.func9, Try.ntmps9
    go_wp2
    go_ret
    exact ⟨rfl, Below.refl _ _⟩
  · rw [if_neg hh]
    have h2 : ¬ l - (n : Int) < 0 := by omega
    have HT : Hid (TkH w a n t) := hT
    have HQ : Hid (∀ i, i < n → t.qm i ≤ 9223372036854775807) := hq
    have HN : Hid (∀ i, i < n → ∀ j, j < t.qm i → t.N i j ≤ 9223372036854775807) := hN
    obtain ⟨L, hL⟩ : ∃ L, L = l - (n : Int) := ⟨_, rfl⟩
    rw [← hL]
    have HL : Hid (L = l - (n : Int)) := hL
    have hL0 : 0 ≤ L ∧ L ≤ 1048576 := by omega
    have hmm : n ≤ 1048576 := by omega
    have HM : Hid (∀ k, k < n → szT t L (k + 1) < 0 → szT t L n = -1) := fun k hk h => by
      have := szT_neg h (by omega) (n - (k + 1))
      rwa [show k + 1 + (n - (k + 1)) = n by omega] at this
    clear hN hT hq hL hh
    go_enter Try.func9, Try.ntmps9
    go_wp2
    go_loopw [1, 5] (fun q i wr => ∃ (k : Nat) (V : Int), k ≤ n ∧ i = .int .i64 (k : Int) ∧ q = .int .i64 V ∧ Hid (V = szT t L k) ∧ (0 ≤ V ∧ V ≤ 1048576) ∧ Below w.heap.size w wr) (fun _ i _ => n - (intOf i).toNat)
    case atStart => exact ⟨0, _, Nat.zero_le _, rfl, rfl, by show _ = L; exact HL.out.symm, by have := HL.out; omega, Below.refl _ _⟩
    case round =>
      obtain ⟨k, V, hk, rfl, rfl, HV, hV, hB⟩ := hrel
      by_cases hlt : k < n
      · have hT2 := HT.out.below hB
        obtain ⟨b1, o1, rfl, l1, hc1⟩ := hT2.out (by omega)
        obtain ⟨y0, y1, y2, y3⟩ := hc1 k hlt
        have kS := szTalker_any (t.qa k) (t.qm k) (t.qc k) (t.sh k) (t.er k) (t.of k) (t.I k) (t.A k) (t.N k) (t.C k) V wr hV.1 hV.2 (HQ.out k hlt) (HN.out k hlt) (hT2.fr k hlt)
        have i0 : (0 : Int) ≤ (k : Int) := by omega
        have i1 : (k : Int) < (n : Int) := by omega
        obtain ⟨U, hU⟩ : ∃ U, U = szFr (t.N k) (t.qm k) V := ⟨_, rfl⟩
        rw [← hU] at kS
        have hg := szFr_ge (t.N k) (t.qm k) V hV.1
        rw [← hU] at hg
        have HS : Hid (szT t L (k + 1) = U) := by show szT t L (k + 1) = _; rw [szT, ← HV.out, if_neg (by omega), hU]
        clear hc1 hT2 hU
        generalize t.qa k = X0 at *
        generalize t.qm k = X1 at *
        generalize t.qc k = X2 at *
        generalize t.sh k = X3 at *
        generalize t.er k = X4 at *
        generalize t.of k = X5 at *
        by_cases hx : U < 0
        · obtain rfl : U = -1 := by omega
          have HR : Hid (szT t L n = -1) := HM.out k hlt (by rw [HS.out]; omega)
          go_wp2_with fail
          refine kS.mono ?_
          rintro e w5 ⟨rfl, hb5⟩
          have hB5 := stepA hB hb5
          clear kS hb5 hB y0 y1 y2 y3
          go_wp2
          go_ret
          exact ⟨ret_int HR.out.symm, hB5⟩
        · go_wp2_with fail
          refine kS.mono ?_
          rintro e w5 ⟨rfl, hb5⟩
          have hB5 := stepA hB hb5
          clear kS hb5 hB y0 y1 y2 y3
          go_wp2
          exact ⟨⟨k + 1, U, by omega, by go_num, rfl, HS.out.symm, by omega, hB5⟩, by simp [intOf]; omega⟩
      · have hke : k = n := by omega
        subst hke
        go_wp2
        go_ret
        exact ⟨ret_int HV.out, hB⟩
/-- a size that is told bounds what there is -/
theorem szF_fr {N : Nat → Nat} {l : Int} {m : Nat} (hl : 0 ≤ l) (h : 0 ≤ szF N l m) (K : Nat) : ∀ j, j ≤ m → ((frK N K j : Nat) : Int) + szF N l j = (K : Int) + l + j ∧ 0 ≤ szF N l j
  | 0, _ => by simp [frK, szF]; exact hl
  | j + 1, hj => by
    obtain ⟨ih, ip⟩ := szF_fr hl h K j (by omega)
    have hs : 0 ≤ szF N l (j + 1) := by
      by_cases c : szF N l (j + 1) < 0
      · have := szF_neg c (by omega) (m - (j + 1))
        rw [show j + 1 + (m - (j + 1)) = m by omega] at this
        omega
      · omega
    refine ⟨?_, hs⟩
    unfold szF at hs ⊢
    split at hs
    · omega
    · rename_i c
      rw [if_neg c, frK]
      push_cast
      omega
end Go.Proofs.Ytldagjgpapnfpaa
