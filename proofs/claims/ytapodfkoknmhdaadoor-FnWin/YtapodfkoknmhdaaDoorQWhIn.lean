/- What may not stand in a token, and names, as the model looks at them. -/
import Derived.Test.YtapodfkoknmhdaaDoorQWhRun
namespace Go.Proofs.YtapodfkoknmhdaaDoor
open Go.RowKit
set_option maxRecDepth 20000 in
set_option maxHeartbeats 4000000 in
theorem sOdd (s : ByteArray) (w : World) (hs : s.size ≤ 1048576) :
    Calls Tryd.prog 65 #[.string s] w fun e w' => e = .returned (.tuple #[.int .i64 (oddU (bt s) s.size 0 0).1, .int .i64 (oddU (bt s) s.size 0 0).2]) ∧ w' = w := by
  have kR := fun i w (hi : i < s.size) => sRune s i w hi hs
  have kL := fun b w h0 h1 => sLetter b w h0 h1
  go_enter Tryd.func65, Tryd.ntmps65
  go_wp2_with fail
  go_loopw [4, 5] (fun v4 v5 wr => ∃ i r : Nat, v5 = .int .i64 (i : Int) ∧ v4 = .int .i64 (r : Int) ∧ i ≤ s.size + 4 ∧ r ≤ i ∧ Hid (oddU (bt s) s.size i r = oddU (bt s) s.size 0 0) ∧ wr = w) (fun _ v _ => s.size + 4 - (intOf v).toNat)
  case atStart => exact ⟨0, 0, rfl, rfl, by omega, by omega, (rfl : oddU (bt s) s.size 0 0 = _), rfl⟩
  case round =>
    obtain ⟨i, r, rfl, rfl, hi, hr, HE, hw⟩ := hrel
    have hw' := hw.symm
    clear hw
    subst hw'
    by_cases hlt : i < s.size
    · have j0 : (0 : Int) ≤ (i : Int) := by omega
      have j1 : (i : Int) < (s.size : Int) := by omega
      have kR2 := kR i w hlt
      have hix := fun w => ix_bt (P := Tryd.prog) Tryd.underlying9 s i hlt w
      have hb := bt_bd s i
      have kL2 := fun w => kL (bt s i) w hb.1 hb.2
      have h4 := rnK_le (bt s) s.size i
      have HO : Hid (odB (bt s) s.size i = true → oddU (bt s) s.size 0 0 = ((i : Int), 0)) := fun h => HE.out.symm.trans (oddU_odd hlt h)
      have HG : Hid (odB (bt s) s.size i = false → oddU (bt s) s.size (i + rnK (bt s) s.size i) (r + 1) = oddU (bt s) s.size 0 0) := fun h => (oddU_go hlt h).symm.trans HE.out
      have HD : Hid (odB (bt s) s.size i = (decide (rnK (bt s) s.size i = 0) || (decide (rnK (bt s) s.size i = 1) && !(letB (bt s i))))) := rfl
      clear kR kL HE hb
      generalize odB (bt s) s.size i = O at *
      generalize rnK (bt s) s.size i = n at *
      by_cases n0 : n = 0
      · subst n0
        have HR : Hid (oddU (bt s) s.size 0 0 = ((i : Int), 0)) := HO.out (by rw [HD.out]; simp)
        clear HO HG HD kL2 hix
        go_wp2_with fail
        refine kR2.mono ?_
        rintro e w2 ⟨rfl, hw2⟩
        have hs2 := hw2.symm
        clear hw2 kR2
        subst hs2
        go_wp2
        go_ret2
        exact ⟨by rw [HR.out]; rfl, rfl⟩
      have n0' : ((n : Int) == 0) = false := by simpa using n0
      by_cases n1 : n = 1
      · subst n1
        generalize letB (bt s i) = B at *
        generalize bt s i = b at *
        cases B with
        | false =>
          have HR : Hid (oddU (bt s) s.size 0 0 = ((i : Int), 0)) := HO.out (by rw [HD.out]; simp)
          clear HO HG HD
          go_wp2_with fail
          refine kR2.mono ?_
          rintro e w2 ⟨rfl, hw2⟩
          have hs2 := hw2.symm
          clear hw2 kR2
          subst hs2
          go_wp2_with fail
          refine (kL2 _).mono ?_
          rintro e w2 ⟨rfl, hw2⟩
          have hs2 := hw2.symm
          clear hw2 kL2
          subst hs2
          go_wp2
          go_ret2
          exact ⟨by rw [HR.out]; rfl, rfl⟩
        | true =>
          have HR : Hid (oddU (bt s) s.size (i + 1) (r + 1) = oddU (bt s) s.size 0 0) := HG.out (by rw [HD.out]; simp)
          clear HO HG HD
          go_wp2_with fail
          refine kR2.mono ?_
          rintro e w2 ⟨rfl, hw2⟩
          have hs2 := hw2.symm
          clear hw2 kR2
          subst hs2
          go_wp2_with fail
          refine (kL2 _).mono ?_
          rintro e w2 ⟨rfl, hw2⟩
          have hs2 := hw2.symm
          clear hw2 kL2
          subst hs2
          go_wp2
          exact ⟨⟨i + 1, r + 1, by go_num, by go_num, by omega, by omega, HR, trivial⟩, by simp [intOf]; omega⟩
      · have n1' : ((n : Int) == 1) = false := by simp; omega
        have HR : Hid (oddU (bt s) s.size (i + n) (r + 1) = oddU (bt s) s.size 0 0) := HG.out (by rw [HD.out]; simp [n0, n1])
        clear HO HG HD kL2 hix
        go_wp2_with fail
        refine kR2.mono ?_
        rintro e w2 ⟨rfl, hw2⟩
        have hs2 := hw2.symm
        clear hw2 kR2
        subst hs2
        go_wp2
        exact ⟨⟨i + n, r + 1, by go_num, by go_num, by omega, by omega, HR, trivial⟩, by simp [intOf]; omega⟩
    · have HR : Hid (oddU (bt s) s.size 0 0 = (-1, (r : Int))) := HE.out.symm.trans (oddU_end hlt)
      have jn : ¬ (i : Int) < (s.size : Int) := by omega
      clear HE kR kL
      go_wp2
      go_ret2
      exact ⟨by rw [HR.out]; rfl, rfl⟩
set_option maxHeartbeats 1000000 in
theorem sName (s : ByteArray) (w : World) (hs : s.size ≤ 1048576) :
    Calls Tryd.prog 73 #[.string s] w fun e w' => e = .returned (.bool (nameB (bt s) s.size)) ∧ w' = w := by
  have kO := fun w => sOdd s w hs
  unfold nameB
  generalize (oddU (bt s) s.size 0 0).1 = A at *
  generalize (oddU (bt s) s.size 0 0).2 = B at *
  by_cases h0 : A < 0
  · by_cases h1 : 1 ≤ B
    · by_cases h2 : B ≤ 12
      · rw [decide_eq_true h0, decide_eq_true h1, decide_eq_true h2]
        go_enter Tryd.func73, Tryd.ntmps73
        go_wp2_with fail
        refine (kO _).mono ?_
        rintro e w2 ⟨rfl, hw2⟩
        have hs2 := hw2.symm
        clear hw2 kO
        subst hs2
        go_wp2
        go_ret
        exact ⟨rfl, rfl⟩
      · rw [decide_eq_true h0, decide_eq_true h1]
        go_enter Tryd.func73, Tryd.ntmps73
        go_wp2_with fail
        refine (kO _).mono ?_
        rintro e w2 ⟨rfl, hw2⟩
        have hs2 := hw2.symm
        clear hw2 kO
        subst hs2
        go_wp2
        go_ret
        exact ⟨rfl, rfl⟩
    · rw [decide_eq_true h0, decide_eq_false h1]
      go_enter Tryd.func73, Tryd.ntmps73
      go_wp2_with fail
      refine (kO _).mono ?_
      rintro e w2 ⟨rfl, hw2⟩
      have hs2 := hw2.symm
      clear hw2 kO
      subst hs2
      go_wp2
      go_ret
      exact ⟨rfl, rfl⟩
  · rw [decide_eq_false h0]
    go_enter Tryd.func73, Tryd.ntmps73
    go_wp2_with fail
    refine (kO _).mono ?_
    rintro e w2 ⟨rfl, hw2⟩
    have hs2 := hw2.symm
    clear hw2 kO
    subst hs2
    go_wp2
    go_ret
    exact ⟨rfl, rfl⟩
end Go.Proofs.YtapodfkoknmhdaaDoor

/- Lists of names in memory; one of them, as the model looks for it. -/
namespace Go.Proofs.YtapodfkoknmhdaaDoor
open Go.RowKit
/-- the texts of a list, by their index -/
def SL (w : World) (a : Option Addr) (n : Nat) (S : Nat → ByteArray) : Prop :=
  0 < n → ∃ b off, a = some ⟨b, off, none⟩ ∧ b < w.heap.size ∧ ∀ i, i < n → w.cell? ⟨b, off + i, none⟩ = some (.string (S i))
theorem SL.below {w w' : World} {a : Option Addr} {n : Nat} {S : Nat → ByteArray} (h : SL w a n S) (hb : Below w.heap.size w w') : SL w' a n S := fun h0 => by
  obtain ⟨b, off, rfl, hbw, hc⟩ := h h0
  exact ⟨b, off, rfl, Nat.lt_of_lt_of_le hbw hb.size, fun i hi => (hb.cell (p := ⟨b, off + i, none⟩) hbw).trans (hc i hi)⟩
theorem SL.none (w : World) (S : Nat → ByteArray) : SL w none 0 S := fun h => absurd h (Nat.lt_irrefl _)
theorem SL.pre {w : World} {a : Option Addr} {n : Nat} {S : Nat → ByteArray} (h : SL w a n S) {k : Nat} (hk : k ≤ n) : SL w a k S := fun h0 => by
  obtain ⟨b, off, rfl, hbw, hc⟩ := h (Nat.lt_of_lt_of_le h0 hk)
  exact ⟨b, off, rfl, hbw, fun i hi => hc i (Nat.lt_of_lt_of_le hi hk)⟩
theorem SL.congr {w : World} {a : Option Addr} {n : Nat} {S T : Nat → ByteArray} (h : SL w a n S) (e : ∀ i, i < n → S i = T i) : SL w a n T := fun h0 => by
  obtain ⟨b, off, rfl, hbw, hc⟩ := h h0
  exact ⟨b, off, rfl, hbw, fun i hi => by rw [hc i hi, e i hi]⟩
/-- s is one of the first k -/
def inS (S : Nat → ByteArray) (s : ByteArray) : Nat → Bool
  | 0 => false
  | k + 1 => inS S s k || decide (S k = s)
theorem inS_mono {S : Nat → ByteArray} {s : ByteArray} {k m : Nat} (hk : k ≤ m) (h : inS S s k = true) : inS S s m = true := by
  induction m with
  | zero => have : k = 0 := by omega
            subst this; exact h
  | succ m ih =>
    by_cases e : k = m + 1
    · rw [← e]; exact h
    · unfold inS
      rw [ih (by omega)]; rfl
theorem inS_iff {S : Nat → ByteArray} {s : ByteArray} {m : Nat} : inS S s m = true ↔ ∃ i, i < m ∧ S i = s := by
  induction m with
  | zero => simp [inS]
  | succ m ih =>
    unfold inS
    simp only [Bool.or_eq_true, decide_eq_true_eq, ih]
    constructor
    · rintro (⟨i, h, e⟩ | e)
      · exact ⟨i, by omega, e⟩
      · exact ⟨m, by omega, e⟩
    · rintro ⟨i, h, e⟩
      by_cases hm : i = m
      · subst hm; exact Or.inr e
      · exact Or.inl ⟨i, by omega, e⟩
theorem bl_eq (a b : ByteArray) : (a.toList == b.toList) = decide (a = b) := by
  by_cases e : a = b
  · subst e; simp
  · rw [decide_eq_false e]
    refine beq_eq_false_iff_ne.mpr fun h => e ?_
    rw [ByteArray.toList_eq, ByteArray.toList_eq] at h
    cases a; cases b
    simp only [ByteArray.mk.injEq]
    exact Array.toList_inj.mp h
set_option maxHeartbeats 2000000 in
theorem sIn (a : Option Addr) (n c : Nat) (S : Nat → ByteArray) (s : ByteArray) (w : World) (hn : n ≤ 1048576) (ha : SL w a n S) :
    Calls Tryd.prog 66 #[.slice a n c, .string s] w fun e w' => e = .returned (.bool (inS S s n)) ∧ w' = w := by
  go_enter Tryd.func66, Tryd.ntmps66
  go_wp2
  go_loopw [9] (fun i wr => ∃ k : Nat, k ≤ n ∧ i = .int .i64 (k : Int) ∧ Hid (inS S s k = false) ∧ wr = w) (fun i _ => n - (intOf i).toNat)
  case atStart => exact ⟨0, Nat.zero_le _, rfl, (rfl : inS S s 0 = false), rfl⟩
  case round =>
    obtain ⟨k, hk, rfl, HE, hw⟩ := hrel
    have hw' := hw.symm
    clear hw
    subst hw'
    by_cases hlt : k < n
    · obtain ⟨b1, o1, rfl, l1, hc1⟩ := ha (by omega)
      have y1 := hc1 k hlt
      have j0 : (0 : Int) ≤ (k : Int) := by omega
      have j1 : (k : Int) < (n : Int) := by omega
      clear hc1 ha
      have HT : Hid (((S k).toList == s.toList) = true → inS S s n = true) := fun h => inS_iff.mpr ⟨k, hlt, by rw [bl_eq] at h; exact of_decide_eq_true h⟩
      have HF : Hid (((S k).toList == s.toList) = false → inS S s (k + 1) = false) := fun h => by
        unfold inS; rw [HE.out, ← bl_eq, h]; rfl
      go_wp2
      · rename_i h9
        go_ret
        exact ⟨by rw [HT.out h9]; rfl, rfl⟩
      · rename_i h9
        exact ⟨⟨k + 1, by omega, by go_num, HF.out h9, trivial⟩, by simp [intOf]; omega⟩
    · have : k = n := by omega
      subst this
      go_wp2
      go_ret
      exact ⟨by rw [HE.out]; rfl, rfl⟩
/-- the first k of a list are names, no two of them the same -/
def namesB (S : Nat → ByteArray) : Nat → Bool
  | 0 => true
  | k + 1 => namesB S k && (nameB (bt (S k)) (S k).size && !(inS S (S k) k))
theorem namesB_no {S : Nat → ByteArray} {k m : Nat} (hk : k ≤ m) (h : namesB S k = false) : namesB S m = false := by
  induction m with
  | zero => have : k = 0 := by omega
            subst this; exact h
  | succ m ih =>
    by_cases e : k = m + 1
    · rw [← e]; exact h
    · unfold namesB
      rw [ih (by omega)]; rfl
/-- a list of names -/
def namB (S : Nat → ByteArray) (n : Nat) : Bool := decide (n ≤ 6) && namesB S n
set_option maxHeartbeats 2000000 in
theorem sNames (a : Option Addr) (n c : Nat) (S : Nat → ByteArray) (w : World) (hn : n ≤ 1048576) (hc : n ≤ c) (hS : ∀ i, i < n → (S i).size ≤ 1048576) (ha : SL w a n S) :
    Calls Tryd.prog 91 #[.slice a n c] w fun e w' => e = .returned (.bool (namB S n)) ∧ w' = w := by
  have kI := fun (k : Nat) (s : ByteArray) w2 (hk : k ≤ n) (h : SL w2 a k S) => sIn a k c S s w2 (by omega) h
  have kN := fun k w2 (hk : k < n) => sName (S k) w2 (hS k hk)
  go_enter Tryd.func91, Tryd.ntmps91
  unfold namB
  by_cases h6 : n ≤ 6
  · rw [decide_eq_true h6]
    have h6' : ¬ ((6 : Int) < (n : Int)) := by omega
    go_wp2
    go_loopw [10] (fun i wr => ∃ k : Nat, k ≤ n ∧ i = .int .i64 (k : Int) ∧ Hid (namesB S k = true) ∧ wr = w) (fun i _ => n - (intOf i).toNat)
    case atStart => exact ⟨0, Nat.zero_le _, rfl, (rfl : namesB S 0 = true), rfl⟩
    case round =>
      obtain ⟨k, hk, rfl, HE, hw⟩ := hrel
      have hw' := hw.symm
      clear hw
      subst hw'
      by_cases hlt : k < n
      · have kN2 := fun w2 => kN k w2 hlt
        have kI2 := fun w2 (h : SL w2 a k S) => kI k (S k) w2 hk h
        have hp := ha.pre hk
        obtain ⟨b1, o1, rfl, l1, hc1⟩ := ha (by omega)
        have y1 := hc1 k hlt
        have j0 : (0 : Int) ≤ (k : Int) := by omega
        have j1 : (k : Int) < (n : Int) := by omega
        clear hc1 kN kI ha
        have HT : Hid (nameB (bt (S k)) (S k).size = true → inS S (S k) k = false → namesB S (k + 1) = true) := fun h1 h2 => by
          unfold namesB; rw [HE.out, h1, h2]; rfl
        have HF : Hid ((nameB (bt (S k)) (S k).size && !(inS S (S k) k)) = false → namesB S n = false) := fun h1 => namesB_no (k := k + 1) (by omega) (by unfold namesB; rw [h1]; exact Bool.and_false _)
        generalize nameB (bt (S k)) (S k).size = N at *
        generalize inS S (S k) k = I at *
        cases N with
        | false =>
          go_wp2_with fail
          refine (kN2 _).mono ?_
          rintro e w2 ⟨rfl, hw2⟩
          have hs2 := hw2.symm
          clear hw2 kN2
          subst hs2
          go_wp2
          go_ret
          exact ⟨by rw [HF.out rfl]; rfl, rfl⟩
        | true =>
          go_wp2_with fail
          refine (kN2 _).mono ?_
          rintro e w2 ⟨rfl, hw2⟩
          have hs2 := hw2.symm
          clear hw2 kN2
          subst hs2
          go_wp2_with fail
          refine (kI2 _ hp).mono ?_
          rintro e w2 ⟨rfl, hw2⟩
          have hs2 := hw2.symm
          clear hw2 kI2
          subst hs2
          cases I with
          | true =>
            go_wp2
            go_ret
            exact ⟨by rw [HF.out rfl]; rfl, rfl⟩
          | false =>
            go_wp2
            exact ⟨⟨k + 1, by omega, by go_num, HT.out trivial trivial, trivial⟩, by simp [intOf]; omega⟩
      · have : k = n := by omega
        subst this
        go_wp2
        go_ret
        exact ⟨by rw [HE.out]; rfl, rfl⟩
  · rw [decide_eq_false h6]
    have h6' : ((6 : Int) < (n : Int)) := by omega
    go_wp2
    go_ret
    exact ⟨rfl, rfl⟩
end Go.Proofs.YtapodfkoknmhdaaDoor
