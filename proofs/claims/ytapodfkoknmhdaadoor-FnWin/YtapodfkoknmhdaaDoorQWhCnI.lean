/- One number among those of a list, as the library looks for it; places of a board; runs on it; what a wish makes of places. -/
import Derived.Test.YtapodfkoknmhdaaDoorQWhGbI
import Derived.Test.YtapodfkoknmhdaaDoorQWhMtM
import Derived.Test.YtapodfkoknmhdaaDoorQWhPlM
namespace Go.Proofs.YtapodfkoknmhdaaDoor
open Go.RowKit
set_option maxHeartbeats 2000000 in
theorem iIndexI (a : Option Addr) (n c : Nat) (F : Nat → Int) (v : Int) (w : World) (hn : n ≤ 1048576) (ha : IL w a n F) :
    Calls Tryd.prog 133 #[.slice a n c, .int .i64 v] w fun e w' => (∃ z : Int, e = .returned (.int .i64 z) ∧ hsB F n v = decide (0 ≤ z)) ∧ w' = w := by
  have HT : Hid (∀ k, k < n → (v == F k) = true → hsB F n v = true) := fun k hk h => by
    unfold hsB; exact decide_eq_true ⟨k, hk, (eq_of_beq h).symm⟩
  have HF : Hid (∀ k, hsB F k v = false → (v == F k) = false → hsB F (k + 1) v = false) := fun k h1 h2 => by
    rw [hsB_step, h1, decide_eq_false (fun e => by rw [e] at h2; simp at h2)]; rfl
  go_enter Tryd.func133, Tryd.ntmps133
  go_wp2
  go_loopw [8] (fun i wr => ∃ k : Nat, k ≤ n ∧ i = .int .i64 (k : Int) ∧ Hid (hsB F k v = false) ∧ wr = w) (fun i _ => n - (intOf i).toNat)
  case atStart => exact ⟨0, Nat.zero_le _, rfl, hsB_zero F v, rfl⟩
  case round =>
    obtain ⟨k, hk, rfl, HE, hw⟩ := hrel
    have hw' := hw.symm
    clear hw
    subst hw'
    by_cases hlt : k < n
    · obtain ⟨b1, o1, rfl, l1, hc1⟩ := ha (by omega)
      have y1 := hc1 k hlt
      have j0 : (0 : Int) ≤ (k : Int) := by omega
      have j1 : (k : Int) < (n : Int) := by omega
      have HT2 : Hid ((v == F k) = true → hsB F n v = true) := HT.out k hlt
      have HF2 : Hid ((v == F k) = false → hsB F (k + 1) v = false) := HF.out k HE.out
      clear hc1 ha HT HF HE
      generalize F k = X at *
      cases hx : (v == X) with
      | true =>
        have HR : Hid (hsB F n v = true) := HT2.out hx
        clear HT2 HF2
        go_wp2
        go_ret
        exact ⟨⟨(k : Int), rfl, by rw [HR.out]; simp⟩, rfl⟩
      | false =>
        have HR : Hid (hsB F (k + 1) v = false) := HF2.out hx
        clear HT2 HF2
        go_wp2
        exact ⟨⟨k + 1, by omega, by go_num, HR, trivial⟩, by simp [intOf]; omega⟩
    · have : k = n := by omega
      subst this
      go_wp2
      go_ret
      exact ⟨⟨-1, rfl, by rw [HE.out]; rfl⟩, rfl⟩
set_option maxHeartbeats 2000000 in
theorem iContI (a : Option Addr) (n c : Nat) (F : Nat → Int) (v : Int) (w : World) (hn : n ≤ 1048576) (ha : IL w a n F) :
    Calls Tryd.prog 105 #[.slice a n c, .int .i64 v] w fun e w' => e = .returned (.bool (hsB F n v)) ∧ w' = w := by
  have k := iIndexI a n c F v w hn ha
  generalize hsB F n v = B at *
  go_enter Tryd.func105, Tryd.ntmps105
  go_wp2_with fail
  refine k.mono ?_
  rintro e w2 ⟨⟨z, rfl, hz⟩, hw2⟩
  have hs2 := hw2.symm
  clear hw2 k
  subst hs2 hz
  go_wp2
  go_ret
  exact ⟨rfl, rfl⟩
/-- n is one of the numbers below m -/
def nbB (v : Int) (m : Nat) : Bool := decide (0 ≤ v) && decide (v < (m : Int))
set_option maxHeartbeats 1000000 in
theorem iNumS (v : Int) (a : Option Addr) (m c : Nat) (w : World) : Calls Tryd.prog 106 #[.int .i64 v, .slice a m c] w fun e w' => e = .returned (.bool (nbB v m)) ∧ w' = w := by
  unfold nbB
  by_cases h0 : 0 ≤ v
  · rw [decide_eq_true h0]
    by_cases h1 : v < (m : Int)
    · rw [decide_eq_true h1]
      go_enter Tryd.func106, Tryd.ntmps106
      go_wp2
      go_ret
      exact ⟨rfl, rfl⟩
    · rw [decide_eq_false h1]
      go_enter Tryd.func106, Tryd.ntmps106
      go_wp2
      go_ret
      exact ⟨rfl, rfl⟩
  · rw [decide_eq_false h0]
    go_enter Tryd.func106, Tryd.ntmps106
    go_wp2
    go_ret
    exact ⟨rfl, rfl⟩
/-- what a wish makes of place i -/
def knF (f : Nat → ByteArray) (rn : Nat) (re : Nat → ByteArray) (an : Nat) (av : Nat → ByteArray) (i : Nat) : Int := if inS av (f i) an = true then 2 else if inS re (f i) rn = true then 1 else 0
theorem own_cap {w : World} {base : Nat} {a : Option Addr} {k c : Nat} {F : Nat → Int} (h : Own w base (.slice a k c) k F) : k ≤ c := by
  obtain ⟨_, ⟨h1, h2⟩ | ⟨g, cap, cur, h1, h2, h3, h4, h5⟩⟩ := h
  · cases h1; omega
  · cases h1; exact h4
theorem own_low {w : World} {base lo : Nat} {v : Value} {k : Nat} {F : Nat → Int} (h : Own w base v k F) (hl : lo ≤ base) : Own w lo v k F := by
  obtain ⟨hl2, h | ⟨g, cap, cur, h1, h2, h3⟩⟩ := h
  · exact ⟨hl2, .inl h⟩
  · exact ⟨hl2, .inr ⟨g, cap, cur, h1, by omega, h3⟩⟩
/-- a list of n ints that is the answer -/
def AnsK (w' : World) (lo : Nat) (n : Nat) (F : Nat → Int) (e : Ending) : Prop := ∃ a' c', e = .returned (.slice a' n c') ∧ n ≤ c' ∧ Own w' lo (.slice a' n c') n F
set_option maxHeartbeats 4000000 in
theorem iKinds (a : Option Addr) (n c : Nat) (b : Option Addr) (m d : Nat) (x : Option Addr) (p q : Nat) (f : Nat → ByteArray) (ra : Option Addr) (rn rc : Nat) (re : Nat → ByteArray) (aa : Option Addr) (an ac : Nat) (av : Nat → ByteArray) (w : World) (hn : n ≤ 1048576) (hrn : rn ≤ 1048576) (han : an ≤ 1048576) (hS : SL w a n f) (hr : SL w ra rn re) (ha : SL w aa an av) :
    Calls Tryd.prog 63 #[bdv a n c b m d x p q, wsv ra rn rc aa an ac] w fun e w' => AnsK w' w.heap.size n (knF f rn re an av) e ∧ Below w.heap.size w w' := by
  obtain ⟨i0, hi, hzz⟩ := Option.map_eq_some_iff.1 infoI
  simp only [Prod.mk.injEq] at hzz
  obtain ⟨hz0, hz1, hz2⟩ := hzz
  have kI := fun s w2 (h : SL w2 aa an av) => iContS aa an ac av s w2 han h
  have kJ := fun s w2 (h : SL w2 ra rn re) => iContS ra rn rc re s w2 hrn h
  have hb1 : Below w.heap.size w (w.alloc (bdO a n c b m d x p q 38)) := (Below.refl _ _).alloc (Nat.le_refl _) _
  have hb2 : Below w.heap.size w ((w.alloc (bdO a n c b m d x p q 38)).alloc (wsO ra rn rc aa an ac 25)) := hb1.alloc (by simp) _
  have hb3 : Below w.heap.size w (((w.alloc (bdO a n c b m d x p q 38)).alloc (wsO ra rn rc aa an ac 25)).alloc (.cells #[] 3)) := hb2.alloc (by simp only [size_al]; omega) _
  have bA := (((bx_new (w := w) (bdL a n c b m d x p q) 38 rfl).alloc (wsO ra rn rc aa an ac 25)).alloc (.cells #[] 3))
  have bW := ((bx_new (w := w.alloc (bdO a n c b m d x p q 38)) (b := w.heap.size + 1) [.slice ra rn rc, .slice aa an ac] 25 (by simp)).alloc (.cells #[] 3))
  have hO := own_lit0 ((w.alloc (bdO a n c b m d x p q 38)).alloc (wsO ra rn rc aa an ac 25)) (w.heap.size + 2) (knF f rn re an av) (by simp)
  have hsz : (((w.alloc (bdO a n c b m d x p q 38)).alloc (wsO ra rn rc aa an ac 25)).alloc (.cells #[] 3)).heap.size = w.heap.size + 3 := by simp
  simp only [size_al] at hO
  have x0 := bA.c0
  go_enter Tryd.func63, Tryd.ntmps63
  go_wp2
  have HO : Hid (Own (((w.alloc (bdO a n c b m d x p q 38)).alloc (wsO ra rn rc aa an ac 25)).alloc (.cells #[] 3)) (w.heap.size + 2) (.slice (some ⟨w.heap.size + 1 + 1, 0, none⟩) 0 0) 0 (knF f rn re an av)) := hO
  have HS : Hid (SL w a n f ∧ SL w ra rn re ∧ SL w aa an av) := ⟨hS, hr, ha⟩
  clear hb1 hb2 hO x0 hS hr ha
  generalize ((w.alloc (bdO a n c b m d x p q 38)).alloc (wsO ra rn rc aa an ac 25)).alloc (.cells #[] 3) = W2 at HO bA bW hb3 hsz ⊢
  go_loopw [5, 13] (fun v i wr => ∃ k : Nat, k ≤ n ∧ i = .int .i64 k ∧ Own wr (w.heap.size + 2) v k (knF f rn re an av) ∧ Below (w.heap.size + 2) W2 wr) (fun _ i _ => n - (intOf i).toNat)
  case atStart => exact ⟨0, Nat.zero_le _, rfl, HO.out, Below.refl _ _⟩
  case round =>
    obtain ⟨k, hk, rfl, hown, hB⟩ := hrel
    have hBw : Below w.heap.size w wr := hb3.trans (hB.mono (by omega))
    have hbase : w.heap.size + 2 ≤ wr.heap.size := by have := hB.size; omega
    clear HO
    by_cases hlt : k < n
    · obtain ⟨sb, so, rfl, sl, hc1⟩ := (HS.out.1.below hBw) (by omega)
      have y1 := hc1 k hlt
      have bX := bW.below hB (by omega)
      have x1 := bX.c1
      have x2 := bX.c0
      have kI2 := kI (f k) wr (HS.out.2.2.below hBw)
      have kJ2 := kJ (f k) wr (HS.out.2.1.below hBw)
      have HK : Hid (knF f rn re an av k = if inS av (f k) an = true then 2 else if inS re (f k) rn = true then 1 else 0) := (rfl : knF f rn re an av k = _)
      have j0 : (0 : Int) ≤ (k : Int) := by omega
      have j1 : (k : Int) < (n : Int) := by omega
      have HV : Hid (∀ v X, X = knF f rn re an av k → ∀ w3 : World, w3.ownsRow (w.heap.size + 2) 3 1 v (k + 1) (vL (knF f rn re an av) k ++ [.int .i64 X]) → Own w3 (w.heap.size + 2) v (k + 1) (knF f rn re an av)) := fun v X hX w3 h => by
        unfold Own; rw [vL_succ, ← hX]; exact h
      clear hc1 kI kJ bW bA bX hsz HS
      generalize inS av (f k) an = I at *
      generalize inS re (f k) rn = J at *
      generalize f k = s at *
      obtain ⟨sa, sc, rfl⟩ := hown.shape
      cases I with
      | true =>
        have hX0 : (2 : Int) = knF f rn re an av k := by have := HK.out.symm; simpa using this
        have HX : Hid ((2 : Int) = knF f rn re an av k) := hX0
        clear hX0
        clear HK kJ2
        go_wp2_with (first | (go_at_call 57; refine kI2.mono ?_; rintro e w9 ⟨rfl, hw9⟩; have hs' := hw9.symm; clear hw9 kI2; subst hs') | (at_builtin; refine wpList_append_own _ rfl _ _ 41 rfl (w.heap.size + 2) 3 i0 (.int .i64 0) 1 8 Tryd.underlying41 hi hz0 hz1 hz2 rfl (by decide) _ _ _ rfl (World.ownsRow.alloc hown _) ⟨wr.heap.size, 0, none⟩ 1 1 [.int .i64 (2 : Int)] rfl rfl (cell_one_new _ _ _) (fun x hx => by simp at hx; subst hx; rfl) (by unfold maxLen; omega) (by omega) (by simp; omega) ?_; intro v' w3 hown' hgrow3 _) | fail)
        have hB3 := (hB.alloc hbase (.cells #[.int .i64 (2 : Int)] 3)).grown hgrow3 (by simp; omega) (fun q hq => (World.ownsRow.lt hown q hq).1)
        exact ⟨⟨k + 1, by omega, by go_num, HV.out _ _ HX.out _ hown', hB3⟩, by simp [intOf]; omega⟩
      | false =>
        cases J with
        | true =>
          have hX0 : (1 : Int) = knF f rn re an av k := by have := HK.out.symm; simpa using this
          have HX : Hid ((1 : Int) = knF f rn re an av k) := hX0
          clear hX0
          clear HK
          go_wp2_with (first | (go_at_call 57; refine kI2.mono ?_; rintro e w9 ⟨rfl, hw9⟩; have hs' := hw9.symm; clear hw9 kI2; subst hs') | fail)
          refine kJ2.mono ?_
          rintro e w9 ⟨rfl, hw9⟩
          have hs' := hw9.symm
          clear hw9 kJ2
          subst hs'
          go_wp2_with (at_builtin; refine wpList_append_own _ rfl _ _ 41 rfl (w.heap.size + 2) 3 i0 (.int .i64 0) 1 8 Tryd.underlying41 hi hz0 hz1 hz2 rfl (by decide) _ _ _ rfl (World.ownsRow.alloc hown _) ⟨wr.heap.size, 0, none⟩ 1 1 [.int .i64 (1 : Int)] rfl rfl (cell_one_new _ _ _) (fun x hx => by simp at hx; subst hx; rfl) (by unfold maxLen; omega) (by omega) (by simp; omega) ?_; intro v' w3 hown' hgrow3 _)
          have hB3 := (hB.alloc hbase (.cells #[.int .i64 (1 : Int)] 3)).grown hgrow3 (by simp; omega) (fun q hq => (World.ownsRow.lt hown q hq).1)
          exact ⟨⟨k + 1, by omega, by go_num, HV.out _ _ HX.out _ hown', hB3⟩, by simp [intOf]; omega⟩
        | false =>
          have hX0 : (0 : Int) = knF f rn re an av k := by have := HK.out.symm; simpa using this
          have HX : Hid ((0 : Int) = knF f rn re an av k) := hX0
          clear hX0
          clear HK
          go_wp2_with (first | (go_at_call 57; refine kI2.mono ?_; rintro e w9 ⟨rfl, hw9⟩; have hs' := hw9.symm; clear hw9 kI2; subst hs') | fail)
          refine kJ2.mono ?_
          rintro e w9 ⟨rfl, hw9⟩
          have hs' := hw9.symm
          clear hw9 kJ2
          subst hs'
          go_wp2_with (at_builtin; refine wpList_append_own _ rfl _ _ 41 rfl (w.heap.size + 2) 3 i0 (.int .i64 0) 1 8 Tryd.underlying41 hi hz0 hz1 hz2 rfl (by decide) _ _ _ rfl (World.ownsRow.alloc hown _) ⟨wr.heap.size, 0, none⟩ 1 1 [.int .i64 (0 : Int)] rfl rfl (cell_one_new _ _ _) (fun x hx => by simp at hx; subst hx; rfl) (by unfold maxLen; omega) (by omega) (by simp; omega) ?_; intro v' w3 hown' hgrow3 _)
          have hB3 := (hB.alloc hbase (.cells #[.int .i64 (0 : Int)] 3)).grown hgrow3 (by simp; omega) (fun q hq => (World.ownsRow.lt hown q hq).1)
          exact ⟨⟨k + 1, by omega, by go_num, HV.out _ _ HX.out _ hown', hB3⟩, by simp [intOf]; omega⟩
    · have hke : k = n := by omega
      subst hke
      obtain ⟨sa, sc, rfl⟩ := hown.shape
      clear bA bW
      go_wp2
      go_ret
      exact ⟨⟨sa, sc, rfl, own_cap hown, own_low hown (by omega)⟩, hBw⟩
end Go.Proofs.YtapodfkoknmhdaaDoor
