/- FnWin behind its draws. -/
import Derived.Test.YtapodfkoknmhdaaDoorQWhWinM
import Derived.Test.YtapodfkoknmhdaaDoorQWhWnI
import Derived.Test.YtapodfkoknmhdaaDoorQWhWnS
import Derived.Test.YtapodfkoknmhdaaDoorQWhPyI
import Derived.Test.YtapodfkoknmhdaaDoorQChSam
import Derived.Test.YtapodfkoknmhdaaDoorQCurPick
namespace Go.Proofs.YtapodfkoknmhdaaDoor
open Go.RowKit
theorem wnL_at (N : Nat → Int) (k : Nat) {i : Nat} (hi : i < (wnL N k).length) : ∃ j, j < k ∧ 0 ≤ N j ∧ gl (wnL N k) i = (j : Int) := by
  induction k with
  | zero => simp [wnL] at hi
  | succ k ih =>
    unfold wnL at hi ⊢
    by_cases h0 : 0 ≤ N k
    · rw [if_pos h0] at hi ⊢
      by_cases e : i < (wnL N k).length
      · obtain ⟨j, h1, h2, h3⟩ := ih e
        refine ⟨j, by omega, h2, ?_⟩
        rw [← h3]
        simp [gl, List.getElem?_append_left e]
      · have : i = (wnL N k).length := by rw [List.length_append] at hi; simp at hi; omega
        subst this
        exact ⟨k, by omega, h0, by simp [gl]⟩
    · rw [if_neg h0] at hi ⊢
      obtain ⟨j, h1, h2, h3⟩ := ih hi
      exact ⟨j, by omega, h2, h3⟩
/-- what is drawn: a board and a wish -/
def AnsDb (w w' : World) (e : Ending) : Prop := ∃ (a : Option Addr) (n c : Nat) (b : Option Addr) (m d : Nat) (x : Option Addr) (p q : Nat) (f : Nat → ByteArray) (g : Nat → Bool) (K : Nat → Nat) (R : Nat → Nat → Int) (ra : Option Addr) (rn rc : Nat) (re : Nat → ByteArray) (aa : Option Addr) (an ac : Nat) (av : Nat → ByteArray),
  e = .returned (.tuple #[bdv a n c b m d x p q, wsv ra rn rc aa an ac]) ∧ (n ≤ 1048576 ∧ m ≤ 1048576 ∧ p ≤ 1048576 ∧ rn ≤ 1048576 ∧ an ≤ 1048576 ∧ rn ≤ rc ∧ an ≤ ac) ∧ ((∀ i, i < n → (f i).size ≤ 1048576) ∧ (∀ i, i < p → K i ≤ 1048576) ∧ (∀ i, i < rn → (re i).size ≤ 1048576) ∧ (∀ i, i < an → (av i).size ≤ 1048576)) ∧ BD w' a n f b m g x p K R ∧ SL w' ra rn re ∧ SL w' aa an av ∧ Below w.heap.size w w'
/-- what is drawn: choices -/
def AnsSc (w w' : World) (e : Ending) : Prop := ∃ (x : Option Addr) (c : Nat) (th : Nat → Int), e = .returned (.slice x 20 c) ∧ (∀ i, i < 20 → 0 ≤ th i) ∧ IL w' x 20 th ∧ Below w.heap.size w w'
set_option maxRecDepth 200000 in
set_option maxHeartbeats 8000000 in
theorem winFn (A : Option Addr) (len cap : Nat) (A2 : Option Addr) (len2 cap2 : Nat) (w : World) (hl : len ≤ 1048576) (hl2 : len2 ≤ 1048576) (hT : U8 w)
    (hD : Calls Tryd.prog 15 #[.slice A len cap] w fun e w' => AnsDb w w' e)
    (hC : ∀ w2, Below w.heap.size w w2 → Calls Tryd.prog 20 #[.slice A2 len2 cap2, .int .i64 20] w2 fun e w' => AnsSc w2 w' e) :
    Calls Tryd.prog 4 #[.slice A len cap, .slice A2 len2 cap2] w fun e w' => e = .returned (.bool true) ∧ Below w.heap.size w w' := by
  have HT : Hid (U8 w) := hT
  clear hT
  have jl : ¬ (1048576 : Int) < (len : Int) := by omega
  have jl2 : ¬ (1048576 : Int) < (len2 : Int) := by omega
  go_enter Tryd.func4, Tryd.ntmps4
  go_wp2_with fail
  refine hD.mono ?_
  rintro e w1 ⟨a, n, c, b, m, d, x, p, q, f, g, K, R, ra, rn, rc, re, aa, an, ac, av, rfl, ⟨hn, hm, hp, hrn, han, hrc, hac⟩, ⟨hf, hK, hre, hav⟩, hBD, hr, ha, hB1⟩
  clear hD
  have kI := fun w h1 h2 h3 h4 => iWinning a n c b m d x p q f g K R ra rn rc re aa an ac av w hn hm hp hf hK hrn han hrc hac hre hav h1 h2 h3 h4
  have kS := fun w h1 h2 h3 => sWinning a n c b m d x p q f g K R ra rn rc re aa an ac av w hn hm hp hf hK hrn han hrc hac hre hav h1 h2 h3
  have kP := fun w h1 h2 h3 h4 => iStrategy a n c b m d x p q f g K R ra rn rc re aa an ac av w hn hm hp hf hK hrn han hrc hac hre hav h1 h2 h3 h4
  have kM := fun ta L tc P w h1 h2 h3 h4 h5 h6 h7 => iWishMet a n c b m d x p q f g K R ra rn rc re aa an ac av ta L tc P w hn hm hp hf hK hrn han hrc hac hre hav h1 h2 h3 h4 h5 h6 h7
  have kL := fun pa pn pc pl fr ta L tc th w h1 h2 h3 h4 h5 => iPlay a n c b m d x p q f g K R pa pn pc pl fr ta L tc th w hn hm hp hf hK h1 h2 h3 h4 h5
  have hb2 : Below w1.heap.size w1 ((w1.alloc (bdO a n c b m d x p q 38)).alloc (wsO ra rn rc aa an ac 25)) := ((Below.refl _ _).alloc (Nat.le_refl _) _).alloc (by simp) _
  have bA := (bx_new (w := w1) (bdL a n c b m d x p q) 38 rfl).alloc (wsO ra rn rc aa an ac 25)
  have bW := (bx_new (w := w1.alloc (bdO a n c b m d x p q 38)) (b := w1.heap.size + 1) [.slice ra rn rc, .slice aa an ac] 25 (by simp))
  have HT1 : Hid (U8 w1) := HT.out.below hB1
  clear HT hf hre hav
  cases hbw : bwB n f m p K R rn re an av with
  | false =>
    have eW : wnV n f m g p K R rn re an av = none := by unfold wnV; rw [hbw]; rfl
    have eS : stV n f m g p K R rn re an av = none := by unfold stV; rw [hbw]; rfl
    rw [eW] at kI kS
    rw [eS] at kP
    simp only [AnsPb, show (oL none).length = 0 from rfl, Option.isSome_none] at kI kS kP
    clear eW eS kM kL hC
    have x0 := bA.c0
    have x1 := bA.c1
    have x2 := bA.c2
    have x3 := bW.c0
    have x4 := bW.c1
    go_wp2_with fail
    refine (kI _ (hBD.below hb2) (hr.below hb2) (ha.below hb2) (HT1.out.below hb2)).mono ?_
    rintro e w3 ⟨⟨a3, c3, rfl, hA3, -⟩, hb3⟩
    have hX3 := stepA hb2 hb3
    have bA3 := bA.on hb3
    have bW3 := bW.on hb3
    clear kI x0 x1 x2 x3 x4 bA bW hb2 hb3
    have x0 := bA3.c0
    have x1 := bA3.c1
    have x2 := bA3.c2
    have x3 := bW3.c0
    have x4 := bW3.c1
    go_wp2_with fail
    refine (kS _ (hBD.below hX3) (hr.below hX3) (ha.below hX3)).mono ?_
    rintro e w4 ⟨⟨a4, c4, rfl, hA4, -⟩, hb4⟩
    have hX4 := stepA hX3 hb4
    have bA4 := bA3.on hb4
    have bW4 := bW3.on hb4
    have hA4' := hA3.on hb4
    have kE := sSame a3 a4 0 c3 c4 (gl (oL none)) w4 (by omega) hA4'.il hA4.il
    clear kS x0 x1 x2 x3 x4 bA3 bW3 hX3 hA3
    go_wp2_with fail
    refine kE.mono ?_
    rintro e w5 ⟨rfl, hb5⟩
    have hX5 := stepA hX4 hb5
    have bA5 := bA4.on hb5
    have bW5 := bW4.on hb5
    have hA5 := hA4'.on hb5
    clear kE bA4 bW4 hX4 hA4 hA4' hb4
    have x0 := bA5.c0
    have x1 := bA5.c1
    have x2 := bA5.c2
    have x3 := bW5.c0
    have x4 := bW5.c1
    go_wp2_with fail
    refine (kP _ (hBD.below hX5) (hr.below hX5) (ha.below hX5) (HT1.out.below hX5)).mono ?_
    rintro e w6 ⟨⟨a6, c6, rfl, hP6, -⟩, hb6⟩
    have hX6 := stepA hX5 hb6
    have bA6 := bA5.on hb6
    have bW6 := bW5.on hb6
    have hA6 := hA5.on hb6
    clear kP x0 x1 x2 x3 x4 bA5 bW5 hX5 hA5 hb5 hb6
    go_wp2
    go_ret
    exact ⟨rfl, hB1.trans (hX6.mono hB1.size)⟩
  | true =>
    obtain ⟨LW, eL⟩ : ∃ LW, wnL (rkV n (knF f rn re an av) rn g K R) n = LW := ⟨_, rfl⟩
    obtain ⟨PL, eP⟩ : ∃ PL, fnL (stF n (knF f rn re an av) rn g K R) n = PL := ⟨_, rfl⟩
    have eW : wnV n f m g p K R rn re an av = some LW := by unfold wnV; rw [hbw, ← eL]; rfl
    have eS : stV n f m g p K R rn re an av = some PL := by unfold stV; rw [hbw, ← eP]; rfl
    have hPn : PL.length = n := by rw [← eP, fnL_len]
    have hLn : LW.length ≤ n := by rw [← eL]; exact wnL_len _ _
    have HAt : Hid (∀ i, i < LW.length → ∃ j, j < n ∧ 0 ≤ rkV n (knF f rn re an av) rn g K R j ∧ gl LW i = (j : Int)) := fun i hi => by
      rw [← eL] at hi ⊢; exact wnL_at _ _ hi
    have HMeet : Hid (∀ (th : Nat → Int) (j : Nat), (∀ i, i < 20 → 0 ≤ th i) → j < n → 0 ≤ rkV n (knF f rn re an av) rn g K R j → ∃ l : List Int, plV n f m g p K R n (gl PL) (j : Int) th 20 = some l ∧ l.length ≤ 31 ∧ mtV n f m p K R rn re an av (gl l) l.length = (true, true)) := fun th j h1 h2 h3 =>
      win_meets hbw (fun i hi => by rw [← eP, fnL_get _ hi]) h1 (by omega) (by omega) h2 h3
    rw [eW] at kI kS
    rw [eS] at kP
    simp only [AnsPb, show oL (some LW) = LW from rfl, show oL (some PL) = PL from rfl, Option.isSome_some, hPn] at kI kS kP
    clear eW eS eL eP
    have x0 := bA.c0
    have x1 := bA.c1
    have x2 := bA.c2
    have x3 := bW.c0
    have x4 := bW.c1
    go_wp2_with fail
    refine (kI _ (hBD.below hb2) (hr.below hb2) (ha.below hb2) (HT1.out.below hb2)).mono ?_
    rintro e w3 ⟨⟨a3, c3, rfl, hA3, -⟩, hb3⟩
    have hX3 := stepA hb2 hb3
    have bA3 := bA.on hb3
    have bW3 := bW.on hb3
    clear kI x0 x1 x2 x3 x4 bA bW hb2 hb3
    have x0 := bA3.c0
    have x1 := bA3.c1
    have x2 := bA3.c2
    have x3 := bW3.c0
    have x4 := bW3.c1
    go_wp2_with fail
    refine (kS _ (hBD.below hX3) (hr.below hX3) (ha.below hX3)).mono ?_
    rintro e w4 ⟨⟨a4, c4, rfl, hA4, -⟩, hb4⟩
    have hX4 := stepA hX3 hb4
    have bA4 := bA3.on hb4
    have bW4 := bW3.on hb4
    have hA4' := hA3.on hb4
    have kE := sSame a3 a4 LW.length c3 c4 (gl LW) w4 (by omega) hA4'.il hA4.il
    clear kS x0 x1 x2 x3 x4 bA3 bW3 hX3 hA3
    go_wp2_with fail
    refine kE.mono ?_
    rintro e w5 ⟨rfl, hb5⟩
    have hX5 := stepA hX4 hb5
    have bA5 := bA4.on hb5
    have bW5 := bW4.on hb5
    have hA5 := hA4'.on hb5
    clear kE bA4 bW4 hX4 hA4 hA4' hb4
    have x0 := bA5.c0
    have x1 := bA5.c1
    have x2 := bA5.c2
    have x3 := bW5.c0
    have x4 := bW5.c1
    go_wp2_with fail
    refine (kP _ (hBD.below hX5) (hr.below hX5) (ha.below hX5) (HT1.out.below hX5)).mono ?_
    rintro e w6 ⟨⟨a6, c6, rfl, hP6, -⟩, hb6⟩
    have hX6 := stepA hX5 hb6
    have bA6 := bA5.on hb6
    have bW6 := bW5.on hb6
    have hA6 := hA5.on hb6
    clear kP x0 x1 x2 x3 x4 bA5 bW5 hX5 hA5 hb5 hb6
    go_wp2_with fail
    refine (hC _ (hB1.trans (hX6.mono hB1.size))).mono ?_
    rintro e w7 ⟨xc, cc, th, rfl, hth, hTh, hb7⟩
    have hX7 := stepA hX6 hb7
    have HA7 : Hid (Bx w7 w1.heap.size (bdL a n c b m d x p q)) := bA6.on hb7
    have HW7 : Hid (Bx w7 (w1.heap.size + 1) [.slice ra rn rc, .slice aa an ac]) := bW6.on hb7
    have HL7 : Hid (IL w7 a3 LW.length (gl LW)) := (hA6.on hb7).il
    have HP7 : Hid (IL w7 a6 n (gl PL)) := (hP6.on hb7).il
    have HC7 : Hid (IL w7 xc 20 th) := hTh
    have HTh : Hid (∀ i, i < 20 → 0 ≤ th i) := hth
    have hLn2 : LW.length ≤ 1048576 := by omega
    clear hC bA6 bW6 hA6 hP6 hTh hth hb7 hX6
    generalize hLL : LW.length = LL at *
    go_wp2_with fail
    go_loopw [68] (fun k wr => ∃ i : Nat, i ≤ LL ∧ k = .int .i64 (i : Int) ∧ Below w7.heap.size w7 wr) (fun k _ => LL - (intOf k).toNat)
    case atStart => exact ⟨0, Nat.zero_le _, rfl, Below.refl _ _⟩
    case round =>
      obtain ⟨i, hi, rfl, hB⟩ := hrel
      have hXr := stepA hX7 hB
      by_cases hlt : i < LL
      · obtain ⟨lb, lo, rfl, ll, hcl⟩ := (HL7.out.below hB) (by omega)
        have y1 := hcl i hlt
        obtain ⟨j, hj, hjw, ej⟩ := HAt.out i hlt
        rw [ej] at y1
        obtain ⟨l, el, hl31, em⟩ := HMeet.out th j HTh.out hj hjw
        have k9 := kL a6 n c6 (gl PL) (j : Int) xc 20 cc th wr (by omega) (hBD.below hXr) (HP7.out.below hB) (HC7.out.below hB) (HT1.out.below hXr)
        rw [el] at k9
        simp only [AnsPb, show oL (some l) = l from rfl, Option.isSome_some] at k9
        have bAr := HA7.out.on hB
        have bWr := HW7.out.on hB
        have u0 := bAr.c0
        have u1 := bAr.c1
        have u2 := bAr.c2
        have i0 : (0 : Int) ≤ (i : Int) := by omega
        have i1 : (i : Int) < (LL : Int) := by omega
        clear hcl ej el hjw
        go_wp2_with fail
        refine k9.mono ?_
        rintro e w9 ⟨⟨a9, c9, rfl, hA9, hcp⟩, hb9⟩
        have hX9 := stepA hXr hb9
        have hB9 := stepA hB hb9
        have k10 := kM a9 l.length c9 (gl l) w9 (by omega) hcp (hBD.below hX9) (hr.below hX9) (ha.below hX9) hA9.il (HT1.out.below hX9)
        rw [em] at k10
        have bA9 := bAr.on hb9
        have bW9 := bWr.on hb9
        have v0 := bA9.c0
        have v1 := bA9.c1
        have v2 := bA9.c2
        have v3 := bW9.c0
        have v4 := bW9.c1
        clear k9 u0 u1 u2 y1 bAr bWr hb9 em
        go_wp2_with fail
        refine k10.mono ?_
        rintro e w10 ⟨rfl, hb10⟩
        have hB10 := stepA hB9 hb10
        clear k10 v0 v1 v2 v3 v4
        go_wp2
        exact ⟨⟨i + 1, by omega, by go_num, hB10⟩, by simp [intOf]; omega⟩
      · have : i = LL := by omega
        subst this
        go_wp2
        go_ret
        exact ⟨rfl, hB1.trans (hXr.mono hB1.size)⟩
end Go.Proofs.YtapodfkoknmhdaaDoor

/- A new cursor. -/
namespace Go.Proofs.YtapodfkoknmhdaaDoor
open Go.RowKit

theorem cur_new (w : World) (a : Option Addr) (len cap : Nat) (hl : len ≤ 1048576) (hb : 0 < len → ∃ b off, a = some ⟨b, off, none⟩ ∧ b < w.heap.size ∧ ∀ i, i < len → ∃ v : Int, w.cell? ⟨b, off + i, none⟩ = some (.int .u8 v) ∧ 0 ≤ v ∧ v ≤ 255) :
    Cur (w.alloc (.cells #[.slice a len cap, .int .i64 0, .int .u64 0] 70)) w.heap.size a len cap 0 := by
  have hB : Below w.heap.size w (w.alloc (.cells #[.slice a len cap, .int .i64 0, .int .u64 0] 70)) := (Below.refl _ _).alloc (Nat.le_refl _) _
  refine ⟨by simp, by simp [go_sem], by simp [go_sem], ⟨0, by simp [go_sem], by omega, by omega⟩, by simp [go_sem], by simp [go_sem], fun h0 => ?_, hl⟩
  obtain ⟨b, off, ha, hbw, hc⟩ := hb h0
  refine ⟨b, off, ha, hbw, fun i hi => ?_⟩
  obtain ⟨v, hv, hv1⟩ := hc i hi
  exact ⟨v, (hB.cell (p := ⟨b, _, none⟩) hbw).trans hv, hv1⟩
end Go.Proofs.YtapodfkoknmhdaaDoor
