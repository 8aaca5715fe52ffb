/- Arbitrate as the program goes. -/
import Derived.Test.YtldagjgpapnfpaaQArB
import Derived.Test.YtldagjgpapnfpaaQLqBase
import Derived.Test.YtldagjgpapnfpaaQRpI
namespace Go.Proofs.Ytldagjgpapnfpaa
open Go.RowKit
/-- what Arbitrate tells: who is left, where each left, and whether -/
def ArIs (n : Nat) (f : Nat → Int) (K M : Nat) (G : Nat → Int) (B : Bool) : Prop :=
  ((1 ≤ n ∧ n ≤ 6 ∧ ∀ i, i < n → 0 ≤ f i ∧ f i ≤ 2047) ∧ Fst (lv n f 11) n K ∧ M = n ∧ G = lv n f 11 ∧ B = true) ∨ (¬ (1 ≤ n ∧ n ≤ 6 ∧ ∀ i, i < n → 0 ≤ f i ∧ f i ≤ 2047) ∧ K = 0 ∧ M = 0 ∧ B = false)
theorem arIs_some (n : Nat) (f : Nat → Int) : ∃ K M G B, ArIs n f K M G B := by
  by_cases h : 1 ≤ n ∧ n ≤ 6 ∧ ∀ i, i < n → 0 ≤ f i ∧ f i ≤ 2047
  · obtain ⟨k, hk⟩ := Fst.some (lv_alive n f (by omega) 11)
    exact ⟨k, n, _, true, .inl ⟨h, hk, rfl, rfl, rfl⟩⟩
  · exact ⟨0, 0, fun _ => 0, false, .inr ⟨h, rfl, rfl, rfl⟩⟩
theorem ArIs.len {n : Nat} {f : Nat → Int} {K M : Nat} {G : Nat → Int} {B : Bool} (h : ArIs n f K M G B) : M ≤ 6 ∧ K ≤ 6 := by
  rcases h with ⟨h, h1, rfl, _⟩ | ⟨_, rfl, rfl, _⟩
  · have := h1.1; omega
  · omega
def AnsA3 (w w' : World) (e : Ending) (K M : Nat) (G : Nat → Int) (B : Bool) : Prop :=
  ∃ a c, e = .returned (.tuple #[.int .i64 (K : Int), .slice a M c, .bool B]) ∧ LQ w' w.heap.size w'.heap.size a M G
theorem lv_stay (n : Nat) (f : Nat → Int) (b j : Nat) (h : (lv n f b j == -1) = false) : lv n f (b + 1) j = lv n f b j := by
  rw [lv, if_neg (fun h2 => ne_of_beq_false h h2.1)]
theorem lv_alike (n : Nat) (f : Nat → Int) (b j : Nat) (h : (ib (f j) b == wrV f (lv n f b) b n) = true) : lv n f (b + 1) j = lv n f b j := by
  have e := eq_of_beq h
  rw [lv, if_neg]
  rintro ⟨_, h2, h3⟩
  unfold wrV at e
  rw [if_pos h2] at e
  omega
theorem lv_leave (n : Nat) (f : Nat → Int) (b j : Nat) (hj : j < n) (h1 : (lv n f b j == -1) = true) (h : (ib (f j) b == wrV f (lv n f b) b n) = false) : lv n f (b + 1) j = (b : Int) := by
  have e := ne_of_beq_false h
  have e1 := eq_of_beq h1
  unfold wrV at e
  cases hl : lowB f (lv n f b) b n with
  | true =>
    rw [hl, if_pos rfl] at e
    rw [lv, if_pos ⟨e1, hl, by have := ib_bd (f j) b; omega⟩]
  | false =>
    rw [hl, if_neg (by simp)] at e
    have := (lowB_iff f (lv n f b) b n).2 ⟨j, hj, e1, by have := ib_bd (f j) b; omega⟩
    rw [hl] at this; cases this
/-- bits of the ids behind the j-th have not been looked at yet -/
def mxK (n : Nat) (f : Nat → Int) (b j i : Nat) : Int := if i < j then lv n f (b + 1) i else lv n f b i
theorem mxK_zero (n : Nat) (f : Nat → Int) (b i : Nat) : mxK n f b 0 i = lv n f b i := by unfold mxK; rw [if_neg (by omega)]
theorem mxK_at (n : Nat) (f : Nat → Int) (b j : Nat) : mxK n f b j j = lv n f b j := by unfold mxK; rw [if_neg (by omega)]
theorem mxK_step (n : Nat) (f : Nat → Int) (b j i : Nat) (h : lv n f (b + 1) j = lv n f b j) : mxK n f b j i = mxK n f b (j + 1) i := by
  unfold mxK
  by_cases c : i < j
  · rw [if_pos c, if_pos (by omega)]
  · rw [if_neg c]
    by_cases c2 : i < j + 1
    · have : i = j := by omega
      subst this
      rw [if_pos c2, h]
    · rw [if_neg c2]
theorem mxK_put (n : Nat) (f : Nat → Int) (b j i : Nat) (x : Int) (h : lv n f (b + 1) j = x) : put (mxK n f b j) j x i = mxK n f b (j + 1) i := by
  unfold put mxK
  by_cases c : i = j
  · subst c; rw [if_pos rfl, if_pos (by omega), h]
  · rw [if_neg c]
    by_cases c2 : i < j
    · rw [if_pos c2, if_pos (by omega)]
    · rw [if_neg c2, if_neg (by omega)]
set_option maxRecDepth 20000 in
set_option maxHeartbeats 4000000 in
theorem iArb (a : Option Addr) (n c : Nat) (f : Nat → Int) (K M : Nat) (G : Nat → Int) (B : Bool) (w : World) (hn : n ≤ 1048576) (hA : ArIs n f K M G B) (hf : IL w a n f) :
    Calls Try.prog 47 #[.slice a n c] w fun e w' => AnsA3 w w' e K M G B ∧ Below w.heap.size w w' := by
  have kG := goodIds_any a n c f w hn hf
  by_cases h1 : n < 1
  · obtain ⟨rfl, rfl, rfl⟩ : K = 0 ∧ M = 0 ∧ B = false := by
      rcases hA with ⟨h, _⟩ | ⟨_, h⟩
      · omega
      · exact h
    have j : (n : Int) < 1 := by omega
    clear kG
    go_enter Try.func47, Try.ntmps47
    go_wp2_with fail
    go_ret3
    exact ⟨⟨none, 0, rfl, lq_none _ _ _ _ _⟩, Below.refl _ _⟩
  have j1 : ¬ (n : Int) < 1 := by omega
  by_cases h2 : 6 < n
  · obtain ⟨rfl, rfl, rfl⟩ : K = 0 ∧ M = 0 ∧ B = false := by
      rcases hA with ⟨h, _⟩ | ⟨_, h⟩
      · omega
      · exact h
    have j : (6 : Int) < (n : Int) := by omega
    clear kG
    go_enter Try.func47, Try.ntmps47
    go_wp2_with fail
    go_ret3
    exact ⟨⟨none, 0, rfl, lq_none _ _ _ _ _⟩, Below.refl _ _⟩
  have j2 : ¬ (6 : Int) < (n : Int) := by omega
  cases h3 : idsB f n with
  | false =>
    obtain ⟨rfl, rfl, rfl⟩ : K = 0 ∧ M = 0 ∧ B = false := by
      rcases hA with ⟨h, _⟩ | ⟨_, h⟩
      · have := (idsB_iff f n).2 h.2.2
        rw [h3] at this; cases this
      · exact h
    rw [h3] at kG
    go_enter Try.func47, Try.ntmps47
    go_wp2_with fail
    refine kG.mono ?_
    rintro e w2 ⟨rfl, hw2⟩
    have hs2 := hw2.symm
    clear hw2 kG
    subst hs2
    go_wp2_with fail
    go_ret3
    exact ⟨⟨none, 0, rfl, lq_none _ _ _ _ _⟩, Below.refl _ _⟩
  | true =>
    rw [h3] at kG
    have hid := (idsB_iff f n).1 h3
    have HA : Hid (∀ k, Fst (lv n f 11) n k → k = K ∧ n = M ∧ lv n f 11 = G ∧ true = B) := by
      intro k hk
      rcases hA with ⟨_, hK, rfl, rfl, rfl⟩ | ⟨h, _⟩
      · exact ⟨hk.uniq hK, rfl, rfl, rfl⟩
      · exact absurd ⟨by omega, by omega, hid⟩ h
    have HD : Hid (∀ i, i < n → 0 ≤ f i ∧ f i ≤ 2047) := hid
    have HF : Hid (IL w a n f) := hf
    clear hA hid h3 hf
    have hb0 : Below w.heap.size w (w.alloc (.cells #[.int .i64 (-1)] 3)) := (Below.refl _ _).alloc (Nat.le_refl _) _
    have kR := repeat_any (-1) n w.heap.size (w.alloc (.cells #[.int .i64 (-1)] 3)) (by omega) hn ((lit_ip w [-1] 3).c 0 (by simp)) (by simp)
    go_enter Try.func47, Try.ntmps47
    go_wp2_with fail
    refine kG.mono ?_
    rintro e w2 ⟨rfl, hw2⟩
    have hs2 := hw2.symm
    clear hw2 kG
    subst hs2
    go_wp2_with fail
    refine kR.mono ?_
    rintro e w3 ⟨rfl, hip, hb3⟩
    have hB3 := stepA hb0 hb3
    have hg0 : w.heap.size ≤ (w.alloc (.cells #[.int .i64 (-1)] 3)).heap.size := by simp
    clear kR hb0 hb3
    generalize (w.alloc (.cells #[.int .i64 (-1)] 3)).heap.size = g at *
    have hip0 : IP w3 g n (lv n f 0) := hip
    clear hip
    go_wp2
    go_loopw [27] (fun i wr => ∃ b : Nat, b ≤ 11 ∧ i = .int .i64 (b : Int) ∧ IP wr g n (lv n f b) ∧ Below w.heap.size w wr) (fun i _ => 11 - (intOf i).toNat)
    case atStart => exact ⟨0, by omega, rfl, hip0, hB3⟩
    case round =>
      obtain ⟨b, hb, rfl, hip, hBo⟩ := hrel
      clear hip0 hB3
      by_cases hlt : b < 11
      · have kW := wireBit_any a n c f g n b (lv n f b) wr (by omega) (by omega) HD.out (HF.out.below hBo) hip
        have i1 : (b : Int) < 11 := by omega
        generalize hV : wrV f (lv n f b) b n = V at kW
        have HV : Hid (wrV f (lv n f b) b n = V) := hV
        clear hV
        go_wp2_with fail
        refine kW.mono ?_
        rintro e w4 ⟨rfl, hw4⟩
        have hs4 := hw4.symm
        clear hw4 kW
        subst hs4
        go_wp2
        have hip5 : IP wr g n (mxK n f b 0) := hip.congr fun i _ => (mxK_zero n f b i).symm
        clear hip
        go_loopw [36] (fun i w5 => ∃ j : Nat, j ≤ n ∧ i = .int .i64 (j : Int) ∧ IP w5 g n (mxK n f b j) ∧ Below w.heap.size w w5) (fun i _ => n - (intOf i).toNat)
        case atStart => exact ⟨0, by omega, rfl, hip5, hBo⟩
        case round =>
          obtain ⟨j, hj, rfl, hip, hB⟩ := hrel
          clear hBo hip5
          by_cases hjn : j < n
          · obtain ⟨b1, o1, rfl, l1, hc1⟩ := (HF.out.below hB) (by omega)
            have y1 := hc1 j hjn
            have y2 := hip.c j hjn
            have fz := hip.fz j
            have l2 := hip.lt
            rw [mxK_at] at y2
            have i2 : (0 : Int) ≤ (j : Int) := by omega
            have i3 : (j : Int) < (n : Int) := by omega
            have kB := fun w2 => idBit_any (f j) b w2 (by omega) (HD.out j hjn).1 (HD.out j hjn).2
            have HS : Hid ((lv n f b j == -1) = false → lv n f (b + 1) j = lv n f b j) := lv_stay n f b j
            have HQ : Hid ((ib (f j) b == V) = true → lv n f (b + 1) j = lv n f b j) := by rw [← HV.out]; exact lv_alike n f b j
            have HL : Hid ((lv n f b j == -1) = true → (ib (f j) b == V) = false → lv n f (b + 1) j = (b : Int)) := by rw [← HV.out]; exact lv_leave n f b j hjn
            have hst := fun h => (hip.congr fun i _ => mxK_step n f b j i h)
            have hpt := fun h => ((hip.set hjn (b : Int)).congr fun i _ => mxK_put n f b j i (b : Int) h)
            have hB6 := hB.setCell (p := ⟨g, j, none⟩) hg0 (.int .i64 (b : Int))
            have HST : Hid (lv n f (b + 1) j = lv n f b j → IP wr g n (mxK n f b (j + 1))) := hst
            have HPT : Hid (lv n f (b + 1) j = (b : Int) → IP (wr.setCell ⟨g, j, none⟩ (.int .i64 (b : Int))) g n (mxK n f b (j + 1))) := hpt
            clear hst hpt hc1 hip
            generalize ib (f j) b = X at *
            generalize lv n f b j = Y at *
            cases hx : (Y == -1) with
            | false =>
              have HP : Hid (IP wr g n (mxK n f b (j + 1))) := HST.out (HS.out hx)
              clear HS HQ HL HST HPT kB
              go_wp2
              exact ⟨⟨j + 1, by omega, by go_num, HP.out, hB⟩, by simp [intOf]; omega⟩
            | true =>
              cases hy : (X == V) with
              | true =>
                have HP : Hid (IP wr g n (mxK n f b (j + 1))) := HST.out (HQ.out hy)
                clear HS HQ HL HST HPT
                go_wp2_with fail
                refine (kB _).mono ?_
                rintro e w7 ⟨rfl, hw7⟩
                have hs7 := hw7.symm
                clear hw7 kB
                subst hs7
                go_wp2
                exact ⟨⟨j + 1, by omega, by go_num, HP.out, hB⟩, by simp [intOf]; omega⟩
              | false =>
                have HP : Hid (IP (wr.setCell ⟨g, j, none⟩ (.int .i64 (b : Int))) g n (mxK n f b (j + 1))) := HPT.out (HL.out hx hy)
                clear HS HQ HL HST HPT
                go_wp2_with fail
                refine (kB _).mono ?_
                rintro e w7 ⟨rfl, hw7⟩
                have hs7 := hw7.symm
                clear hw7 kB
                subst hs7
                go_wp2
                exact ⟨⟨j + 1, by omega, by go_num, HP.out, hB6⟩, by simp [intOf]; omega⟩
          · have : j = n := by omega
            subst this
            have hip9 : IP wr g j (lv j f (b + 1)) := hip.congr fun i hi => by unfold mxK; rw [if_pos hi]
            clear hip
            go_wp2
            exact ⟨⟨b + 1, by omega, by go_num, hip9, hB⟩, by simp [intOf]; omega⟩
      · have : b = 11 := by omega
        subst this
        have kI := idxFst g n n (lv n f 11) wr (by omega) hip (lv_alive n f (by omega) 11)
        go_wp2_with fail
        refine kI.mono ?_
        rintro e w4 ⟨⟨z, rfl, hz⟩, hw4⟩
        have hs4 := hw4.symm
        clear hw4 kI
        subst hs4
        go_wp2_with fail
        go_ret3
        obtain ⟨e1, e2, e3, e4⟩ := HA.out z hz
        subst e1 e2 e3 e4
        exact ⟨⟨some ⟨g, 0, none⟩, n, rfl, lq_of hip hg0 hip.lt⟩, hBo⟩
end Go.Proofs.Ytldagjgpapnfpaa
