/- The text of a wish, as the model writes it. -/
import Derived.Test.YtmlfijapndkfhaaDoorQWhTxS
import Derived.Test.YtmlfijapndkfhaaDoorQFwDn
namespace Go.Proofs.YtmlfijapndkfhaaDoor
open Go.RowKit
/-- the two lists, by their number -/
def sel {α : Type} (x y : α) (k : Nat) : α := if k = 0 then x else y
/-- what stands ahead of list k -/
def outB (rn : Nat) (re : Nat → ByteArray) (an : Nat) (av : Nat → ByteArray) : Nat → ByteArray
  | 0 => ⟨#[]⟩
  | k + 1 => prtO (sel wdR wdA k) (sel re av k) (sel rn an k) (outB rn re an av k)
theorem outB_two (rn : Nat) (re : Nat → ByteArray) (an : Nat) (av : Nat → ByteArray) : outB rn re an av 2 = txtB rn re an av := rfl
set_option maxRecDepth 20000 in
set_option maxHeartbeats 4000000 in
theorem sWrite (ra : Option Addr) (rn rc : Nat) (re : Nat → ByteArray) (aa : Option Addr) (an ac : Nat) (av : Nat → ByteArray) (w : World) (hrn : rn ≤ 1048576) (han : an ≤ 1048576) (hrc : rn ≤ rc) (hac : an ≤ ac) (hre : ∀ i, i < rn → (re i).size ≤ 1048576) (hav : ∀ i, i < an → (av i).size ≤ 1048576)
    (hr : SL w ra rn re) (ha : SL w aa an av) :
    Calls Tryd.prog 7 #[wsv ra rn rc aa an ac] w fun e w' => e = .returned (.tuple #[.string (wrS rn re an av), .bool (wrB rn re an av)]) ∧ Below w.heap.size w w' := by
  have hb1 : Below w.heap.size w (w.alloc (wsO ra rn rc aa an ac 25)) := (Below.refl _ _).alloc (Nat.le_refl _) _
  have bW := bx_new (w := w) [.slice ra rn rc, .slice aa an ac] 25 rfl
  have kW := fun w2 h1 h2 => sGood ra aa rn rc an ac re av w2 hrn han hrc hac hre hav h1 h2
  have HV : Hid (wrB rn re an av = ((namB re rn && namB av an) && (!(hwB re rn) && !(hwB av an)) && decide ((txtB rn re an av).size ≤ 200))) := (rfl : wrB rn re an av = _)
  have HS : Hid (wrS rn re an av = if wrB rn re an av = true then txtB rn re an av else ⟨#[]⟩) := (rfl : wrS rn re an av = _)
  have x0 := bW.c0
  have x1 := bW.c1
  cases hG : (namB re rn && namB av an) with
  | false =>
    rw [hG] at kW HV
    have e1 : wrB rn re an av = false := by rw [HV.out]; rfl
    have e2 : wrS rn re an av = ⟨#[]⟩ := by rw [HS.out, e1]; rfl
    rw [e1, e2]
    clear HV HS e1 e2
    go_enter Tryd.func7, Tryd.ntmps7
    go_wp2_with fail
    refine (kW _ (hr.below hb1) (ha.below hb1)).mono ?_
    rintro e w3 ⟨rfl, hb3⟩
    have hB3 := stepA hb1 hb3
    clear kW bW x0 x1
    go_wp2
    go_ret2
    exact ⟨rfl, hB3⟩
  | true =>
    rw [hG] at kW HV
    have hr6 : rn ≤ 6 := by
      cases e : namB re rn with
      | true => unfold namB at e; simp at e; exact e.1
      | false => rw [e] at hG; cases hG
    have ha6 : an ≤ 6 := by
      cases e : namB av an with
      | true => unfold namB at e; simp at e; exact e.1
      | false => rw [e, Bool.and_false] at hG; cases hG
    clear hG
    have HBad : Hid (∀ k i, k < 2 → i < sel rn an k → isW (sel re av k i) = true → wrB rn re an av = false ∧ wrS rn re an av = ⟨#[]⟩) := fun k i hk hi h => by
      have e1 : wrB rn re an av = false := by
        rw [HV.out]
        have hk2 : k = 0 ∨ k = 1 := by omega
        rcases hk2 with rfl | rfl
        · have : hwB re rn = true := by unfold hwB; exact decide_eq_true ⟨i, hi, h⟩
          rw [this]; rfl
        · have : hwB av an = true := by unfold hwB; exact decide_eq_true ⟨i, hi, h⟩
          rw [this]; simp
      exact ⟨e1, by rw [HS.out, e1]; rfl⟩
    have HGood : Hid ((∀ k i, k < 2 → i < sel rn an k → isW (sel re av k i) = false) → wrB rn re an av = decide ((txtB rn re an av).size ≤ 200)) := fun h => by
      rw [HV.out]
      have h1 : hwB re rn = false := by unfold hwB; exact decide_eq_false fun ⟨i, hi, h9⟩ => by rw [show isW (re i) = false from h 0 i (by omega) hi] at h9; cases h9
      have h2 : hwB av an = false := by unfold hwB; exact decide_eq_false fun ⟨i, hi, h9⟩ => by rw [show isW (av i) = false from h 1 i (by omega) hi] at h9; cases h9
      rw [h1, h2]; simp
    have HNm : Hid (∀ k, k < 2 → sel rn an k ≤ 6 ∧ (∀ i, i < sel rn an k → (sel re av k i).size ≤ 1048576) ∧ (outB rn re an av k).size ≤ 7340032) := fun k hk => by
      have hk2 : k = 0 ∨ k = 1 := by omega
      rcases hk2 with rfl | rfl
      · exact ⟨hr6, hre, by show (⟨#[]⟩ : ByteArray).size ≤ _; exact Nat.zero_le _⟩
      · refine ⟨ha6, hav, ?_⟩
        have h1 := prtO_size (wd := wdR) (o := ⟨#[]⟩) rfl hre
        have h3 : (⟨#[]⟩ : ByteArray).size = 0 := rfl
        show (prtO wdR re rn ⟨#[]⟩).size ≤ _
        omega
    have HSL : Hid (∀ k w2, k < 2 → Below w.heap.size w w2 → SL w2 (sel ra aa k) (sel rn an k) (sel re av k)) := fun k w2 hk hb => by
      have hk2 : k = 0 ∨ k = 1 := by omega
      rcases hk2 with rfl | rfl
      · exact hr.below hb
      · exact ha.below hb
    have hsz := txt_size rn re an av hr6 ha6 hre hav
    clear HV hre hav hr6 ha6
    generalize wrB rn re an av = B at *
    generalize wrS rn re an av = S at *
    go_enter Tryd.func7, Tryd.ntmps7
    go_wp2_with fail
    refine (kW _ (hr.below hb1) (ha.below hb1)).mono ?_
    rintro e w3 ⟨rfl, hb3⟩
    have hB3 := stepA hb1 hb3
    have y0 := (bW.on hb3).c0
    have y1 := (bW.on hb3).c1
    have hb4 : Below w3.heap.size w3 (w3.alloc (.cells #[.slice ra rn rc, .slice aa an ac] 23)) := (Below.refl _ _).alloc (Nat.le_refl _) _
    have hB4 := stepA hB3 hb4
    have bL := bx_new (w := w3) [.slice ra rn rc, .slice aa an ac] 23 rfl
    have HC : Hid (∀ k, k < 2 → (w3.alloc (.cells #[.slice ra rn rc, .slice aa an ac] 23)).cell? ⟨w3.heap.size, k, none⟩ = some (.slice (sel ra aa k) (sel rn an k) (sel rc ac k))) := fun k hk => by
      have hk2 : k = 0 ∨ k = 1 := by omega
      rcases hk2 with rfl | rfl
      · exact bL.c0
      · exact bL.c1
    clear kW bW x0 x1 hb4 bL hb3 hB3
    go_wp2_with fail
    clear y0 y1
    generalize w3.alloc (.cells #[.slice ra rn rc, .slice aa an ac] 23) = W at *
    obtain ⟨O, HO⟩ : ∃ O, Hid (outB rn re an av = O) := ⟨_, (rfl : outB rn re an av = _)⟩
    rw [HO.out] at HNm
    go_loopw [4, 18] (fun o i wr => ∃ k : Nat, k ≤ 2 ∧ i = .int .i64 (k : Int) ∧ o = .string (O k) ∧ Hid (∀ j i, j < k → i < sel rn an j → isW (sel re av j i) = false) ∧ wr = W) (fun _ i _ => 2 - (intOf i).toNat)
    case atStart => exact ⟨0, Nat.zero_le _, rfl, by rw [← HO.out]; rfl, fun j i hj => absurd hj (Nat.not_lt_zero _), rfl⟩
    case round =>
      obtain ⟨k, hk, rfl, rfl, HPr, hw⟩ := hrel
      have hw' := hw.symm
      clear hw
      subst hw'
      by_cases hlt : k < 2
      · have hc := HC.out k hlt
        obtain ⟨n6, hfs, hos⟩ := HNm.out k hlt
        have HOn : Hid (O (k + 1) = prtO (sel wdR wdA k) (sel re av k) (sel rn an k) (O k)) := by
          show O (k + 1) = _
          rw [← HO.out]; rfl
        have hSL := HSL.out k W hlt hB4
        have HBk : Hid (∀ i, i < sel rn an k → isW (sel re av k i) = true → B = false ∧ S = ⟨#[]⟩) := fun i => HBad.out k i hlt
        have HPn : Hid ((∀ i, i < sel rn an k → isW (sel re av k i) = false) → ∀ j i, j < k + 1 → i < sel rn an j → isW (sel re av j i) = false) := fun h j i hj hi => by
          by_cases e : j = k
          · subst e; exact h i hi
          · exact HPr.out j i (by omega) hi
        have k0 : (0 : Int) ≤ (k : Int) := by omega
        have k1 : (k : Int) < 2 := by omega
        have hwd : (k = 0 ∧ sel wdR wdA k = ⟨#[114, 101, 97, 99, 104]⟩) ∨ (k = 1 ∧ sel wdR wdA k = ⟨#[97, 118, 111, 105, 100]⟩) := by
          have hk2 : k = 0 ∨ k = 1 := by omega
          rcases hk2 with rfl | rfl
          · exact .inl ⟨rfl, rfl⟩
          · exact .inr ⟨rfl, rfl⟩
        clear HBad HGood HNm HSL HC HPr HS hsz
        generalize sel rn an k = N at *
        generalize sel re av k = f at *
        generalize sel ra aa k = A at *
        generalize sel rc ac k = C at *
        generalize sel wdR wdA k = wd at *
        by_cases hN0 : N = 0
        · have e0 : ((N : Int) == 0) = true := by simp; omega
          have HOk : Hid (O (k + 1) = O k) := by
            show O (k + 1) = O k
            rw [HOn.out]; unfold prtO; rw [if_pos hN0]
          have HPk := HPn.out fun i hi => absurd hi (by omega)
          have HP9 : Hid (∀ j i, j < k + 1 → i < sel rn an j → isW (sel re av j i) = false) := HPk
          clear HOn HPn HPk HBk hwd hN0
          go_wp2
          exact ⟨⟨k + 1, by omega, by go_num, by rw [HOk.out], HP9, trivial⟩, by simp [intOf]; omega⟩
        · have e0 : ((N : Int) == 0) = false := by simp; omega
          obtain ⟨Y, HY⟩ : ∃ Y, Hid (gapB (O k) ++ wd = Y) := ⟨_, (rfl : gapB (O k) ++ wd = _)⟩
          have HOk : Hid (O (k + 1) = wtB f Y N) := by
            show O (k + 1) = wtB f Y N
            rw [HOn.out, ← HY.out]; unfold prtO; rw [if_neg hN0]
          have HGp : Hid (gapB (O k) = if ((O k).toList == (⟨#[]⟩ : ByteArray).toList) = true then O k else O k ++ ⟨#[32]⟩) := (rfl : gapB (O k) = _)
          have hYs : wd.size = 5 → Y.size ≤ 7340038 := fun h5 => by
            have := gapB_size (O k)
            rw [← HY.out, ByteArray.size_append, h5]; omega
          have HWt : Hid (∀ t, t ≤ N → (wtB f Y t).size ≤ Y.size + t * 1048577) := fun t ht => wtB_size t fun i hi => hfs i (by omega)
          generalize hX : O k = X at *
          clear HOn hX
          have q1 : ¬ 9223372036854775807 < X.size + 1 := by omega
          have q2 : ¬ 9223372036854775807 < X.size + 5 := by omega
          have q3 : ¬ 9223372036854775807 < X.size + 1 + 5 := by omega
          have hfour : ((k = 0 ∧ (k : Int) = 0 ∧ wd = ⟨#[114, 101, 97, 99, 104]⟩) ∨ (k = 1 ∧ (k : Int) = 1 ∧ wd = ⟨#[97, 118, 111, 105, 100]⟩)) := by
            rcases hwd with ⟨rfl, h⟩ | ⟨rfl, h⟩
            · exact .inl ⟨rfl, rfl, h⟩
            · exact .inr ⟨rfl, rfl, h⟩
          clear hwd
          have hsplit : ((!X.toList.isEmpty) = false ∧ X ++ wd = Y) ∨ ((!X.toList.isEmpty) = true ∧ X ++ ⟨#[32]⟩ ++ wd = Y) := by
            rw [← HY.out, HGp.out]
            cases e : X.toList with
            | nil => left; exact ⟨rfl, by rw [if_pos (by simp)]⟩
            | cons x l => right; exact ⟨rfl, by rw [if_neg (by simp)]⟩
          clear HGp HY
          rcases hsplit with ⟨hE, hY⟩ | ⟨hE, hY⟩
          all_goals
            rcases hfour with ⟨rfl, _, rfl⟩ | ⟨rfl, _, rfl⟩
            all_goals
              have hY5 := hYs rfl
              have HYs : Hid (Y.size ≤ 7340038) := hY5
              have HY : Hid (_ = Y) := hY
              clear hYs hY5 hY
              go_wp2_with fail
              go_loopw [4, 38] (fun o i wr => ∃ t : Nat, t ≤ N ∧ i = .int .i64 (t : Int) ∧ o = .string (wtB f Y t) ∧ Hid (∀ i, i < t → isW (f i) = false) ∧ wr = W) (fun _ i _ => N - (intOf i).toNat)
              case atStart => exact ⟨0, Nat.zero_le _, rfl, by rw [HY.out]; rfl, fun i hi => absurd hi (Nat.not_lt_zero _), rfl⟩
              case round =>
                obtain ⟨t, ht, rfl, rfl, HPt, hw⟩ := hrel
                have hw' := hw.symm
                clear hw
                subst hw'
                by_cases hltt : t < N
                · obtain ⟨ab, ao, rfl, al, hcs⟩ := hSL (by omega)
                  have z1 := hcs t hltt
                  have hft := hfs t hltt
                  have hwt := HWt.out t ht
                  have hY9 := HYs.out
                  have t0 : (0 : Int) ≤ (t : Int) := by omega
                  have t1 : (t : Int) < (N : Int) := by omega
                  have HBt : Hid (isW (f t) = true → B = false ∧ S = ⟨#[]⟩) := HBk.out t hltt
                  have HPt2 : Hid (isW (f t) = false → ∀ i, i < t + 1 → isW (f i) = false) := fun h i hi => by
                    by_cases e : i = t
                    · subst e; exact h
                    · exact HPt.out i (by omega)
                  have HWn : Hid (wtB f Y (t + 1) = wtB f Y t ++ (⟨#[32]⟩ ++ f t)) := (rfl : wtB f Y (t + 1) = _)
                  have HIW : Hid (isW (f t) = ((f t).toList == [114, 101, 97, 99, 104] || (f t).toList == [97, 118, 111, 105, 100])) := (rfl : isW (f t) = _)
                  have hbig : (wtB f Y t).size ≤ 16777216 := by omega
                  clear hcs hSL HBk HPt HWt hfs hwt hY9 HYs HY HOk HPn
                  generalize isW (f t) = I at *
                  generalize f t = s at *
                  generalize wtB f Y t = Z at *
                  have r1 : ¬ 9223372036854775807 < 1 + s.size := by omega
                  have r2 : ¬ 9223372036854775807 < Z.size + (1 + s.size) := by omega
                  by_cases c1 : s.toList = [114, 101, 97, 99, 104]
                  · have hI : I = true := by rw [HIW.out, c1]; rfl
                    obtain ⟨rfl, rfl⟩ := HBt.out hI
                    clear HBt HPt2 HWn HIW
                    go_wp2
                    go_ret2
                    exact ⟨rfl, hB4⟩
                  · have d1 : (s.toList == [114, 101, 97, 99, 104]) = false := by simpa using c1
                    by_cases c2 : s.toList = [97, 118, 111, 105, 100]
                    · have hI : I = true := by rw [HIW.out, c2]; rfl
                      obtain ⟨rfl, rfl⟩ := HBt.out hI
                      clear HBt HPt2 HWn HIW
                      go_wp2
                      go_ret2
                      exact ⟨rfl, hB4⟩
                    · have d2 : (s.toList == [97, 118, 111, 105, 100]) = false := by simpa using c2
                      have hI : I = false := by rw [HIW.out, d1, d2]; rfl
                      have HP9 : Hid (∀ i, i < t + 1 → isW (f i) = false) := HPt2.out hI
                      clear HBt HPt2 HIW
                      go_wp2
                      exact ⟨⟨t + 1, by omega, by go_num, by rw [HWn.out], HP9, trivial⟩, by simp [intOf]; omega⟩
                · have etN : t = N := by omega
                  subst etN
                  have HP9 := HPn.out HPt.out
                  have HPx : Hid (∀ j i, j < _ → i < sel rn an j → isW (sel re av j i) = false) := HP9
                  clear HP9 HPn HPt HWt HBk
                  go_wp2
                  refine ⟨⟨_, ?_, ?_, by rw [HOk.out], HPx, trivial⟩, ?_⟩
                  · omega
                  · go_num
                  · simp [intOf]
      · have e2 : k = 2 := by omega
        subst e2
        have hTx : O 2 = txtB rn re an av := by rw [← HO.out, outB_two]
        have hBt := HGood.out fun k i hk hi => HPr.out k i hk hi
        rw [← hTx] at hBt HS hsz
        clear HGood HBad HNm HSL HC HPr hTx HO
        by_cases h200 : (O 2).size ≤ 200
        · have eB : B = true := by rw [hBt, decide_eq_true h200]
          have eS : S = O 2 := by rw [HS.out, if_pos eB]
          clear HS hBt
          subst eB eS
          have j : ¬ (200 : Int) < ((O 2).size : Int) := by omega
          go_wp2
          go_ret2
          exact ⟨rfl, hB4⟩
        · have eB : B = false := by rw [hBt, decide_eq_false h200]
          have eS : S = ⟨#[]⟩ := by rw [HS.out, if_neg (by rw [eB]; simp)]
          clear HS hBt
          subst eB eS
          have j : (200 : Int) < ((O 2).size : Int) := by omega
          go_wp2
          go_ret2
          exact ⟨rfl, hB4⟩
end Go.Proofs.YtmlfijapndkfhaaDoor
