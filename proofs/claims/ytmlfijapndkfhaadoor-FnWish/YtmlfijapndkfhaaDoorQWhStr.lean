/- The program's look at the runes of a name. -/
import Derived.Test.YtmlfijapndkfhaaDoorQWhDec
import Derived.Test.YtmlfijapndkfhaaDoorQU8Shelf
import Derived.Test.YtmlfijapndkfhaaDoorQWhIn
import Derived.Lib.RuneCountTail
import Derived.Lib.OthersKept
import Derived.Lib.TrimU
namespace Go.Proofs.YtmlfijapndkfhaaDoor
open Go.RowKit
set_option maxHeartbeats 2000000 in
theorem iInN (r : Int) (w : World) (h0 : 0 ≤ r) (h1 : r ≤ 1114111) : Calls Tryd.prog 64 #[.int .i32 r] w fun e w' => e = .returned (.bool (inN r)) ∧ w' = w := by
  by_cases c9 : 128 ≤ r
  · have hr : inN r = true := by unfold inN; simp [c9]
    rw [hr]
    clear hr
    go_enter Tryd.func64, Tryd.ntmps64
    go_wp2
    go_ret
    exact ⟨rfl, rfl⟩
  by_cases c0 : 97 ≤ r
  · by_cases c1 : r ≤ 122
    · have hr : inN r = true := by unfold inN letB; simp <;> omega
      rw [hr]
      clear hr
      go_enter Tryd.func64, Tryd.ntmps64
      go_wp2
      go_ret
      exact ⟨rfl, rfl⟩
    · have c2 : ¬ r ≤ 90 := by omega
      have c3 : 65 ≤ r := by omega
      have hr : inN r = false := by unfold inN letB; simp <;> omega
      rw [hr]
      clear hr
      go_enter Tryd.func64, Tryd.ntmps64
      go_wp2
      go_ret
      exact ⟨rfl, rfl⟩
  · by_cases c1 : 65 ≤ r
    · by_cases c2 : r ≤ 90
      · have hr : inN r = true := by unfold inN letB; simp <;> omega
        rw [hr]
        clear hr
        go_enter Tryd.func64, Tryd.ntmps64
        go_wp2
        go_ret
        exact ⟨rfl, rfl⟩
      · have hr : inN r = false := by unfold inN letB; simp <;> omega
        rw [hr]
        clear hr
        go_enter Tryd.func64, Tryd.ntmps64
        go_wp2
        go_ret
        exact ⟨rfl, rfl⟩
    · have hr : inN r = false := by unfold inN letB; simp <;> omega
      rw [hr]
      clear hr
      go_enter Tryd.func64, Tryd.ntmps64
      go_wp2
      go_ret
      exact ⟨rfl, rfl⟩
theorem oddR_sign (f : Nat → Int) (n : Nat) : ∀ q i r, (oddR f n q i r).1 = -1 ∨ 0 ≤ (oddR f n q i r).1 := by
  intro q
  induction q with
  | zero => intro i r; exact .inl rfl
  | succ q ih =>
    intro i r
    unfold oddR
    split
    · split
      · exact .inr (by simp only; omega)
      · exact ih _ _
    · exact .inl rfl
theorem oddU_sign (f : Nat → Int) (n i r : Nat) : (oddU f n i r).1 = -1 ∨ 0 ≤ (oddU f n i r).1 := oddR_sign f n _ i r
theorem dec_tail (s : ByteArray) (i : Nat) (hi : i < s.size) : Lib.decodeGo (s.extract i s.size) = Utf8.decode s i := by
  unfold Lib.decodeGo
  rw [Lib.tail_size, if_neg (by omega), Lib.tail_decode, Nat.add_zero]
set_option maxHeartbeats 4000000 in
theorem iStray (s : ByteArray) (w : World) (hT : U8 w) :
    Calls Tryd.prog 45 #[.string s] w fun e w' => e = .returned (.int .i64 (oddU (bt s) s.size 0 0).1) ∧ Below w.heap.size w w' := by
  have HT : Hid (U8 w) := hT
  clear hT
  go_enter Tryd.func45, Tryd.ntmps45
  go_wp2
  go_loopg [] s.size (fun gf wx => ∃ pos r : Nat, wx.heap[w.heap.size]? = some (.stringIter s pos) ∧ Hid (Below w.heap.size w wx) ∧ Hid (oddU (bt s) s.size pos r = oddU (bt s) s.size 0 0) ∧ s.size ≤ pos + gf)
  case atStart => exact ⟨0, 0, World.iter_heap w s 0, ((Below.refl _ w).alloc (Nat.le_refl _) _ : Below w.heap.size w (w.iter s 0)), (rfl : oddU (bt s) s.size 0 0 = _), by omega⟩
  case round =>
    obtain ⟨pos, r, hit, HB, HE, hfu⟩ := hrel
    by_cases hps : pos < s.size
    · obtain ⟨g', rfl⟩ : ∃ g', gk = g' + 1 := ⟨gk - 1, by omega⟩
      have hnx : ∀ ty, (Instr.next (.pointer (some ⟨w.heap.size, 0, none⟩)) true ty).run Tryd.prog wr = _ := fun ty => Lib.run_next_any_at wr w.heap.size s pos ty hit hps
      have hwd := Lib.width_pos s pos
      have hrl := Lib.rune_le s pos
      have hst := odd_step s pos hps
      have HO : Hid (odB (bt s) s.size pos = true → oddU (bt s) s.size 0 0 = ((pos : Int), 0)) := fun h => HE.out.symm.trans (oddU_odd hps h)
      have HG : Hid (odB (bt s) s.size pos = false → oddU (bt s) s.size (pos + rnK (bt s) s.size pos) (r + 1) = oddU (bt s) s.size 0 0) := fun h => (oddU_go hps h).symm.trans HE.out
      have hd := dec_tail s pos hps
      have kD := fun w2 h => u8_dec (s.extract pos s.size) w2 h
      rw [hd] at kD
      clear HE hd
      obtain ⟨R, hR⟩ : ∃ R, (Utf8.decode s pos).1 = R := ⟨_, rfl⟩
      obtain ⟨K, hK⟩ : ∃ K, (Utf8.decode s pos).2 = K := ⟨_, rfl⟩
      rw [hR, hK] at hnx kD
      rw [hK] at hwd
      rw [hR] at hrl
      rw [hR, hK] at hst
      clear hR hK
      have hit2 := Lib.iterAt_heap wr w.heap.size s pos (pos + K) hit
      have HB2 : Hid (Below w.heap.size w (wr.iterAt w.heap.size s (pos + K))) := Lib.below_iterAt HB.out (k := w.heap.size) (Nat.le_refl _) s (pos + K)
      obtain ⟨W, hWd⟩ : ∃ W, wr.iterAt w.heap.size s (pos + K) = W := ⟨_, rfl⟩
      rw [hWd] at hnx hit2 HB2
      clear hWd HB hit
      have hltW : w.heap.size < W.heap.size := (Array.getElem?_eq_some_iff.1 hit2).1
      have j0 : (0 : Int) ≤ (pos : Int) := by omega
      have j1 : (pos : Int) ≤ (s.size : Int) := by omega
      have kI := fun w2 => iInN (R : Int) w2 (by omega) (by omega)
      generalize rnK (bt s) s.size pos = N at *
      generalize odB (bt s) s.size pos = O at *
      cases hi : inN (R : Int) with
      | false =>
        rw [hi] at kI
        have HR : Hid (oddU (bt s) s.size 0 0 = ((pos : Int), 0)) := HO.out (by rw [hst.1, hi]; rfl)
        clear HO HG hst hi kD
        go_wp2_with fail
        refine (kI _).mono ?_
        rintro e w2 ⟨rfl, hw2⟩
        have hs2 := hw2.symm
        clear hw2
        subst hs2
        go_wp2
        go_ret
        exact ⟨by rw [HR.out]; rfl, HB2.out⟩
      | true =>
        rw [hi] at kI
        go_wp2_with fail
        refine (kI _).mono ?_
        rintro e w2 ⟨rfl, hw2⟩
        have hs2 := hw2.symm
        clear hw2
        subst hs2
        go_wp2_with fail
        refine (kD _ (HT.out.below HB2.out)).mono ?_
        rintro e w2 ⟨rfl, hb2⟩
        have HB3 : Hid (Below w.heap.size w w2) := HB2.out.trans (hb2.mono HB2.out.size)
        have hit3 := (hb2.block _ hltW).trans hit2
        clear kD kI hb2 HB2 hnx hit2
        cases c1 : ((R : Int) == 65533) with
        | false =>
          have ho : O = false := by
            rw [hst.1, hi, decide_eq_false (by have := ne_of_beq_false c1; omega : ¬ R = 65533)]; rfl
          have HR : Hid (oddU (bt s) s.size (pos + K) (r + 1) = oddU (bt s) s.size 0 0) := by
            have := HG.out ho
            rw [hst.2 ho] at this
            exact this
          clear HO HG hst hi ho
          go_wp2
          go_roundg g'
          case measure => omega
          case rel => exact ⟨pos + K, r + 1, hit3, HB3, HR, by omega⟩
        | true =>
          have c1' : R = 65533 := by
            have := eq_of_beq c1
            omega
          cases c2 : ((K : Int) == 1) with
          | true =>
            have ho : O = true := by
              have : K = 1 := by
                have := eq_of_beq c2
                omega
              rw [hst.1, hi, decide_eq_true c1', decide_eq_true this]; rfl
            have HR : Hid (oddU (bt s) s.size 0 0 = ((pos : Int), 0)) := HO.out ho
            clear HO HG hst hi ho c1'
            go_wp2
            go_ret
            exact ⟨by rw [HR.out]; rfl, HB3.out⟩
          | false =>
            have ho : O = false := by
              have : ¬ K = 1 := by
                intro h
                subst h
                cases c2
              rw [hst.1, hi, decide_eq_true c1', decide_eq_false this]; rfl
            have HR : Hid (oddU (bt s) s.size (pos + K) (r + 1) = oddU (bt s) s.size 0 0) := by
              have := HG.out ho
              rw [hst.2 ho] at this
              exact this
            clear HO HG hst hi ho c1'
            go_wp2
            go_roundg g'
            case measure => omega
            case rel => exact ⟨pos + K, r + 1, hit3, HB3, HR, by omega⟩
    · have hnx : ∀ ty, (Instr.next (.pointer (some ⟨w.heap.size, 0, none⟩)) true ty).run Tryd.prog wr = _ := fun ty => Lib.run_next_end_at wr w.heap.size s pos ty hit hps
      have HR : Hid (oddU (bt s) s.size 0 0 = (-1, (r : Int))) := HE.out.symm.trans (oddU_end hps)
      clear HE
      go_wp2
      go_ret
      exact ⟨by rw [HR.out]; rfl, HB.out⟩
set_option maxHeartbeats 2000000 in
theorem iName (s : ByteArray) (w : World) (hs : s.size ≤ 1048576) (hT : U8 w) :
    Calls Tryd.prog 58 #[.string s] w fun e w' => e = .returned (.bool (nameB (bt s) s.size)) ∧ Below w.heap.size w w' := by
  rw [name_count]
  have kC := fun w2 => u8_count s w2 hs
  have kS := fun w2 (h : U8 w2) => iStray s w2 h
  have HT : Hid (U8 w) := hT
  have hA := oddU_sign (bt s) s.size 0 0
  clear hT
  generalize (oddU (bt s) s.size 0 0).1 = A at *
  generalize Lib.runeCount s = C at *
  by_cases h0 : s.size = 0
  · have hne : s.toList.isEmpty = true := by
      rw [Lib.toList_data]
      have : s.data.toList = [] := List.eq_nil_of_length_eq_zero (by rw [← Lib.size_eq]; exact h0)
      rw [this]; rfl
    rw [decide_eq_false (by omega : ¬ s.size ≠ 0)]
    go_enter Tryd.func58, Tryd.ntmps58
    go_wp2_with fail
    go_ret
    exact ⟨rfl, Below.refl _ _⟩
  · have hne : s.toList.isEmpty = false := by
      rw [Lib.toList_data]
      cases h : s.data.toList with
      | nil => exact absurd (by rw [Lib.size_eq, h]; rfl) h0
      | cons _ _ => rfl
    rw [decide_eq_true (p := s.size ≠ 0) h0]
    by_cases h1 : (C : Int) ≤ 12
    · rw [decide_eq_true h1]
      cases h2 : (A == -1) with
      | true =>
        have : A = -1 := eq_of_beq h2
        subst this
        go_enter Tryd.func58, Tryd.ntmps58
        go_wp2_with fail
        refine (kC _).mono ?_
        rintro e w2 ⟨rfl, hb2⟩
        go_wp2_with fail
        refine (kS _ (HT.out.below hb2)).mono ?_
        rintro e w3 ⟨rfl, hb3⟩
        go_wp2_with fail
        go_ret
        exact ⟨rfl, hb2.trans (hb3.mono hb2.size)⟩
      | false =>
        rw [decide_eq_false (by have := ne_of_beq_false h2; omega : ¬ A < 0)]
        clear hA
        go_enter Tryd.func58, Tryd.ntmps58
        go_wp2_with fail
        refine (kC _).mono ?_
        rintro e w2 ⟨rfl, hb2⟩
        go_wp2_with fail
        refine (kS _ (HT.out.below hb2)).mono ?_
        rintro e w3 ⟨rfl, hb3⟩
        go_wp2_with fail
        go_ret
        exact ⟨rfl, hb2.trans (hb3.mono hb2.size)⟩
    · rw [decide_eq_false h1]
      go_enter Tryd.func58, Tryd.ntmps58
      go_wp2_with fail
      refine (kC _).mono ?_
      rintro e w2 ⟨rfl, hb2⟩
      go_wp2_with fail
      go_ret
      exact ⟨rfl, hb2⟩
end Go.Proofs.YtmlfijapndkfhaaDoor
