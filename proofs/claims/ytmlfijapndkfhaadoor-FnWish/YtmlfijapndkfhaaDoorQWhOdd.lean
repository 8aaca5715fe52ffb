/- What may not stand in a token, and names, as the model looks at them. -/
import Derived.Test.YtmlfijapndkfhaaDoorQWhRun
namespace Go.Proofs.YtmlfijapndkfhaaDoor
open Go.RowKit
set_option maxRecDepth 20000 in
set_option maxHeartbeats 4000000 in
theorem sOdd (s : ByteArray) (w : World) (hs : s.size ≤ 1048576) :
    Calls Tryd.prog 30 #[.string s] w fun e w' => e = .returned (.tuple #[.int .i64 (oddU (bt s) s.size 0 0).1, .int .i64 (oddU (bt s) s.size 0 0).2]) ∧ w' = w := by
  have kR := fun i w (hi : i < s.size) => sRune s i w hi hs
  have kL := fun b w h0 h1 => sLetter b w h0 h1
  go_enter Tryd.func30, Tryd.ntmps30
  go_wp2_with fail
  go_loopw [4, 5] (fun v4 v5 wr => ∃ i r : Nat, v5 = .int .i64 (i : Int) ∧ v4 = .int .i64 (r : Int) ∧ i ≤ s.size + 4 ∧ r ≤ i ∧ Hid (oddU (bt s) s.size i r = oddU (bt s) s.size 0 0) ∧ wr = w) (fun _ v _ => s.size + 4 - (intOf v).toNat)
  case atStart => exact ⟨0, 0, rfl, rfl, by omega, by omega, (rfl : oddU (bt s) s.size 0 0 = _), rfl⟩
  case round =>
    obtain ⟨i, r, rfl, rfl, hi, hr, HE, hw⟩ := hrel
    have hw' := hw.symm
    clear hw
    subst hw'
    by_cases hlt : i < s.size
    · have j0 : (0 : Int) ≤ (i : Int) := by omega
      have j1 : (i : Int) < (s.size : Int) := by omega
      have kR2 := kR i w hlt
      have hix := fun w => ix_bt (P := Tryd.prog) Tryd.underlying9 s i hlt w
      have hb := bt_bd s i
      have kL2 := fun w => kL (bt s i) w hb.1 hb.2
      have h4 := rnK_le (bt s) s.size i
      have HO : Hid (odB (bt s) s.size i = true → oddU (bt s) s.size 0 0 = ((i : Int), 0)) := fun h => HE.out.symm.trans (oddU_odd hlt h)
      have HG : Hid (odB (bt s) s.size i = false → oddU (bt s) s.size (i + rnK (bt s) s.size i) (r + 1) = oddU (bt s) s.size 0 0) := fun h => (oddU_go hlt h).symm.trans HE.out
      have HD : Hid (odB (bt s) s.size i = (decide (rnK (bt s) s.size i = 0) || (decide (rnK (bt s) s.size i = 1) && !(letB (bt s i))))) := rfl
      clear kR kL HE hb
      generalize odB (bt s) s.size i = O at *
      generalize rnK (bt s) s.size i = n at *
      by_cases n0 : n = 0
      · subst n0
        have HR : Hid (oddU (bt s) s.size 0 0 = ((i : Int), 0)) := HO.out (by rw [HD.out]; simp)
        clear HO HG HD kL2 hix
        go_wp2_with fail
        refine kR2.mono ?_
        rintro e w2 ⟨rfl, hw2⟩
        have hs2 := hw2.symm
        clear hw2 kR2
        subst hs2
        go_wp2
        go_ret2
        exact ⟨by rw [HR.out]; rfl, rfl⟩
      have n0' : ((n : Int) == 0) = false := by simpa using n0
      by_cases n1 : n = 1
      · subst n1
        generalize letB (bt s i) = B at *
        generalize bt s i = b at *
        cases B with
        | false =>
          have HR : Hid (oddU (bt s) s.size 0 0 = ((i : Int), 0)) := HO.out (by rw [HD.out]; simp)
          clear HO HG HD
          go_wp2_with fail
          refine kR2.mono ?_
          rintro e w2 ⟨rfl, hw2⟩
          have hs2 := hw2.symm
          clear hw2 kR2
          subst hs2
          go_wp2_with fail
          refine (kL2 _).mono ?_
          rintro e w2 ⟨rfl, hw2⟩
          have hs2 := hw2.symm
          clear hw2 kL2
          subst hs2
          go_wp2
          go_ret2
          exact ⟨by rw [HR.out]; rfl, rfl⟩
        | true =>
          have HR : Hid (oddU (bt s) s.size (i + 1) (r + 1) = oddU (bt s) s.size 0 0) := HG.out (by rw [HD.out]; simp)
          clear HO HG HD
          go_wp2_with fail
          refine kR2.mono ?_
          rintro e w2 ⟨rfl, hw2⟩
          have hs2 := hw2.symm
          clear hw2 kR2
          subst hs2
          go_wp2_with fail
          refine (kL2 _).mono ?_
          rintro e w2 ⟨rfl, hw2⟩
          have hs2 := hw2.symm
          clear hw2 kL2
          subst hs2
          go_wp2
          exact ⟨⟨i + 1, r + 1, by go_num, by go_num, by omega, by omega, HR, trivial⟩, by simp [intOf]; omega⟩
      · have n1' : ((n : Int) == 1) = false := by simp; omega
        have HR : Hid (oddU (bt s) s.size (i + n) (r + 1) = oddU (bt s) s.size 0 0) := HG.out (by rw [HD.out]; simp [n0, n1])
        clear HO HG HD kL2 hix
        go_wp2_with fail
        refine kR2.mono ?_
        rintro e w2 ⟨rfl, hw2⟩
        have hs2 := hw2.symm
        clear hw2 kR2
        subst hs2
        go_wp2
        exact ⟨⟨i + n, r + 1, by go_num, by go_num, by omega, by omega, HR, trivial⟩, by simp [intOf]; omega⟩
    · have HR : Hid (oddU (bt s) s.size 0 0 = (-1, (r : Int))) := HE.out.symm.trans (oddU_end hlt)
      have jn : ¬ (i : Int) < (s.size : Int) := by omega
      clear HE kR kL
      go_wp2
      go_ret2
      exact ⟨by rw [HR.out]; rfl, rfl⟩
set_option maxHeartbeats 1000000 in
theorem sName (s : ByteArray) (w : World) (hs : s.size ≤ 1048576) :
    Calls Tryd.prog 63 #[.string s] w fun e w' => e = .returned (.bool (nameB (bt s) s.size)) ∧ w' = w := by
  have kO := fun w => sOdd s w hs
  unfold nameB
  generalize (oddU (bt s) s.size 0 0).1 = A at *
  generalize (oddU (bt s) s.size 0 0).2 = B at *
  by_cases h0 : A < 0
  · by_cases h1 : 1 ≤ B
    · by_cases h2 : B ≤ 12
      · rw [decide_eq_true h0, decide_eq_true h1, decide_eq_true h2]
        go_enter Tryd.func63, Tryd.ntmps63
        go_wp2_with fail
        refine (kO _).mono ?_
        rintro e w2 ⟨rfl, hw2⟩
        have hs2 := hw2.symm
        clear hw2 kO
        subst hs2
        go_wp2
        go_ret
        exact ⟨rfl, rfl⟩
      · rw [decide_eq_true h0, decide_eq_true h1]
        go_enter Tryd.func63, Tryd.ntmps63
        go_wp2_with fail
        refine (kO _).mono ?_
        rintro e w2 ⟨rfl, hw2⟩
        have hs2 := hw2.symm
        clear hw2 kO
        subst hs2
        go_wp2
        go_ret
        exact ⟨rfl, rfl⟩
    · rw [decide_eq_true h0, decide_eq_false h1]
      go_enter Tryd.func63, Tryd.ntmps63
      go_wp2_with fail
      refine (kO _).mono ?_
      rintro e w2 ⟨rfl, hw2⟩
      have hs2 := hw2.symm
      clear hw2 kO
      subst hs2
      go_wp2
      go_ret
      exact ⟨rfl, rfl⟩
  · rw [decide_eq_false h0]
    go_enter Tryd.func63, Tryd.ntmps63
    go_wp2_with fail
    refine (kO _).mono ?_
    rintro e w2 ⟨rfl, hw2⟩
    have hs2 := hw2.symm
    clear hw2 kO
    subst hs2
    go_wp2
    go_ret
    exact ⟨rfl, rfl⟩
end Go.Proofs.YtmlfijapndkfhaaDoor
