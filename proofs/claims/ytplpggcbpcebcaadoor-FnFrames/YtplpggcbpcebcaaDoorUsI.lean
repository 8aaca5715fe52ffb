/- UnstuffBits as the program goes. -/
import Derived.Test.YtplpggcbpcebcaaDoorSfW
import Derived.Deep.Cut
namespace Go.Proofs.YtplpggcbpcebcaaDoor
open Go.RowKit
theorem usK_skip {f : Nat → Int} {k : Nat} {o : List Int} {l r : Int} (h : usK f k = some (o, l, r)) (h5 : r = 5) (hx : f k ≠ l) : usK f (k + 1) = some (o, f k, 1) := by
  rw [usK, h]; simp only [Option.bind_some]; rw [if_pos h5, if_neg hx]
theorem usK_fail {f : Nat → Int} {k : Nat} {o : List Int} {l r : Int} (h : usK f k = some (o, l, r)) (h5 : r = 5) (hx : f k = l) : usK f (k + 1) = none := by
  rw [usK, h]; simp only [Option.bind_some]; rw [if_pos h5, if_pos hx]
theorem usK_app {f : Nat → Int} {k : Nat} {o : List Int} {l r : Int} (h : usK f k = some (o, l, r)) (h5 : r ≠ 5) : usK f (k + 1) = some (o ++ [f k], f k, rnN l r (f k)) := by
  rw [usK, h]; simp only [Option.bind_some]; rw [if_neg h5]
/-- what is told -/
def uT (s : ByteArray) : ByteArray := match usV s with | some o => strOfNums o | none => ⟨#[]⟩
def uB (s : ByteArray) : Bool := (usV s).isSome
theorem uv_not {s : ByteArray} (h : bitB s = false) : uT s = ⟨#[]⟩ ∧ uB s = false := by
  have e : usV s = none := by unfold usV; rw [h]; rfl
  unfold uT uB; rw [e]; exact ⟨rfl, rfl⟩
theorem uv_fail {s : ByteArray} {k : Nat} (hk : k ≤ s.size) (h : usK (bt s) k = none) : uT s = ⟨#[]⟩ ∧ uB s = false := by
  have e : usV s = none := by unfold usV; rw [usK_none hk h]; split <;> rfl
  unfold uT uB; rw [e]; exact ⟨rfl, rfl⟩
theorem uv_full {s : ByteArray} {o : List Int} {l r : Int} (h : usK (bt s) s.size = some (o, l, r)) (h5 : r = 5) : uT s = ⟨#[]⟩ ∧ uB s = false := by
  have e : usV s = none := by unfold usV; rw [h]; simp only; rw [if_pos h5]; split <;> rfl
  unfold uT uB; rw [e]; exact ⟨rfl, rfl⟩
theorem uv_ok {s : ByteArray} {o : List Int} {l r : Int} (hb : bitB s = true) (h : usK (bt s) s.size = some (o, l, r)) (h5 : r ≠ 5) : uT s = strOfNums o ∧ uB s = true := by
  have e : usV s = some o := by unfold usV; rw [hb, if_pos rfl, h]; simp only; rw [if_neg h5]
  unfold uT uB; rw [e]; exact ⟨rfl, rfl⟩
set_option maxRecDepth 20000 in
set_option maxHeartbeats 4000000 in
theorem iUn (s : ByteArray) (w : World) (hs : s.size ≤ 1048576) :
    Calls Tryd.prog 14 #[.string s] w fun e w' => e = .returned (.tuple #[.string (uT s), .bool (uB s)]) ∧ Below w.heap.size w w' := by
  have kB := fun w2 => iBits s w2 hs
  cases hq : bitB s with
  | false =>
    rw [hq] at kB
    go_enter Tryd.func14, Tryd.ntmps14
    go_wp2_with fail
    refine (kB _).mono ?_
    rintro e w2 ⟨rfl, hb2⟩
    clear kB
    go_wp2
    go_ret2
    exact ⟨by rw [(uv_not hq).1, (uv_not hq).2]; rfl, hb2⟩
  | true =>
    rw [hq] at kB
    obtain ⟨h300, hbits⟩ := bitB_of hq
    have HB : Hid (∀ i, i < s.size → bt s i = 48 ∨ bt s i = 49) := hbits
    clear hbits
    obtain ⟨i0, hi, hzz⟩ := Option.map_eq_some_iff.1 infoB8
    simp only [Prod.mk.injEq] at hzz
    obtain ⟨hz0, hz1, hz2⟩ := hzz
    go_enter Tryd.func14, Tryd.ntmps14
    go_wp2_with fail
    refine (kB _).mono ?_
    rintro e wb ⟨rfl, hb2⟩
    clear kB
    obtain ⟨cc, w3, hcv, hsz, hb3, hcell⟩ := run_bytes s ((wb.alloc (.cells #[] 5)).alloc (.cells #[.int .u8 0, .int .i64 0] 47))
    simp only [size_al] at hcv hsz hb3 hcell
    have hst := sfs_new w wb w3 s hb2 hsz hb3 hcell
    clear hsz hb3 hcell hb2
    go_wp2
    clear hcv
    have HOK : Hid (∀ o l r, usK (bt s) s.size = some (o, l, r) → r ≠ 5 → uT s = strOfNums o ∧ uB s = true) := fun o l r h h5 => uv_ok hq h h5
    have HFU : Hid (∀ o l r, usK (bt s) s.size = some (o, l, r) → r = 5 → uT s = ⟨#[]⟩ ∧ uB s = false) := fun o l r h h5 => uv_full h h5
    have HFA : Hid (∀ k, k ≤ s.size → usK (bt s) k = none → uT s = ⟨#[]⟩ ∧ uB s = false) := fun k hk h => uv_fail hk h
    clear hq
    go_loopw [4, 16] (fun v i wr => ∃ (k : Nat) (o : List Int) (l r : Int), k ≤ s.size ∧ i = .int .i64 (k : Int) ∧ Hid (usK (bt s) k = some (o, l, r)) ∧ Hid (Sfs w wr (wb.heap.size + 1) (wb.heap.size + 1 + 1) s v o l r)) (fun _ i _ => s.size - (intOf i).toNat)
    case atStart => exact ⟨0, [], 0, 0, Nat.zero_le _, rfl, (rfl : usK (bt s) 0 = some ([], 0, 0)), hst⟩
    case round =>
      obtain ⟨k, O, L, Rr, hk, rfl, HU, HS⟩ := hrel
      clear hst
      have hbd := usK_bd HU.out
      have h0 := hbd.1
      have h1 := hbd.2.1
      have hln := hbd.2.2
      clear hbd
      by_cases hlt : k < s.size
      · have y0 := HS.out.yc k hlt
        have yb := HS.out.yb
        have i0' : (0 : Int) ≤ (k : Int) := by omega
        have i1' : (k : Int) < (s.size : Int) := by omega
        have HSK : Hid (Rr = 5 → bt s k ≠ L → usK (bt s) (k + 1) = some (O, bt s k, 1)) := fun h2 h3 => usK_skip HU.out h2 h3
        have HFL : Hid (Rr = 5 → bt s k = L → uT s = ⟨#[]⟩ ∧ uB s = false) := fun h2 h3 => HFA.out (k + 1) (by omega) (usK_fail HU.out h2 h3)
        have HAP : Hid (Rr ≠ 5 → usK (bt s) (k + 1) = some (O ++ [bt s k], bt s k, rnN L Rr (bt s k))) := fun h2 => usK_app HU.out h2
        have kF := full_any (wb.heap.size + 1) L Rr wr HS.out.rn
        have r0 := HS.out.rn.c0
        have rl := HS.out.rn.lt
        clear HU HFA HOK HFU
        generalize bt s k = X at *
        cases hf : (Rr == 5) with
        | true =>
          rw [hf] at kF
          obtain rfl : Rr = 5 := eq_of_beq hf
          by_cases hx : X = L
          · have HZ : Hid (uT s = ⟨#[]⟩ ∧ uB s = false) := HFL.out rfl hx
            subst hx
            have hbl := HS.out.bel
            clear HSK HFL HAP HS
            go_wp2_with fail
            refine kF.mono ?_
            rintro e w11 ⟨rfl, hw11⟩
            have hs11 := hw11.symm
            clear hw11
            subst hs11
            go_wp2
            go_ret2
            exact ⟨by rw [HZ.out.1, HZ.out.2]; rfl, hbl⟩
          · have HE : Hid (usK (bt s) (k + 1) = some (O, X, 1)) := HSK.out rfl hx
            have hx' : (X == L) = false := by simpa using hx
            have hN : rnN L 5 X = 1 := by unfold rnN; rw [if_neg hx]
            have kT := take_any (wb.heap.size + 1) L 5 X wr h0 h1 HS.out.rn
            rw [hN] at kT
            clear HSK HFL HAP hN hx
            go_wp2_with fail
            refine kF.mono ?_
            rintro e w11 ⟨rfl, hw11⟩
            have hs11 := hw11.symm
            clear hw11
            subst hs11
            go_wp2_with fail
            refine kF.mono ?_
            rintro e w11 ⟨rfl, hw11⟩
            have hs11 := hw11.symm
            clear hw11
            subst hs11
            go_wp2_with fail
            refine kT.mono ?_
            rintro e w14 ⟨rfl, hn14, ho14⟩
            have hs14 := HS.out.take hn14 ho14
            clear kT kF hn14 ho14 HS
            go_wp2
            exact ⟨⟨k + 1, O, X, 1, by omega, by go_num, HE, hs14⟩, by simp [intOf]; omega⟩
        | false =>
          rw [hf] at kF
          have HE : Hid (usK (bt s) (k + 1) = some (O ++ [X], X, rnN L Rr X)) := HAP.out (ne_of_beq_false hf)
          clear HSK HFL HAP
          generalize hN : rnN L Rr X = N at *
          have HN : Hid (rnN L Rr X = N) := hN
          clear hN
          go_wp2_with fail
          refine kF.mono ?_
          rintro e w11 ⟨rfl, hw11⟩
          have hs11 := hw11.symm
          clear hw11
          subst hs11
          go_wp2_with fail
          refine kF.mono ?_
          rintro e w11 ⟨rfl, hw11⟩
          have hs11 := hw11.symm
          clear hw11
          subst hs11
          clear kF
          have hbase : w.heap.size ≤ wr.heap.size := HS.out.bel.size
          have hown8 := HS.out.own
          unfold OwY at hown8
          go_wp2_with (at_builtin; refine wpList_append_own_at _ rfl _ _ 22 rfl w.heap.size 5 i0 (.int .u8 0) 1 1 Tryd.underlying22 hi hz0 hz1 hz2 rfl (by decide) _ _ _ rfl (World.ownsRow.alloc hown8 _) ⟨wr.heap.size, 0, none⟩ 1 1 [.int .u8 X] rfl rfl (cell_one_new _ _ _) (fun y hy => by simp at hy; subst hy; rfl) (by unfold maxLen; omega) (by omega) (by simp; omega) ?_; intro v2 w9 hown' hgrow' _ hat')
          have hs9 := HS.out.app hown' hgrow' hat'
          clear hown' hgrow' hat' hown8 hbase HS
          have kT := take_any (wb.heap.size + 1) L Rr X w9 h0 h1 hs9.rn
          rw [HN.out] at kT
          go_wp2_with fail
          refine kT.mono ?_
          rintro e w14 ⟨rfl, hn14, ho14⟩
          have hs14 := hs9.take hn14 ho14
          clear kT hn14 ho14 hs9
          go_wp2
          exact ⟨⟨k + 1, O ++ [X], X, N, by omega, by go_num, HE, hs14⟩, by simp [intOf]; omega⟩
      · have hke : k = s.size := by omega
        subst hke
        have i1' : ¬ (s.size : Int) < (s.size : Int) := by omega
        obtain ⟨a9, c9, rfl⟩ := HS.out.own.shape
        have htx := HS.out.own.text
        have hbl := HS.out.bel
        have kF := full_any (wb.heap.size + 1) L Rr wr HS.out.rn
        clear HS
        cases hf : (Rr == 5) with
        | true =>
          rw [hf] at kF
          have HZ : Hid (uT s = ⟨#[]⟩ ∧ uB s = false) := HFU.out O L Rr HU.out (eq_of_beq hf)
          clear HOK HFU HFA HU
          go_wp2_with fail
          refine kF.mono ?_
          rintro e w11 ⟨rfl, hw11⟩
          have hs11 := hw11.symm
          clear hw11
          subst hs11
          go_wp2
          go_ret2
          exact ⟨by rw [HZ.out.1, HZ.out.2]; rfl, hbl⟩
        | false =>
          rw [hf] at kF
          have HZ : Hid (uT s = strOfNums O ∧ uB s = true) := HOK.out O L Rr HU.out (ne_of_beq_false hf)
          clear HOK HFU HFA HU
          go_wp2_with fail
          refine kF.mono ?_
          rintro e w11 ⟨rfl, hw11⟩
          have hs11 := hw11.symm
          clear hw11
          subst hs11
          go_wp2
          go_ret2
          exact ⟨by rw [HZ.out.1, HZ.out.2]; rfl, hbl⟩
end Go.Proofs.YtplpggcbpcebcaaDoor
