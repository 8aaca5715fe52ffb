/- (as UsS, beside SfG)  UnstuffBits as the model goes. -/
import Derived.Test.YtplpggcbpcebcaaDoorUsI
import Derived.Test.YtplpggcbpcebcaaDoorSfG
namespace Go.Proofs.YtplpggcbpcebcaaDoor
open Go.RowKit
set_option maxRecDepth 20000 in
set_option maxHeartbeats 4000000 in
theorem sUn (s : ByteArray) (w : World) (hs : s.size ≤ 1048576) :
    Calls Tryd.prog 41 #[.string s] w fun e w' => e = .returned (.tuple #[.string (uT s), .bool (uB s)]) ∧ Below w.heap.size w w' := by
  have kB := fun w2 => sBits s w2 hs
  cases hq : bitB s with
  | false =>
    rw [hq] at kB
    go_enter Tryd.func41, Tryd.ntmps41
    go_wp2_with fail
    refine (kB _).mono ?_
    rintro e w2 ⟨rfl, hw2⟩
    have hs2 := hw2.symm
    clear hw2 kB
    subst hs2
    go_wp2
    go_ret2
    exact ⟨by rw [(uv_not hq).1, (uv_not hq).2]; rfl, Below.refl _ _⟩
  | true =>
    rw [hq] at kB
    have h300 := (bitB_of hq).1
    have hix := fun i hi w => ix_bt (P := Tryd.prog) Tryd.underlying9 s i hi w
    obtain ⟨i0, hi, hzz⟩ := Option.map_eq_some_iff.1 infoB8
    simp only [Prod.mk.injEq] at hzz
    obtain ⟨hz0, hz1, hz2⟩ := hzz
    obtain ⟨wm, hmk, hst⟩ := sg_make w s.size hs
    have HOK : Hid (∀ o l r, usK (bt s) s.size = some (o, l, r) → r ≠ 5 → uT s = strOfNums o ∧ uB s = true) := fun o l r h h5 => uv_ok hq h h5
    have HFU : Hid (∀ o l r, usK (bt s) s.size = some (o, l, r) → r = 5 → uT s = ⟨#[]⟩ ∧ uB s = false) := fun o l r h h5 => uv_full h h5
    have HFA : Hid (∀ k, k ≤ s.size → usK (bt s) k = none → uT s = ⟨#[]⟩ ∧ uB s = false) := fun k hk h => uv_fail hk h
    clear hq
    go_enter Tryd.func41, Tryd.ntmps41
    go_wp2_with fail
    refine (kB _).mono ?_
    rintro e w2 ⟨rfl, hw2⟩
    have hs2 := hw2.symm
    clear hw2 kB
    subst hs2
    go_wp2
    clear hmk
    go_loopw [4, 5, 6, 7] (fun v rr ll i wr => ∃ (k : Nat) (o : List Int) (l r : Int), k ≤ s.size ∧ i = .int .i64 (k : Int) ∧ rr = .int .i64 r ∧ ll = .int .u8 l ∧ Hid (usK (bt s) k = some (o, l, r)) ∧ Hid (Sg w wr v o)) (fun _ _ _ i _ => s.size - (intOf i).toNat)
    case atStart => exact ⟨0, [], 0, 0, Nat.zero_le _, rfl, rfl, rfl, (rfl : usK (bt s) 0 = some ([], 0, 0)), hst⟩
    case round =>
      obtain ⟨k, O, L, Rr, hk, rfl, rfl, rfl, HU, HS⟩ := hrel
      clear hst
      have hbd := usK_bd HU.out
      have h0 := hbd.1
      have h1 := hbd.2.1
      have hln := hbd.2.2
      clear hbd
      by_cases hlt : k < s.size
      · have x0 := hix k hlt
        have i0' : (0 : Int) ≤ (k : Int) := by omega
        have i1' : (k : Int) < (s.size : Int) := by omega
        have HSK : Hid (Rr = 5 → bt s k ≠ L → usK (bt s) (k + 1) = some (O, bt s k, 1)) := fun h2 h3 => usK_skip HU.out h2 h3
        have HFL : Hid (Rr = 5 → bt s k = L → uT s = ⟨#[]⟩ ∧ uB s = false) := fun h2 h3 => HFA.out (k + 1) (by omega) (usK_fail HU.out h2 h3)
        have HAP : Hid (Rr ≠ 5 → usK (bt s) (k + 1) = some (O ++ [bt s k], bt s k, rnN L Rr (bt s k))) := fun h2 => usK_app HU.out h2
        clear HU HFA HOK HFU hix
        generalize bt s k = X at *
        cases hf : (Rr == 5) with
        | true =>
          obtain rfl : Rr = 5 := eq_of_beq hf
          by_cases hx : X = L
          · have HZ : Hid (uT s = ⟨#[]⟩ ∧ uB s = false) := HFL.out rfl hx
            subst hx
            have hbl := HS.out.bel
            clear HSK HFL HAP HS
            go_wp2
            go_ret2
            exact ⟨by rw [HZ.out.1, HZ.out.2]; rfl, hbl⟩
          · have HE : Hid (usK (bt s) (k + 1) = some (O, X, 1)) := HSK.out rfl hx
            have hx' : (X == L) = false := by simpa using hx
            clear HSK HFL HAP hx
            go_wp2
            exact ⟨⟨k + 1, O, X, 1, by omega, by go_num, rfl, rfl, HE, HS⟩, by simp [intOf]; omega⟩
        | false =>
          have hn5 := ne_of_beq_false hf
          have HE : Hid (usK (bt s) (k + 1) = some (O ++ [X], X, rnN L Rr X)) := HAP.out hn5
          clear HSK HFL HAP
          by_cases hx : X = L
          · subst hx
            have hN : rnN X Rr X = Rr + 1 := by unfold rnN; rw [if_pos rfl]
            rw [hN] at HE
            clear hN
            have hbase : w.heap.size ≤ wr.heap.size := HS.out.bel.size
            have hown8 := HS.out.own
            unfold OwY at hown8
            go_wp2_with (at_builtin; refine wpList_append_own_at _ rfl _ _ 22 rfl w.heap.size 5 i0 (.int .u8 0) 1 1 Tryd.underlying22 hi hz0 hz1 hz2 rfl (by decide) _ _ _ rfl (World.ownsRow.alloc hown8 _) ⟨wr.heap.size, 0, none⟩ 1 1 [.int .u8 X] rfl rfl (cell_one_new _ _ _) (fun y hy => by simp at hy; subst hy; rfl) (by unfold maxLen; omega) (by omega) (by simp; omega) ?_; intro v2 w9 hown' hgrow' _ hat')
            have hs9 := HS.out.app hown' hgrow' hat'
            clear hown' hgrow' hat' hown8 hbase HS
            exact ⟨⟨k + 1, O ++ [X], X, Rr + 1, by omega, by go_num, rfl, rfl, HE, hs9⟩, by simp [intOf]; omega⟩
          · have hN : rnN L Rr X = 1 := by unfold rnN; rw [if_neg hx]
            have hx' : (X == L) = false := by simpa using hx
            rw [hN] at HE
            clear hN hx
            have hbase : w.heap.size ≤ wr.heap.size := HS.out.bel.size
            have hown8 := HS.out.own
            unfold OwY at hown8
            go_wp2_with (at_builtin; refine wpList_append_own_at _ rfl _ _ 22 rfl w.heap.size 5 i0 (.int .u8 0) 1 1 Tryd.underlying22 hi hz0 hz1 hz2 rfl (by decide) _ _ _ rfl (World.ownsRow.alloc hown8 _) ⟨wr.heap.size, 0, none⟩ 1 1 [.int .u8 X] rfl rfl (cell_one_new _ _ _) (fun y hy => by simp at hy; subst hy; rfl) (by unfold maxLen; omega) (by omega) (by simp; omega) ?_; intro v2 w9 hown' hgrow' _ hat')
            have hs9 := HS.out.app hown' hgrow' hat'
            clear hown' hgrow' hat' hown8 hbase HS
            exact ⟨⟨k + 1, O ++ [X], X, 1, by omega, by go_num, rfl, rfl, HE, hs9⟩, by simp [intOf]; omega⟩
      · have hke : k = s.size := by omega
        subst hke
        have i1' : ¬ (s.size : Int) < (s.size : Int) := by omega
        obtain ⟨a9, c9, rfl⟩ := HS.out.own.shape
        have htx := HS.out.own.text
        have hbl := HS.out.bel
        clear HS hix
        cases hf : (Rr == 5) with
        | true =>
          have HZ : Hid (uT s = ⟨#[]⟩ ∧ uB s = false) := HFU.out O L Rr HU.out (eq_of_beq hf)
          clear HOK HFU HFA HU
          go_wp2
          go_ret2
          exact ⟨by rw [HZ.out.1, HZ.out.2]; rfl, hbl⟩
        | false =>
          have HZ : Hid (uT s = strOfNums O ∧ uB s = true) := HOK.out O L Rr HU.out (ne_of_beq_false hf)
          clear HOK HFU HFA HU
          go_wp2
          go_ret2
          exact ⟨by rw [HZ.out.1, HZ.out.2]; rfl, hbl⟩
end Go.Proofs.YtplpggcbpcebcaaDoor
