/- StuffBits as the program goes. -/
import Derived.Test.YtplpggcbpcebcaaDoorSfW
import Derived.Test.YtplpggcbpcebcaaDoorSfO
namespace Go.Proofs.YtplpggcbpcebcaaDoor
open Go.RowKit
theorem sfK_go (f : Nat → Int) (k : Nat) (h : (rnN (sfK f k).2.1 (sfK f k).2.2 (f k) == 5) = false) : sfK f (k + 1) = ((sfK f k).1 ++ [f k], f k, rnN (sfK f k).2.1 (sfK f k).2.2 (f k)) := by
  rw [sfK, if_neg (ne_of_beq_false h)]
theorem sfK_put (f : Nat → Int) (k : Nat) (h : (rnN (sfK f k).2.1 (sfK f k).2.2 (f k) == 5) = true) : sfK f (k + 1) = ((sfK f k).1 ++ [f k] ++ [97 - f k], 97 - f k, 1) := by
  rw [sfK, if_pos (eq_of_beq h)]
theorem rnN_bd (l r x : Int) (h0 : 0 ≤ r) (h1 : r ≤ 4) : 0 ≤ rnN l r x ∧ rnN l r x ≤ 5 := by unfold rnN; split <;> omega
theorem rnN_other (r x : Int) : rnN x r (97 - x) = 1 := by unfold rnN; rw [if_neg (by omega)]
set_option maxRecDepth 20000 in
set_option maxHeartbeats 4000000 in
theorem iStuff (s : ByteArray) (w : World) (hs : s.size ≤ 1048576) :
    Calls Tryd.prog 13 #[.string s] w fun e w' => e = .returned (.tuple #[.string (if bitB s = true then strOfNums (sfK (bt s) s.size).1 else ⟨#[]⟩), .bool (bitB s)]) ∧ Below w.heap.size w w' := by
  have kB := fun w2 => iBits s w2 hs
  cases hq : bitB s with
  | false =>
    rw [hq] at kB
    go_enter Tryd.func13, Tryd.ntmps13
    go_wp2_with fail
    refine (kB _).mono ?_
    rintro e w2 ⟨rfl, hb2⟩
    clear kB
    go_wp2
    go_ret2
    exact ⟨rfl, hb2⟩
  | true =>
    rw [hq] at kB
    obtain ⟨h300, hbits⟩ := bitB_of hq
    have HB : Hid (∀ i, i < s.size → bt s i = 48 ∨ bt s i = 49) := hbits
    clear hbits
    obtain ⟨i0, hi, hzz⟩ := Option.map_eq_some_iff.1 infoB8
    simp only [Prod.mk.injEq] at hzz
    obtain ⟨hz0, hz1, hz2⟩ := hzz
    go_enter Tryd.func13, Tryd.ntmps13
    go_wp2_with fail
    refine (kB _).mono ?_
    rintro e wb ⟨rfl, hb2⟩
    clear kB
    obtain ⟨cc, w3, hcv, hsz, hb3, hcell⟩ := run_bytes s ((wb.alloc (.cells #[] 5)).alloc (.cells #[.int .u8 0, .int .i64 0] 47))
    simp only [size_al] at hcv hsz hb3 hcell
    have hst := sfs_new w wb w3 s hb2 hsz hb3 hcell
    clear hsz hb3 hcell hb2
    go_wp2
    clear hcv
    go_loopw [4, 17] (fun v i wr => ∃ k : Nat, k ≤ s.size ∧ i = .int .i64 (k : Int) ∧ Hid (Sfs w wr (wb.heap.size + 1) (wb.heap.size + 1 + 1) s v (sfK (bt s) k).1 (sfK (bt s) k).2.1 (sfK (bt s) k).2.2)) (fun _ i _ => s.size - (intOf i).toNat)
    case atStart => exact ⟨0, Nat.zero_le _, rfl, hst⟩
    case round =>
      obtain ⟨k, hk, rfl, HS⟩ := hrel
      clear hst
      by_cases hlt : k < s.size
      · have y0 := HS.out.yc k hlt
        have yb := HS.out.yb
        have i0' : (0 : Int) ≤ (k : Int) := by omega
        have i1' : (k : Int) < (s.size : Int) := by omega
        have hx := HB.out k hlt
        have hbd := sfK_bd (bt s) k
        have hln := sfK_len (bt s) k
        have HG : Hid ((rnN (sfK (bt s) k).2.1 (sfK (bt s) k).2.2 (bt s k) == 5) = false → sfK (bt s) (k + 1) = ((sfK (bt s) k).1 ++ [bt s k], bt s k, rnN (sfK (bt s) k).2.1 (sfK (bt s) k).2.2 (bt s k))) := sfK_go (bt s) k
        have HP : Hid ((rnN (sfK (bt s) k).2.1 (sfK (bt s) k).2.2 (bt s k) == 5) = true → sfK (bt s) (k + 1) = ((sfK (bt s) k).1 ++ [bt s k] ++ [97 - bt s k], 97 - bt s k, 1)) := sfK_put (bt s) k
        have HX : Hid (bt s k = 48 ∨ bt s k = 49) := hx
        have HRB : Hid (0 ≤ rnN (sfK (bt s) k).2.1 (sfK (bt s) k).2.2 (bt s k) ∧ rnN (sfK (bt s) k).2.1 (sfK (bt s) k).2.2 (bt s k) ≤ 5) := rnN_bd _ _ _ hbd.1 hbd.2
        clear hx
        generalize (sfK (bt s) k).1 = O at *
        generalize (sfK (bt s) k).2.1 = L at *
        generalize (sfK (bt s) k).2.2 = Rr at *
        generalize bt s k = X at *
        generalize hN : rnN L Rr X = N at *
        have HN : Hid (rnN L Rr X = N) := hN
        clear hN
        have h0 := hbd.1
        have h1 := hbd.2
        clear hbd
        have hbase : w.heap.size ≤ wr.heap.size := HS.out.bel.size
        have hown8 := HS.out.own
        unfold OwY at hown8
        go_wp2_with (at_builtin; refine wpList_append_own_at _ rfl _ _ 22 rfl w.heap.size 5 i0 (.int .u8 0) 1 1 Tryd.underlying22 hi hz0 hz1 hz2 rfl (by decide) _ _ _ rfl (World.ownsRow.alloc hown8 _) ⟨wr.heap.size, 0, none⟩ 1 1 [.int .u8 X] rfl rfl (cell_one_new _ _ _) (fun y hy => by simp at hy; subst hy; rfl) (by unfold maxLen; omega) (by omega) (by simp; omega) ?_; intro v2 w9 hown' hgrow' _ hat')
        have hs9 := HS.out.app hown' hgrow' hat'
        clear hown' hgrow' hat' hown8 hbase HS
        have hlen : (O ++ [X]).length ≤ 2 * k + 1 := by simp; omega
        have kT := take_any (wb.heap.size + 1) L Rr X w9 h0 (by omega) hs9.rn
        rw [HN.out] at kT
        go_wp2_with fail
        refine kT.mono ?_
        rintro e w10 ⟨rfl, hn10, ho10⟩
        have hs10 := hs9.take hn10 ho10
        clear kT hs9 hn10 ho10
        have kF := full_any (wb.heap.size + 1) X N w10 hs10.rn
        cases hf : (N == 5) with
        | false =>
          rw [hf] at kF
          have HE : Hid (sfK (bt s) (k + 1) = (O ++ [X], X, N)) := HG.out hf
          clear HG HP
          go_wp2_with fail
          refine kF.mono ?_
          rintro e w11 ⟨rfl, hw11⟩
          have hs11 := hw11.symm
          clear hw11 kF
          subst hs11
          go_wp2
          exact ⟨⟨k + 1, by omega, by go_num, (by rw [HE.out]; exact hs10 : Sfs w w10 (wb.heap.size + 1) (wb.heap.size + 1 + 1) s v2 (sfK (bt s) (k + 1)).1 (sfK (bt s) (k + 1)).2.1 (sfK (bt s) (k + 1)).2.2)⟩, by simp [intOf]; omega⟩
        | true =>
          rw [hf] at kF
          have HE : Hid (sfK (bt s) (k + 1) = (O ++ [X] ++ [97 - X], 97 - X, 1)) := HP.out hf
          clear HG HP
          go_wp2_with fail
          refine kF.mono ?_
          rintro e w11 ⟨rfl, hw11⟩
          have hs11 := hw11.symm
          clear hw11 kF
          subst hs11
          have kO := fun w2 => other_any X w2 HX.out
          go_wp2_with fail
          refine (kO _).mono ?_
          rintro e w12 ⟨rfl, hw12⟩
          have hs12 := hw12.symm
          clear hw12 kO
          subst hs12
          have HS10 : Hid (Sfs w w10 (wb.heap.size + 1) (wb.heap.size + 1 + 1) s v2 (O ++ [X]) X N) := hs10
          clear hs10
          have hbase : w.heap.size ≤ w10.heap.size := HS10.out.bel.size
          have hown8 := HS10.out.own
          unfold OwY at hown8
          go_wp2_with (at_builtin; refine wpList_append_own_at _ rfl _ _ 22 rfl w.heap.size 5 i0 (.int .u8 0) 1 1 Tryd.underlying22 hi hz0 hz1 hz2 rfl (by decide) _ _ _ rfl (World.ownsRow.alloc hown8 _) ⟨w10.heap.size, 0, none⟩ 1 1 [.int .u8 (97 - X)] rfl rfl (cell_one_new _ _ _) (fun y hy => by simp at hy; subst hy; rfl) (by unfold maxLen; omega) (by omega) (by simp; omega) ?_; intro v3 w13 hown' hgrow' _ hat')
          have hs13 := HS10.out.app hown' hgrow' hat'
          clear hown' hgrow' hat' hown8 hbase HS10
          have kT := take_any (wb.heap.size + 1) X N (97 - X) w13 HRB.out.1 HRB.out.2 hs13.rn
          rw [rnN_other N X] at kT
          go_wp2_with fail
          refine kT.mono ?_
          rintro e w14 ⟨rfl, hn14, ho14⟩
          have hs14 := hs13.take hn14 ho14
          clear kT hs13 hn14 ho14
          go_wp2
          exact ⟨⟨k + 1, by omega, by go_num, (by rw [HE.out]; exact hs14 : Sfs w w14 (wb.heap.size + 1) (wb.heap.size + 1 + 1) s v3 (sfK (bt s) (k + 1)).1 (sfK (bt s) (k + 1)).2.1 (sfK (bt s) (k + 1)).2.2)⟩, by simp [intOf]; omega⟩
      · have hke : k = s.size := by omega
        subst hke
        have i1' : ¬ (s.size : Int) < (s.size : Int) := by omega
        obtain ⟨a9, c9, rfl⟩ := HS.out.own.shape
        have htx := HS.out.own.text
        have hbl := HS.out.bel
        clear HS
        generalize hO : (sfK (bt s) s.size).1 = O at *
        have HO : Hid ((sfK (bt s) s.size).1 = O) := hO
        clear hO
        go_wp2
        go_ret2
        exact ⟨by rw [HO.out]; rfl, hbl⟩
end Go.Proofs.YtplpggcbpcebcaaDoor
