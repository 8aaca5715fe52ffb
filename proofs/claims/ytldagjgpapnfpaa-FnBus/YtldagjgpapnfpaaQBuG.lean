/- RunBus as the program goes: its rounds (tools/gen_bug.py). -/
import Derived.Test.YtldagjgpapnfpaaQBuM
import Derived.Test.YtldagjgpapnfpaaQBuR
namespace Go.Proofs.Ytldagjgpapnfpaa
open Go.RowKit
def AnsRb (w w' : World) (e : Ending) (t : Tks) (n : Nat) (W : Int) (sp : Nat → Bool) (R : Nat) (Q : World → World → Value → Prop) : Prop :=
  ∃ (sv tv : Value) (w2 : World) (base : Nat), e = .returned (.tuple #[sv, tv, .bool true]) ∧ w.heap.size ≤ base ∧ OwS w2 base sv (runS t n W sp R).out ∧ Q w2 w' tv ∧ Below w.heap.size w w2 ∧ Below w2.heap.size w2 w'
set_option maxRecDepth 20000 in
set_option maxHeartbeats 8000000 in
theorem iRunG (a : Option Addr) (n c : Nat) (t : Tks) (R : Nat) (W : Int) (sa : Option Addr) (sn sc : Nat) (sf : Nat → Int) (w : World) (hn : n ≤ 6) (hg : tksB t n = true) (hR : R ≤ 40) (hW : 1 ≤ W ∧ W ≤ 20) (hsn : sn ≤ 40) (hT : TkH w a n t) (hS : IL w sa sn sf)
    (Q : World → World → Value → Prop) (hTk : ∀ (base : Nat) (w2 : World) (x : Option Addr) (cx : Nat) (Pt : Nat → Nat), Bus base w2 (.slice x n cx) n Pt t (runS t n W (fun r => hsB sf sn (r : Int)) R).LF (runS t n W (fun r => hsB sf sn (r : Int)) R).SE (runS t n W (fun r => hsB sf sn (r : Int)) R).EC → Below w.heap.size w w2 → Calls Try.prog 32 #[.slice x n cx] w2 fun e w' => ∃ v, e = .returned v ∧ Q w2 w' v ∧ Below w2.heap.size w2 w') :
    Calls Try.prog 6 #[.slice a n c, .int .i64 (R : Int), .int .i64 W, .slice sa sn sc] w fun e w' => AnsRb w w' e t n W (fun r => hsB sf sn (r : Int)) R Q := by
  obtain ⟨i0, hi, hzz⟩ := Option.map_eq_some_iff.1 infoSn
  simp only [Prod.mk.injEq] at hzz
  obtain ⟨hz0, hz1, hz2⟩ := hzz
  have kG := iTalkers a n c t w (by omega) (fun i hi => by have := (tks_facts hg i hi).1; omega) hT
  rw [decide_eq_true hn, hg] at kG
  have HT : Hid (TkH w a n t) := hT
  have HSp : Hid (IL w sa sn sf) := hS
  have HTF : Hid (∀ i, i < n → t.qm i ≤ 8 ∧ (0 ≤ t.er i ∧ t.er i ≤ 255) ∧ ∀ j, j < t.qm i → 0 ≤ t.I i j ∧ t.I i j ≤ 2047) := fun i hi => tks_facts hg i hi
  have HOK : Hid (∀ r, BsOk t n r (runS t n W (fun r => hsB sf sn (r : Int)) r)) := fun r => run_ok t n W _ (fun i hi => (tks_facts hg i hi).2.1) r
  have HTk : Hid (∀ (base : Nat) (w2 : World) (x : Option Addr) (cx : Nat) (Pt : Nat → Nat), Bus base w2 (.slice x n cx) n Pt t (runS t n W (fun r => hsB sf sn (r : Int)) R).LF (runS t n W (fun r => hsB sf sn (r : Int)) R).SE (runS t n W (fun r => hsB sf sn (r : Int)) R).EC → Below w.heap.size w w2 → Calls Try.prog 32 #[.slice x n cx] w2 fun e w' => ∃ v, e = .returned v ∧ Q w2 w' v ∧ Below w2.heap.size w2 w') := hTk
  obtain ⟨sp, hsp⟩ : ∃ sp : Nat → Bool, (fun r : Nat => hsB sf sn (r : Int)) = sp := ⟨_, rfl⟩
  have HSP : Hid (∀ r : Nat, hsB sf sn (r : Int) = sp r) := fun r => congrFun hsp r
  rw [hsp] at HOK HTk ⊢
  clear hsp hT hS hTk hg
  have j1 : ¬ (R : Int) < 0 := by omega
  have j2 : ¬ (40 : Int) < (R : Int) := by omega
  have j3 : ¬ W < 1 := by omega
  have j4 : ¬ (20 : Int) < W := by omega
  have j5 : ¬ (40 : Int) < (sn : Int) := by omega
  go_enter Try.func6, Try.ntmps6
  go_wp2_with fail
  refine kG.mono ?_
  rintro e w1 ⟨rfl, hb1⟩
  clear kG
  go_wp2_with fail
  refine (busOf_any a n c t w1 hn (HT.out.below hb1)).mono ?_
  rintro e w2 ⟨x, cx, Pt, rfl, hBus, hb2⟩
  have hB2 := stepA hb1 hb2
  have hPl : ∀ i, i < n → Pt i < w2.heap.size := fun i hi => Bx.lt (hBus.sp i hi)
  have hvl : ∀ q, (Value.slice x n cx).ownBlock = some q → q < w2.heap.size := fun q hq => (World.ownsRow.lt hBus.own q hq).2
  have HPG : Hid (∀ i, i < n → w.heap.size ≤ Pt i) := fun i hi => Nat.le_trans hb1.size (hBus.ge i hi)
  have HPL : Hid (∀ i, i < n → Pt i < w2.heap.size) := hPl
  have HVL : Hid (∀ q, (Value.slice x n cx).ownBlock = some q → q < w2.heap.size) := hvl
  have hb3 : Below w2.heap.size w2 (w2.alloc (.cells #[] 65)) := (Below.refl _ _).alloc (Nat.le_refl _) _
  have HS3 : Hid (Bus w1.heap.size (w2.alloc (.cells #[] 65)) (.slice x n cx) n Pt t (runS t n W sp 0).LF (runS t n W sp 0).SE (runS t n W sp 0).EC) := hBus.on hb3
  have HO3 : Hid (OwS (w2.alloc (.cells #[] 65)) w2.heap.size (.slice (some ⟨w2.heap.size, 0, none⟩) 0 0) []) := World.ownsRow_made w2 #[] 0 (Nat.le_refl _) (by unfold maxLen; omega) rfl
  have hB3 := stepA hB2 hb3
  have hsz2 : w.heap.size ≤ w2.heap.size := hB2.size
  clear hBus hb1 hb2 hB2 hPl hvl hb3
  go_wp2_with fail
  go_loopw [12, 44] (fun v i wr => ∃ (r : Nat) (l : List (Int × Int × Int × Bool)), r ≤ R ∧ i = .int .i64 (r : Int) ∧ l.length ≤ r ∧ (∃ y d, v = .slice y l.length d) ∧ Hid (l = (runS t n W sp r).out) ∧ Hid (OwS wr w2.heap.size v l) ∧ Hid (Bus w1.heap.size wr (.slice x n cx) n Pt t (runS t n W sp r).LF (runS t n W sp r).SE (runS t n W sp r).EC) ∧ Below w.heap.size w wr ∧ w2.heap.size ≤ wr.heap.size) (fun _ i _ => R - (intOf i).toNat)
  case atStart => exact ⟨0, [], Nat.zero_le _, rfl, Nat.le_refl _, ⟨_, _, rfl⟩, (rfl : [] = (runS t n W sp 0).out), HO3, HS3, hB3, by simp⟩
  case round =>
    obtain ⟨r, l, hr, rfl, hlr, ⟨y, d, rfl⟩, HL, HO, HS, hB, hz⟩ := hrel
    clear HO3 HS3 hB3
    have hsz6 := hB.size
    by_cases hlt : r < R
    · have j6 : (r : Int) < (R : Int) := by omega
      have j7 : (0 : Int) ≤ (r : Int) := by omega
      have HRUN : Hid (runS t n W sp (r + 1) = stpS t n W sp r (runS t n W sp r)) := (rfl : runS t n W sp (r + 1) = _)
      have hok := HOK.out r
      have HBO : Hid (BsOk t n r (runS t n W sp r)) := hok
      clear hok
      generalize runS t n W sp r = s at *
      cases e0 : ((r : Int) % W == 0) with
      | true =>
        have HW : Hid (wndS W r s = fun _ => 0) := by show wndS W r s = _; unfold wndS; rw [if_pos (by simpa using e0)]
        go_wp2_with fail
        refine (begin_any w1.heap.size x n cx Pt t s.LF s.SE s.EC wr hn HS.out).mono ?_
        rintro e w4 ⟨rfl, hbus, hos⟩
        have HS4 : Hid (Bus w1.heap.size w4 (.slice x n cx) n Pt t s.LF (wndS W r s) s.EC) := by show Bus _ _ _ _ _ _ _ _ _; rw [HW.out]; exact hbus
        have HO4 : Hid (OwS w4 w2.heap.size (.slice y l.length d) l) := HO.out.same fun q hq => hos.block q (fun i hi e => by have := HPL.out i hi; have := (World.ownsRow.lt HO.out q hq).1; omega)
        have hB4 := hB.trans (hos.below (fun i hi => HPG.out i hi))
        have hz4 : w2.heap.size ≤ w4.heap.size := by rw [hos.size]; exact hz
        clear hbus hos HS HO hB hz e0 hsz6 HW
        go_wp2_with fail
        refine (next_bus w1.heap.size x n cx Pt t s.LF (wndS W r s) s.EC w4 hn HS4.out (fun i hi => (HT.out.below hB4).fr i hi) (fun i hi => (HTF.out i hi).1) (fun i j hi hj => (HTF.out i hi).2.2 j hj)).mono ?_
        rintro e w5 ⟨dd, rfl, hnx, hb5⟩
        have hd := hnx.is
        have HS5 : Hid (Bus w1.heap.size w5 (.slice x n cx) n Pt t s.LF (wndS W r s) s.EC) := HS4.out.on hb5
        have HO5 : Hid (OwS w5 w2.heap.size (.slice y l.length d) l) := HO4.out.on hb5
        have hB5 := stepA hB4 hb5
        have hz5 : w2.heap.size ≤ w5.heap.size := Nat.le_trans hz4 hb5.size
        clear HS4 HO4 hB4 hz4 hb5 hnx
        by_cases hc : ctL t s.LF (wndS W r s) s.EC n = []
        · rw [if_pos hc] at hd
          subst hd
          have HE : Hid (stpS t n W sp r s = { s with SE := wndS W r s }) := by show stpS t n W sp r s = _; unfold stpS conS; rw [if_pos hc]
          clear hc
          go_wp2
          exact ⟨⟨r + 1, l, by omega, by go_num, by omega, ⟨_, _, rfl⟩, by show l = (runS t n W sp (r + 1)).out; rw [HRUN.out, HE.out]; exact HL.out, HO5.out, by show Bus _ _ _ _ _ _ _ _ _; rw [HRUN.out, HE.out]; exact HS5.out, hB5, hz5⟩, by simp [intOf]; omega⟩
        · rw [if_neg hc] at hd
          have hKm := con_mem (nxK_mem t s.LF (conS t n W r s) hc)
          obtain ⟨K, hK⟩ : ∃ K, K = nxK t s.LF (conS t n W r s) := ⟨_, rfl⟩
          have hd2 : dd = (K : Int) := by rw [hd, hK]; rfl
          subst hd2
          rw [← hK] at hKm
          obtain ⟨hKn, hKq⟩ := hKm
          have HE : Hid (stpS t n W sp r s = { LF := fun j => if j = K then snL (!(sp r)) (s.LF j) else s.LF j, SE := fun j => if j = K then wndS W r s j + 1 else wndS W r s j, EC := fun j => if j = K then snE (!(sp r)) (s.EC j) else s.EC j, out := s.out ++ [((r : Int), (K : Int), t.I K (s.LF K), !(sp r))] }) := by
            show stpS t n W sp r s = _
            rw [hK]
            unfold stpS
            rw [if_neg (show ¬ conS t n W r s = [] from hc)]
          have hwb := wnd_bd HBO.out W K hKn
          have hec := HBO.out.ec K hKn
          have hlf := HBO.out.lf K hKn
          clear hc hd hK
          have kC := iContI sa sn sc sf (r : Int) w5 (by omega) (HSp.out.below hB5)
          rw [HSP.out r] at kC
          obtain ⟨g, hg⟩ : ∃ g, g = sp r := ⟨_, rfl⟩
          rw [← hg] at kC HE
          obtain ⟨q0, c0, e0_, hgl, hgc⟩ := HS5.out.at hKn
          cases e0_
          have i0_ : (0 : Int) ≤ (K : Int) := by omega
          have i1_ : (K : Int) < (n : Int) := by omega
          have i2_ : ((K : Int) == -1) = false := by first | (simp; done) | (simp; omega)
          go_wp2_with fail
          refine kC.mono ?_
          rintro e w6 ⟨rfl, hw6⟩
          have hs6 := hw6.symm
          clear hw6 kC
          subst hs6
          have hqm := (HTF.out K hKn).1
          have hFr := (HT.out.below hB5).fr K hKn
          have hSp := HS5.out.sp K hKn
          have kF := first_any (Pt K) (t.qa K) (t.qm K) (t.qc K) (t.sh K) (t.er K) (t.of K) (s.LF K) (wndS W r s K) (s.EC K) (t.I K) (t.A K) (t.N K) (t.C K) w5 hKq hqm hSp hFr
          clear hFr hSp hqm
          obtain ⟨X, hX⟩ : ∃ X, X = t.I K (s.LF K) := ⟨_, rfl⟩
          rw [← hX] at kF HE
          generalize t.A K (s.LF K) = X1 at kF
          generalize t.N K (s.LF K) = X2 at kF
          generalize t.C K (s.LF K) = X3 at kF
          clear hX hg
          go_wp2_with fail
          refine kF.mono ?_
          rintro e w7 ⟨rfl, hb7⟩
          have HS7 : Hid (Bus w1.heap.size w7 (.slice (some ⟨q0, 0, none⟩) n cx) n Pt t s.LF (wndS W r s) s.EC) := HS5.out.on hb7
          have hO7 := HO5.out.on hb7
          have hB7 := stepA hB5 hb7
          have hz7 : w2.heap.size ≤ w7.heap.size := Nat.le_trans hz5 hb7.size
          have hlen := hlr
          have hfd : ∀ w : World, (Instr.field 54 (frv X X1 X2 X3) 0).run Try.prog w = .ok (.int .i64 X) w := fun _ => by kernel_rfl
          clear kF HS5 HO5 hB5 hz5 hb7 hgl hgc
          go_upto_region 14 with (at_builtin; refine wpList_append_own _ rfl _ _ 27 rfl w2.heap.size 65 i0 (.agg #[.int .i64 0, .int .i64 0, .int .i64 0, .bool false]) 4 32 Try.underlying27 hi hz0 hz1 hz2 rfl (by decide) _ _ _ rfl (World.ownsRow.alloc hO7 _) ⟨w7.heap.size, 0, none⟩ 1 1 [.int .i64 (r : Int), .int .i64 (K : Int), .int .i64 X, .bool (!g)] rfl rfl (four_new _ _ _ _ _ _) (fun x hx => by simp at hx; rcases hx with rfl | rfl | rfl | rfl <;> rfl) (by unfold maxLen; omega) (by omega) (by simp; omega) ?_; intro vN w8 hown8 hgrow8 _)
          have hO8 : OwS w8 w2.heap.size vN (l ++ [((r : Int), (K : Int), X, !g)]) := by unfold OwS; rw [snC_app, List.length_append]; exact hown8
          have hg8 : Below w2.heap.size w7 w8 := ((Below.refl w2.heap.size w7).alloc hz7 _).grown hgrow8 (by simp; omega) (fun q hq => (World.ownsRow.lt hO7 q hq).1)
          have HS8 : Hid (Bus w1.heap.size w8 (.slice (some ⟨q0, 0, none⟩) n cx) n Pt t s.LF (wndS W r s) s.EC) := HS7.out.low hg8 HPL.out HVL.out
          have hB8 := hB7.trans (hg8.mono hsz2)
          have hz8 : w2.heap.size ≤ w8.heap.size := Nat.le_trans hz7 hg8.size
          have HO8 : Hid (OwS w8 w2.heap.size vN (l ++ [((r : Int), (K : Int), X, !g)])) := hO8
          clear HS7 hO7 hB7 hz7 hg8 hown8 hgrow8
          obtain ⟨ya, yc, rfl⟩ := hO8.shape
          clear hO8
          obtain ⟨q1, c1, e1_, hgl, hgc⟩ := HS8.out.at hKn
          cases e1_
          have kS := send_any (Pt K) (t.qa K) (t.qm K) (t.qc K) (t.sh K) (t.er K) (t.of K) (s.LF K) (wndS W r s K) (s.EC K) (!g) w8 (by have := (HTF.out K hKn).1; omega) (by omega) hec (HS8.out.sp K hKn)
          go_wp2_with fail
          refine kS.mono ?_
          rintro e w9 ⟨rfl, hsp9, ho9⟩
          have HS9 : Hid (Bus w1.heap.size w9 (.slice (some ⟨q0, 0, none⟩) n cx) n Pt t _ _ _) := HS8.out.upd hKn hsp9 ho9
          have HO9 : Hid (OwS w9 w2.heap.size (.slice ya (l ++ [((r : Int), (K : Int), X, !g)]).length yc) (l ++ [((r : Int), (K : Int), X, !g)])) := HO8.out.same fun q hq => ho9.block q (fun e => by have := HPL.out K hKn; have := (World.ownsRow.lt HO8.out q hq).1; omega)
          have hB9 := hB8.trans (ho9.below.mono (HPG.out K hKn))
          have hz9 : w2.heap.size ≤ w9.heap.size := by rw [ho9.size]; exact hz8
          clear HS8 HO8 hB8 hz8 ho9 hsp9 kS
          have HLN : Hid ((l ++ [((r : Int), (K : Int), X, !g)]).length = l.length + 1) := List.length_append
          go_wp2
          exact ⟨⟨r + 1, l ++ [((r : Int), (K : Int), X, !g)], by omega, by go_num, by rw [HLN.out]; omega, ⟨_, _, by rw [HLN.out]⟩, by show _ = (runS t n W sp (r + 1)).out; rw [HRUN.out, HE.out, HL.out], by have h9 := HO9.out; rw [HLN.out] at h9; exact h9, by show Bus _ _ _ _ _ _ _ _ _; rw [HRUN.out, HE.out]; exact HS9.out.congr (fun i hi => by simp only; split <;> simp_all) (fun i hi => by simp only; split <;> simp_all) (fun i hi => by simp only; split <;> simp_all), hB9, hz9⟩, by simp [intOf]; omega⟩
      | false =>
        have HW : Hid (wndS W r s = s.SE) := by show wndS W r s = _; unfold wndS; rw [if_neg (by simpa using e0)]
        have HS4 : Hid (Bus w1.heap.size wr (.slice x n cx) n Pt t s.LF (wndS W r s) s.EC) := by show Bus _ _ _ _ _ _ _ _ _; rw [HW.out]; exact HS.out
        have HO4 := HO
        have hB4 := hB
        have hz4 := hz
        clear HS HO hB hz hsz6 HW
        go_wp2_with fail
        refine (next_bus w1.heap.size x n cx Pt t s.LF (wndS W r s) s.EC wr hn HS4.out (fun i hi => (HT.out.below hB4).fr i hi) (fun i hi => (HTF.out i hi).1) (fun i j hi hj => (HTF.out i hi).2.2 j hj)).mono ?_
        rintro e w5 ⟨dd, rfl, hnx, hb5⟩
        have hd := hnx.is
        have HS5 : Hid (Bus w1.heap.size w5 (.slice x n cx) n Pt t s.LF (wndS W r s) s.EC) := HS4.out.on hb5
        have HO5 : Hid (OwS w5 w2.heap.size (.slice y l.length d) l) := HO4.out.on hb5
        have hB5 := stepA hB4 hb5
        have hz5 : w2.heap.size ≤ w5.heap.size := Nat.le_trans hz4 hb5.size
        clear HS4 HO4 hB4 hz4 hb5 hnx
        by_cases hc : ctL t s.LF (wndS W r s) s.EC n = []
        · rw [if_pos hc] at hd
          subst hd
          have HE : Hid (stpS t n W sp r s = { s with SE := wndS W r s }) := by show stpS t n W sp r s = _; unfold stpS conS; rw [if_pos hc]
          clear hc
          go_wp2
          exact ⟨⟨r + 1, l, by omega, by go_num, by omega, ⟨_, _, rfl⟩, by show l = (runS t n W sp (r + 1)).out; rw [HRUN.out, HE.out]; exact HL.out, HO5.out, by show Bus _ _ _ _ _ _ _ _ _; rw [HRUN.out, HE.out]; exact HS5.out, hB5, hz5⟩, by simp [intOf]; omega⟩
        · rw [if_neg hc] at hd
          have hKm := con_mem (nxK_mem t s.LF (conS t n W r s) hc)
          obtain ⟨K, hK⟩ : ∃ K, K = nxK t s.LF (conS t n W r s) := ⟨_, rfl⟩
          have hd2 : dd = (K : Int) := by rw [hd, hK]; rfl
          subst hd2
          rw [← hK] at hKm
          obtain ⟨hKn, hKq⟩ := hKm
          have HE : Hid (stpS t n W sp r s = { LF := fun j => if j = K then snL (!(sp r)) (s.LF j) else s.LF j, SE := fun j => if j = K then wndS W r s j + 1 else wndS W r s j, EC := fun j => if j = K then snE (!(sp r)) (s.EC j) else s.EC j, out := s.out ++ [((r : Int), (K : Int), t.I K (s.LF K), !(sp r))] }) := by
            show stpS t n W sp r s = _
            rw [hK]
            unfold stpS
            rw [if_neg (show ¬ conS t n W r s = [] from hc)]
          have hwb := wnd_bd HBO.out W K hKn
          have hec := HBO.out.ec K hKn
          have hlf := HBO.out.lf K hKn
          clear hc hd hK
          have kC := iContI sa sn sc sf (r : Int) w5 (by omega) (HSp.out.below hB5)
          rw [HSP.out r] at kC
          obtain ⟨g, hg⟩ : ∃ g, g = sp r := ⟨_, rfl⟩
          rw [← hg] at kC HE
          obtain ⟨q0, c0, e0_, hgl, hgc⟩ := HS5.out.at hKn
          cases e0_
          have i0_ : (0 : Int) ≤ (K : Int) := by omega
          have i1_ : (K : Int) < (n : Int) := by omega
          have i2_ : ((K : Int) == -1) = false := by first | (simp; done) | (simp; omega)
          go_wp2_with fail
          refine kC.mono ?_
          rintro e w6 ⟨rfl, hw6⟩
          have hs6 := hw6.symm
          clear hw6 kC
          subst hs6
          have hqm := (HTF.out K hKn).1
          have hFr := (HT.out.below hB5).fr K hKn
          have hSp := HS5.out.sp K hKn
          have kF := first_any (Pt K) (t.qa K) (t.qm K) (t.qc K) (t.sh K) (t.er K) (t.of K) (s.LF K) (wndS W r s K) (s.EC K) (t.I K) (t.A K) (t.N K) (t.C K) w5 hKq hqm hSp hFr
          clear hFr hSp hqm
          obtain ⟨X, hX⟩ : ∃ X, X = t.I K (s.LF K) := ⟨_, rfl⟩
          rw [← hX] at kF HE
          generalize t.A K (s.LF K) = X1 at kF
          generalize t.N K (s.LF K) = X2 at kF
          generalize t.C K (s.LF K) = X3 at kF
          clear hX hg
          go_wp2_with fail
          refine kF.mono ?_
          rintro e w7 ⟨rfl, hb7⟩
          have HS7 : Hid (Bus w1.heap.size w7 (.slice (some ⟨q0, 0, none⟩) n cx) n Pt t s.LF (wndS W r s) s.EC) := HS5.out.on hb7
          have hO7 := HO5.out.on hb7
          have hB7 := stepA hB5 hb7
          have hz7 : w2.heap.size ≤ w7.heap.size := Nat.le_trans hz5 hb7.size
          have hlen := hlr
          have hfd : ∀ w : World, (Instr.field 54 (frv X X1 X2 X3) 0).run Try.prog w = .ok (.int .i64 X) w := fun _ => by kernel_rfl
          clear kF HS5 HO5 hB5 hz5 hb7 hgl hgc
          go_upto_region 14 with (at_builtin; refine wpList_append_own _ rfl _ _ 27 rfl w2.heap.size 65 i0 (.agg #[.int .i64 0, .int .i64 0, .int .i64 0, .bool false]) 4 32 Try.underlying27 hi hz0 hz1 hz2 rfl (by decide) _ _ _ rfl (World.ownsRow.alloc hO7 _) ⟨w7.heap.size, 0, none⟩ 1 1 [.int .i64 (r : Int), .int .i64 (K : Int), .int .i64 X, .bool (!g)] rfl rfl (four_new _ _ _ _ _ _) (fun x hx => by simp at hx; rcases hx with rfl | rfl | rfl | rfl <;> rfl) (by unfold maxLen; omega) (by omega) (by simp; omega) ?_; intro vN w8 hown8 hgrow8 _)
          have hO8 : OwS w8 w2.heap.size vN (l ++ [((r : Int), (K : Int), X, !g)]) := by unfold OwS; rw [snC_app, List.length_append]; exact hown8
          have hg8 : Below w2.heap.size w7 w8 := ((Below.refl w2.heap.size w7).alloc hz7 _).grown hgrow8 (by simp; omega) (fun q hq => (World.ownsRow.lt hO7 q hq).1)
          have HS8 : Hid (Bus w1.heap.size w8 (.slice (some ⟨q0, 0, none⟩) n cx) n Pt t s.LF (wndS W r s) s.EC) := HS7.out.low hg8 HPL.out HVL.out
          have hB8 := hB7.trans (hg8.mono hsz2)
          have hz8 : w2.heap.size ≤ w8.heap.size := Nat.le_trans hz7 hg8.size
          have HO8 : Hid (OwS w8 w2.heap.size vN (l ++ [((r : Int), (K : Int), X, !g)])) := hO8
          clear HS7 hO7 hB7 hz7 hg8 hown8 hgrow8
          obtain ⟨ya, yc, rfl⟩ := hO8.shape
          clear hO8
          obtain ⟨q1, c1, e1_, hgl, hgc⟩ := HS8.out.at hKn
          cases e1_
          have kS := send_any (Pt K) (t.qa K) (t.qm K) (t.qc K) (t.sh K) (t.er K) (t.of K) (s.LF K) (wndS W r s K) (s.EC K) (!g) w8 (by have := (HTF.out K hKn).1; omega) (by omega) hec (HS8.out.sp K hKn)
          go_wp2_with fail
          refine kS.mono ?_
          rintro e w9 ⟨rfl, hsp9, ho9⟩
          have HS9 : Hid (Bus w1.heap.size w9 (.slice (some ⟨q0, 0, none⟩) n cx) n Pt t _ _ _) := HS8.out.upd hKn hsp9 ho9
          have HO9 : Hid (OwS w9 w2.heap.size (.slice ya (l ++ [((r : Int), (K : Int), X, !g)]).length yc) (l ++ [((r : Int), (K : Int), X, !g)])) := HO8.out.same fun q hq => ho9.block q (fun e => by have := HPL.out K hKn; have := (World.ownsRow.lt HO8.out q hq).1; omega)
          have hB9 := hB8.trans (ho9.below.mono (HPG.out K hKn))
          have hz9 : w2.heap.size ≤ w9.heap.size := by rw [ho9.size]; exact hz8
          clear HS8 HO8 hB8 hz8 ho9 hsp9 kS
          have HLN : Hid ((l ++ [((r : Int), (K : Int), X, !g)]).length = l.length + 1) := List.length_append
          go_wp2
          exact ⟨⟨r + 1, l ++ [((r : Int), (K : Int), X, !g)], by omega, by go_num, by rw [HLN.out]; omega, ⟨_, _, by rw [HLN.out]⟩, by show _ = (runS t n W sp (r + 1)).out; rw [HRUN.out, HE.out, HL.out], by have h9 := HO9.out; rw [HLN.out] at h9; exact h9, by show Bus _ _ _ _ _ _ _ _ _; rw [HRUN.out, HE.out]; exact HS9.out.congr (fun i hi => by simp only; split <;> simp_all) (fun i hi => by simp only; split <;> simp_all) (fun i hi => by simp only; split <;> simp_all), hB9, hz9⟩, by simp [intOf]; omega⟩
    · have hre : r = R := by omega
      subst hre
      have hbw := HS.out.on (Below.refl _ _)
      have hT3 := hB
      have kT := HTk.out w1.heap.size wr x cx Pt HS.out hT3
      clear hT3 hbw
      go_wp2_with fail
      refine kT.mono ?_
      rintro e w9 ⟨v9, rfl, hQ9, hb9⟩
      clear kT
      go_wp2
      go_ret3
      exact ⟨_, _, wr, w2.heap.size, rfl, by omega, (by rw [← HL.out]; exact HO.out), hQ9, hB, hb9⟩
end Go.Proofs.Ytldagjgpapnfpaa
