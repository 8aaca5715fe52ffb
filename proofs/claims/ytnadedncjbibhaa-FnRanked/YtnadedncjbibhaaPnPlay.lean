/- Chores played, as the program plays them (tools/gen_pn8.py). -/
import Derived.Test.YtnadedncjbibhaaPnBeg
import Derived.Test.YtnadedncjbibhaaPnCho
namespace Go.Proofs.Ytnadedncjbibhaa
open Go.RowKit
theorem whP_bd (ur : Bool) (n : Nat) (F f : Nat → Int) (s : Pl) (t : Int) : -1 ≤ whP ur n F f s t ∧ whP ur n F f s t < (n : Int) := chW_bd _ _ _ _
theorem ru_none {ur : Bool} {n t : Nat} {F f : Nat → Int} (h : whP ur n F f (ruP ur n F f t) (t : Int) < 0) : ruP ur n F f (t + 1) = ruP ur n F f t := by
  show stP ur n F f (ruP ur n F f t) (t : Int) = _
  unfold stP; rw [if_pos h]
theorem ru_some {ur : Bool} {n t j : Nat} {F f : Nat → Int} (h : whP ur n F f (ruP ur n F f t) (t : Int) = (j : Int)) : ruP ur n F f (t + 1) = gvP F f (ruP ur n F f t) (t : Int) j := by
  show stP ur n F f (ruP ur n F f t) (t : Int) = _
  unfold stP; rw [if_neg (by omega), h]; rfl
set_option maxRecDepth 20000 in
set_option maxHeartbeats 8000000 in
theorem iPlayInR (a b : Option Addr) (n c d : Nat) (F f : Nat → Int) (U : Nat) (w : World) (hv : gcV n F = true) (hf : gfK f n = true) (hU : U ≤ 2000) (h : IL w a (n * 3) F) (h2 : IL w b n f) :
    Calls Try.prog 37 #[.slice a n c, .slice b n d, .int .i64 (U : Int), .agg #[.func (.func 36) #[] #[]]] w fun e w' => AnsRn w w' e (ruP false n F f U).m (ruP false n F f U).G n (ruP false n F f U).wo true ∧ Below w.heap.size w w' := by
  have HV : Hid (gcV n F = true) := hv
  have HG : Hid (Gc n F) := gcV_gc hv
  have Hf : Hid (gfK f n = true) := hf
  have HB : Hid (gfB n n f = true) := by unfold gfB; rw [decide_eq_true rfl, hf]; rfl
  have hn6 := HG.out.six
  clear hv hf
  have ju0 : ¬ (U : Int) < 0 := by omega
  have ju1 : ¬ (2000 : Int) < (U : Int) := by omega
  have hb0 : Below w.heap.size w (w.alloc (.cells #[.func (.func 36) #[] #[]] 62)) := (Below.refl _ _).alloc (Nat.le_refl _) _
  have b0 := bx_new (w := w) [.func (.func 36) #[] #[]] 62 rfl
  have hsz0 : w.heap.size < (w.alloc (.cells #[.func (.func 36) #[] #[]] 62)).heap.size := b0.lt
  go_enter Try.func37, Try.ntmps37
  go_wp2_with fail
  generalize w.alloc (.cells #[.func (.func 36) #[] #[]] 62) = w0 at *
  refine (iGoodC a n c F w0 (h.below hb0)).mono ?_
  rintro e w1 ⟨rfl, hb1⟩
  rw [HV.out]
  go_wp2_with fail
  refine (iFirsts b n d n f w1 hn6 (h2.below (stepA hb0 hb1))).mono ?_
  rintro e w1' ⟨rfl, hw1⟩
  have hs' := hw1.symm
  clear hw1
  subst hs'
  rw [HB.out]
  go_wp2_with fail
  refine (iBegin a b n c d F f (ruP false n F f 0) w1 HG.out rfl (h.below (stepA hb0 hb1)) (h2.below (stepA hb0 hb1))).mono ?_
  rintro e w2 ⟨J, L, rfl, hJ, hL, hJL, hJ0, hL0, hb2⟩
  have hsz1 := hb1.size
  have hJ00 : w0.heap.size ≤ J := by omega
  have hL00 : w0.heap.size ≤ L := by omega
  have hbt : Below w2.heap.size w2 (w2.alloc (.cells #[.slice a n c, .slice (some ⟨J, 0, none⟩) n n, .slice none 0 0, .slice (some ⟨L, 0, none⟩) n n] 80)) := (Below.refl _ _).alloc (Nat.le_refl _) _
  have HI : Hid (∃ v, Im (w2.alloc (.cells #[.slice a n c, .slice (some ⟨J, 0, none⟩) n n, .slice none 0 0, .slice (some ⟨L, 0, none⟩) n n] 80)) w2.heap.size J L n a c n F f (ruP false n F f 0) v) := ⟨.slice none 0 0, bx_new _ _ rfl, hJ.below hbt hJ.lt, hL.below hbt hL.lt, own_newL _ _ _⟩
  have hbb : Below w0.heap.size w0 (w2.alloc (.cells #[.slice a n c, .slice (some ⟨J, 0, none⟩) n n, .slice none 0 0, .slice (some ⟨L, 0, none⟩) n n] 80)) := stepA (stepA hb1 hb2) hbt
  have hJP := hJ.lt
  have hLP := hL.lt
  clear hJ hL hbt hb1 hb2 hJ0 hL0 HB HV
  go_upto_region 5 with fail
  generalize w2.alloc (.cells #[.slice a n c, .slice (some ⟨J, 0, none⟩) n n, .slice none 0 0, .slice (some ⟨L, 0, none⟩) n n] 80) = w3 at *
  generalize w2.heap.size = Pb at *
  go_loopw [36] (fun i wr => ∃ t : Nat, t ≤ U ∧ i = .int .i64 (t : Int) ∧ Hid (∃ v, Im wr Pb J L n a c n F f (ruP false n F f t) v) ∧ Below w0.heap.size w0 wr) (fun i _ => U - (intOf i).toNat)
  case atStart => exact ⟨0, Nat.zero_le _, rfl, HI, hbb⟩
  case round =>
    obtain ⟨t, ht, rfl, HM, hB⟩ := hrel
    clear HI hbb
    by_cases hlt : t < U
    · have i2 : (t : Int) < (U : Int) := by omega
      obtain ⟨v, hI⟩ := HM.out
      have HN := fun (h9 : whP false n F f (ruP false n F f t) (t : Int) < 0) => ru_none h9
      have HS := fun (j : Nat) (h9 : whP false n F f (ruP false n F f t) (t : Int) = (j : Int)) => ru_some h9
      have hP := pk_run false HG.out Hf.out t (by omega)
      have wb := whP_bd false n F f (ruP false n F f t) (t : Int)
      have hcw := fun (h9 : 0 ≤ whP false n F f (ruP false n F f t) (t : Int)) => chW_came (c := cmP F f (ruP false n F f t)) (u := ugP false F f (ruP false n F f t)) (t := (t : Int)) (k := n) h9
      have b1 := b0.on hB
      have c0 := b1.c0
      have c1 := hI.box.c1
      have pl := hI.box.lt
      have kC := iChooseR J n n F f (ruP false n F f t) t wr HG.out Hf.out hP (by omega) hI.jb
      clear HM
      have HN : Hid (whP false n F f (ruP false n F f t) (t : Int) < 0 → ruP false n F f (t + 1) = ruP false n F f t) := HN
      have HS : Hid (∀ j : Nat, whP false n F f (ruP false n F f t) (t : Int) = (j : Int) → ruP false n F f (t + 1) = gvP F f (ruP false n F f t) (t : Int) j) := HS
      have HP : Hid (Pk n F f (ruP false n F f t) t) := hP
      have HI : Hid (Im wr Pb J L n a c n F f (ruP false n F f t) v) := hI
      clear hP hI hcw
      go_wp2_with fail
      refine kC.mono ?_
      rintro e w4 ⟨rfl, hb4⟩
      have HI4 : Hid (Im w4 Pb J L n a c n F f (ruP false n F f t) v) := HI.out.below hb4
      have hB4 := stepA hB hb4
      clear kC hb4 HI
      obtain ⟨wb0, wb1⟩ := wb
      generalize hWh : whP false n F f (ruP false n F f t) (t : Int) = Wh at *
      clear hWh
      by_cases hwh : Wh = -1
      · have hw1 : (Wh != -1) = false := by simp [hwh]
        have HR : Hid (∃ v, Im w4 Pb J L n a c n F f (ruP false n F f (t + 1)) v) := ⟨v, by rw [HN.out (by omega)]; exact HI4.out⟩
        clear HN HS HP HG Hf HI4 hwh
        go_wp2
        go_roundw
        case rel => exact ⟨t + 1, by omega, by go_num, HR, hB4⟩
        case measure => simp [intOf]; omega
      · have hw1 : (Wh != -1) = true := by simp [hwh]
        obtain ⟨j, rfl⟩ : ∃ j : Nat, Wh = (j : Int) := ⟨Wh.toNat, by omega⟩
        have hjn : j < n := by omega
        have kG := iGive w0 Pb J L n t j a c n F f (ruP false n F f t) v w4 HG.out Hf.out HP.out (by omega) hjn HI4.out hJP hLP hJL hJ00 hL00 (h.below hb0) hB4
        rw [← HS.out j rfl] at kG
        clear HN HS HP HG Hf HI4 hwh
        go_wp2_with fail
        refine kG.mono ?_
        rintro e w5 ⟨rfl, hI5, hb5⟩
        have HI5 : Hid (∃ v, Im w5 Pb J L n a c n F f (ruP false n F f (t + 1)) v) := hI5
        have hB5 := hB4.trans hb5
        clear hI5 hb5 kG
        go_wp2
        go_roundw
        case rel => exact ⟨t + 1, by omega, by go_num, HI5, hB5⟩
        case measure => simp [intOf]; omega
    · have e : t = U := by omega
      subst e
      have i2 : ¬ (t : Int) < (t : Int) := by omega
      obtain ⟨v, hI⟩ := HM.out
      have c2 := hI.box.c2
      have c3 := hI.box.c3
      have pl := hI.box.lt
      obtain ⟨sa, sc, rfl⟩ := hI.sl.shape
      have HIO : Hid (Im wr Pb J L n a c n F f (ruP false n F f t) (.slice sa (ruP false n F f t).m sc)) := hI.below (Below.refl _ _)
      clear HG Hf HM hI
      go_wp2_with fail
      go_region
      go_wp2
      go_ret3
      have hI := HIO.out.below (Below.refl wr.heap.size wr).drew
      exact ⟨⟨_, _, _, _, Pb, rfl, by omega, Nat.le_of_lt hI.box.lt, hI.sl.lq.wide (by omega) (Nat.le_refl _), lq_of hI.lo (by omega) hLP⟩, (hb0.trans (hB.mono (Nat.le_of_lt hsz0))).drew⟩
set_option maxRecDepth 20000 in
set_option maxHeartbeats 8000000 in
theorem iPlayInU (a b : Option Addr) (n c d : Nat) (F f : Nat → Int) (U : Nat) (w : World) (pp : Nat) (hp : w.cell? ⟨pp, 0, none⟩ = some (.slice a n c)) (hpl : pp < w.heap.size) (hv : gcV n F = true) (hf : gfK f n = true) (hU : U ≤ 2000) (h : IL w a (n * 3) F) (h2 : IL w b n f) :
    Calls Try.prog 37 #[.slice a n c, .slice b n d, .int .i64 (U : Int), .agg #[.func (.func 47) #[] #[.pointer (some ⟨pp, 0, none⟩)]]] w fun e w' => AnsRn w w' e (ruP true n F f U).m (ruP true n F f U).G n (ruP true n F f U).wo true ∧ Below w.heap.size w w' := by
  have HV : Hid (gcV n F = true) := hv
  have HG : Hid (Gc n F) := gcV_gc hv
  have Hf : Hid (gfK f n = true) := hf
  have HB : Hid (gfB n n f = true) := by unfold gfB; rw [decide_eq_true rfl, hf]; rfl
  have hn6 := HG.out.six
  clear hv hf
  have ju0 : ¬ (U : Int) < 0 := by omega
  have ju1 : ¬ (2000 : Int) < (U : Int) := by omega
  have hb0 : Below w.heap.size w (w.alloc (.cells #[.func (.func 47) #[] #[.pointer (some ⟨pp, 0, none⟩)]] 62)) := (Below.refl _ _).alloc (Nat.le_refl _) _
  have b0 := bx_new (w := w) [.func (.func 47) #[] #[.pointer (some ⟨pp, 0, none⟩)]] 62 rfl
  have hsz0 : w.heap.size < (w.alloc (.cells #[.func (.func 47) #[] #[.pointer (some ⟨pp, 0, none⟩)]] 62)).heap.size := b0.lt
  go_enter Try.func37, Try.ntmps37
  go_wp2_with fail
  generalize w.alloc (.cells #[.func (.func 47) #[] #[.pointer (some ⟨pp, 0, none⟩)]] 62) = w0 at *
  refine (iGoodC a n c F w0 (h.below hb0)).mono ?_
  rintro e w1 ⟨rfl, hb1⟩
  rw [HV.out]
  go_wp2_with fail
  refine (iFirsts b n d n f w1 hn6 (h2.below (stepA hb0 hb1))).mono ?_
  rintro e w1' ⟨rfl, hw1⟩
  have hs' := hw1.symm
  clear hw1
  subst hs'
  rw [HB.out]
  go_wp2_with fail
  refine (iBegin a b n c d F f (ruP true n F f 0) w1 HG.out rfl (h.below (stepA hb0 hb1)) (h2.below (stepA hb0 hb1))).mono ?_
  rintro e w2 ⟨J, L, rfl, hJ, hL, hJL, hJ0, hL0, hb2⟩
  have hsz1 := hb1.size
  have hJ00 : w0.heap.size ≤ J := by omega
  have hL00 : w0.heap.size ≤ L := by omega
  have hbt : Below w2.heap.size w2 (w2.alloc (.cells #[.slice a n c, .slice (some ⟨J, 0, none⟩) n n, .slice none 0 0, .slice (some ⟨L, 0, none⟩) n n] 80)) := (Below.refl _ _).alloc (Nat.le_refl _) _
  have HI : Hid (∃ v, Im (w2.alloc (.cells #[.slice a n c, .slice (some ⟨J, 0, none⟩) n n, .slice none 0 0, .slice (some ⟨L, 0, none⟩) n n] 80)) w2.heap.size J L n a c n F f (ruP true n F f 0) v) := ⟨.slice none 0 0, bx_new _ _ rfl, hJ.below hbt hJ.lt, hL.below hbt hL.lt, own_newL _ _ _⟩
  have hbb : Below w0.heap.size w0 (w2.alloc (.cells #[.slice a n c, .slice (some ⟨J, 0, none⟩) n n, .slice none 0 0, .slice (some ⟨L, 0, none⟩) n n] 80)) := stepA (stepA hb1 hb2) hbt
  have hJP := hJ.lt
  have hLP := hL.lt
  clear hJ hL hbt hb1 hb2 hJ0 hL0 HB HV
  go_upto_region 5 with fail
  generalize w2.alloc (.cells #[.slice a n c, .slice (some ⟨J, 0, none⟩) n n, .slice none 0 0, .slice (some ⟨L, 0, none⟩) n n] 80) = w3 at *
  generalize w2.heap.size = Pb at *
  go_loopw [36] (fun i wr => ∃ t : Nat, t ≤ U ∧ i = .int .i64 (t : Int) ∧ Hid (∃ v, Im wr Pb J L n a c n F f (ruP true n F f t) v) ∧ Below w0.heap.size w0 wr) (fun i _ => U - (intOf i).toNat)
  case atStart => exact ⟨0, Nat.zero_le _, rfl, HI, hbb⟩
  case round =>
    obtain ⟨t, ht, rfl, HM, hB⟩ := hrel
    clear HI hbb
    by_cases hlt : t < U
    · have i2 : (t : Int) < (U : Int) := by omega
      obtain ⟨v, hI⟩ := HM.out
      have HN := fun (h9 : whP true n F f (ruP true n F f t) (t : Int) < 0) => ru_none h9
      have HS := fun (j : Nat) (h9 : whP true n F f (ruP true n F f t) (t : Int) = (j : Int)) => ru_some h9
      have hP := pk_run true HG.out Hf.out t (by omega)
      have wb := whP_bd true n F f (ruP true n F f t) (t : Int)
      have hcw := fun (h9 : 0 ≤ whP true n F f (ruP true n F f t) (t : Int)) => chW_came (c := cmP F f (ruP true n F f t)) (u := ugP true F f (ruP true n F f t)) (t := (t : Int)) (k := n) h9
      have b1 := b0.on hB
      have c0 := b1.c0
      have c1 := hI.box.c1
      have pl := hI.box.lt
      have hBw := hb0.trans (hB.mono (Nat.le_of_lt hsz0))
      have kC := iChooseU J n n F f (ruP true n F f t) t wr HG.out Hf.out hP (by omega) hI.jb pp a c ((hBw.cell (p := ⟨pp, 0, none⟩) hpl).trans hp) (Nat.lt_of_lt_of_le hpl hBw.size) (h.below hBw)
      clear hBw
      clear HM
      have HN : Hid (whP true n F f (ruP true n F f t) (t : Int) < 0 → ruP true n F f (t + 1) = ruP true n F f t) := HN
      have HS : Hid (∀ j : Nat, whP true n F f (ruP true n F f t) (t : Int) = (j : Int) → ruP true n F f (t + 1) = gvP F f (ruP true n F f t) (t : Int) j) := HS
      have HP : Hid (Pk n F f (ruP true n F f t) t) := hP
      have HI : Hid (Im wr Pb J L n a c n F f (ruP true n F f t) v) := hI
      clear hP hI hcw
      go_wp2_with fail
      refine kC.mono ?_
      rintro e w4 ⟨rfl, hb4⟩
      have HI4 : Hid (Im w4 Pb J L n a c n F f (ruP true n F f t) v) := HI.out.below hb4
      have hB4 := stepA hB hb4
      clear kC hb4 HI
      obtain ⟨wb0, wb1⟩ := wb
      generalize hWh : whP true n F f (ruP true n F f t) (t : Int) = Wh at *
      clear hWh
      by_cases hwh : Wh = -1
      · have hw1 : (Wh != -1) = false := by simp [hwh]
        have HR : Hid (∃ v, Im w4 Pb J L n a c n F f (ruP true n F f (t + 1)) v) := ⟨v, by rw [HN.out (by omega)]; exact HI4.out⟩
        clear HN HS HP HG Hf HI4 hwh
        go_wp2
        go_roundw
        case rel => exact ⟨t + 1, by omega, by go_num, HR, hB4⟩
        case measure => simp [intOf]; omega
      · have hw1 : (Wh != -1) = true := by simp [hwh]
        obtain ⟨j, rfl⟩ : ∃ j : Nat, Wh = (j : Int) := ⟨Wh.toNat, by omega⟩
        have hjn : j < n := by omega
        have kG := iGive w0 Pb J L n t j a c n F f (ruP true n F f t) v w4 HG.out Hf.out HP.out (by omega) hjn HI4.out hJP hLP hJL hJ00 hL00 (h.below hb0) hB4
        rw [← HS.out j rfl] at kG
        clear HN HS HP HG Hf HI4 hwh
        go_wp2_with fail
        refine kG.mono ?_
        rintro e w5 ⟨rfl, hI5, hb5⟩
        have HI5 : Hid (∃ v, Im w5 Pb J L n a c n F f (ruP true n F f (t + 1)) v) := hI5
        have hB5 := hB4.trans hb5
        clear hI5 hb5 kG
        go_wp2
        go_roundw
        case rel => exact ⟨t + 1, by omega, by go_num, HI5, hB5⟩
        case measure => simp [intOf]; omega
    · have e : t = U := by omega
      subst e
      have i2 : ¬ (t : Int) < (t : Int) := by omega
      obtain ⟨v, hI⟩ := HM.out
      have c2 := hI.box.c2
      have c3 := hI.box.c3
      have pl := hI.box.lt
      obtain ⟨sa, sc, rfl⟩ := hI.sl.shape
      have HIO : Hid (Im wr Pb J L n a c n F f (ruP true n F f t) (.slice sa (ruP true n F f t).m sc)) := hI.below (Below.refl _ _)
      clear HG Hf HM hI
      go_wp2_with fail
      go_region
      go_wp2
      go_ret3
      have hI := HIO.out.below (Below.refl wr.heap.size wr).drew
      exact ⟨⟨_, _, _, _, Pb, rfl, by omega, Nat.le_of_lt hI.box.lt, hI.sl.lq.wide (by omega) (Nat.le_refl _), lq_of hI.lo (by omega) hLP⟩, (hb0.trans (hB.mono (Nat.le_of_lt hsz0))).drew⟩
end Go.Proofs.Ytnadedncjbibhaa
