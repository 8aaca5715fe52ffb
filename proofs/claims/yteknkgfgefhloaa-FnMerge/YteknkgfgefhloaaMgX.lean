/- The model's merge (tools/gen_mgx.py). -/
import Derived.Test.YteknkgfgefhloaaMgV
import Derived.Deep.RegionHeld
import Derived.Deep.Cut
import Derived.Deep.CutRange
import Derived.BigRegion
namespace Go.Proofs.Yteknkgfgefhloaa
open Go.RowKit
theorem mg_nil (a : List Sw) : mg a [] = some a := by cases a <;> rw [mg]
theorem drop_at {F : Nat → Int} {n i : Nat} (h : i < n) : (wl F n).drop i = swF F i :: (wl F n).drop (i + 1) := by
  have e : (wl F n)[i]'(by rw [wl_len]; exact h) = swF F i := by simp [wl]
  rw [List.drop_eq_getElem_cons (by rw [wl_len]; exact h), e]
theorem drop_end (F : Nat → Int) (n : Nat) : (wl F n).drop n = [] := List.drop_eq_nil_of_le (by rw [wl_len]; exact Nat.le_refl _)
/-- what is still to be merged, behind z -/
def Mz (R : Option (List Sw)) (f1 : Nat → Int) (n1 : Nat) (f2 : Nat → Int) (n2 i k : Nat) (z : List Sw) : Prop := R = (mg ((wl f1 n1).drop i) ((wl f2 n2).drop k)).map (z ++ ·)
section
variable {R : Option (List Sw)} {f1 f2 : Nat → Int} {n1 n2 i k : Nat} {z : List Sw}
theorem mz_a (h : Mz R f1 n1 f2 n2 i k z) (hi : i < n1) (hk : k = n2 ∨ (k < n2 ∧ ltB2 (swF f1 i) (swF f2 k) = true)) : Mz R f1 n1 f2 n2 (i + 1) k (z ++ [swF f1 i]) := by
  unfold Mz at *
  rw [h, drop_at hi]
  rcases hk with rfl | ⟨h1, h2⟩
  · rw [drop_end, mg_nil, mg_nil]; simp
  · have q : kLt (swF f1 i) (swF f2 k) := of_decide_eq_true h2
    rw [drop_at h1, mg, if_pos q]
    simp [Option.map_map, Function.comp_def]
theorem mz_b (h : Mz R f1 n1 f2 n2 i k z) (hk : k < n2) (hi : i = n1 ∨ (i < n1 ∧ ltB2 (swF f1 i) (swF f2 k) = false ∧ ltB2 (swF f2 k) (swF f1 i) = true)) : Mz R f1 n1 f2 n2 i (k + 1) (z ++ [swF f2 k]) := by
  unfold Mz at *
  rw [h, drop_at hk]
  rcases hi with rfl | ⟨h1, h2, h3⟩
  · rw [drop_end, mg, mg]; simp
  · have q : ¬ kLt (swF f1 i) (swF f2 k) := of_decide_eq_false h2
    have q2 : kLt (swF f2 k) (swF f1 i) := of_decide_eq_true h3
    rw [drop_at h1, mg, if_neg q, if_pos q2]
    simp [Option.map_map, Function.comp_def]
theorem mz_no (h : Mz R f1 n1 f2 n2 i k z) (hk : k < n2) (hi : i < n1) (h2 : ltB2 (swF f1 i) (swF f2 k) = false) (h3 : ltB2 (swF f2 k) (swF f1 i) = false) (hw : f1 (i * 3 + 2) ≠ f2 (k * 3 + 2)) : R = none := by
  unfold Mz at *
  have q : ¬ kLt (swF f1 i) (swF f2 k) := of_decide_eq_false h2
  have q2 : ¬ kLt (swF f2 k) (swF f1 i) := of_decide_eq_false h3
  rw [h, drop_at hi, drop_at hk, mg, if_neg q, if_neg q2, if_neg (by exact hw)]
  rfl
theorem mz_ab (h : Mz R f1 n1 f2 n2 i k z) (hk : k < n2) (hi : i < n1) (h2 : ltB2 (swF f1 i) (swF f2 k) = false) (h3 : ltB2 (swF f2 k) (swF f1 i) = false) (hw : f1 (i * 3 + 2) = f2 (k * 3 + 2)) : Mz R f1 n1 f2 n2 (i + 1) (k + 1) (z ++ [swF f1 i]) := by
  unfold Mz at *
  have q : ¬ kLt (swF f1 i) (swF f2 k) := of_decide_eq_false h2
  have q2 : ¬ kLt (swF f2 k) (swF f1 i) := of_decide_eq_false h3
  rw [h, drop_at hi, drop_at hk, mg, if_neg q, if_neg q2, if_pos (by exact hw)]
  simp [Option.map_map, Function.comp_def]
theorem mz_end (h : Mz R f1 n1 f2 n2 n1 n2 z) : R = some z := by
  unfold Mz at *
  rw [h, drop_end, drop_end, mg]
  simp
end
theorem fl_lo (z : List Sw) (x : Sw) {t : Nat} (h : t < z.length * 3) : flS (z ++ [x]) t = flS z t := by
  unfold flS
  simp only [List.getD]
  rw [List.getElem?_append_left (by omega)]
theorem fl_hi (z : List Sw) (x : Sw) {j : Nat} (h : j < 3) : flS (z ++ [x]) (z.length * 3 + j) = cS x j := by
  unfold flS
  rw [show (z.length * 3 + j) / 3 = z.length by omega, show (z.length * 3 + j) % 3 = j by omega]
  simp [List.getD]
theorem own_fl {w : World} {base : Nat} {v : Value} {z : List Sw} {x : Sw} (h : w.ownsRow base 29 3 v (z.length + 1) (vL (flS z) (z.length * 3) ++ [.int .i64 x.1, .int .i64 x.2.1, .int .i64 x.2.2])) : OwnS w base v (z ++ [x]).length (flS (z ++ [x])) := by
  have e0 : (z ++ [x]).length = z.length + 1 := by simp
  have e1 : vL (flS (z ++ [x])) (z.length * 3) = vL (flS z) (z.length * 3) := List.map_congr_left fun i hi => by rw [fl_lo z x (List.mem_range.1 hi)]
  unfold OwnS
  rw [e0, show (z.length + 1) * 3 = z.length * 3 + 1 + 1 + 1 by omega, vL_succ, vL_succ, vL_succ, e1]
  have a0 := fl_hi z x (j := 0) (by omega)
  have a1 := fl_hi z x (j := 1) (by omega)
  have a2 := fl_hi z x (j := 2) (by omega)
  rw [Nat.add_zero] at a0
  rw [a0, a1, show z.length * 3 + 1 + 1 = z.length * 3 + 2 by omega, a2]
  simpa [cS] using h
theorem new3 (w : World) (p q r : Value) (t : TypeId) : ∀ j u, [p, q, r][j]? = some u → (w.alloc (.cells #[p, q, r] t)).cell? ((⟨w.heap.size, 0, none⟩ : Addr).add j) = some u := by
  intro j u hj
  match j, hj with
  | 0, hj => simp at hj; subst hj; simp [Addr.add]
  | 1, hj => simp at hj; subst hj; simp [Addr.add]
  | 2, hj => simp at hj; subst hj; simp [Addr.add]
theorem infoSt : ∃ i, Try.prog.info? 29 = some i ∧ i.zero = some (spv 0 0 0) ∧ i.size = 3 ∧ i.bytes = 24 := by
  obtain ⟨i0, hi, hzz⟩ := Option.map_eq_some_iff.1 infoStamped
  simp only [Prod.mk.injEq] at hzz
  exact ⟨i0, hi, hzz⟩
/-- the row that is merged so far, and what comes on -/
structure Mr (w wr : World) (v : Value) (R : Option (List Sw)) (f1 : Nat → Int) (n1 : Nat) (f2 : Nat → Int) (n2 i k : Nat) (z : List Sw) : Prop where
  own : OwnS wr w.heap.size v z.length (flS z)
  mz : Mz R f1 n1 f2 n2 i k z
  le : z.length ≤ i + k
  bel : Below w.heap.size w wr
set_option maxRecDepth 20000 in
set_option maxHeartbeats 8000000 in
theorem sMerge (va vb : Option Addr) (n1 c1 n2 c2 : Nat) (f1 f2 : Nat → Int) (w : World) (h1 : n1 ≤ 1048576) (h2 : n2 ≤ 1048576) (s1 : IL w va (n1 * 3) f1) (s2 : IL w vb (n2 * 3) f2) :
    Calls Try.prog 10 #[.slice va n1 c1, .slice vb n2 c2] w fun e w' => AnsM w w' e (okM f1 n1 f2 n2) ∧ Below w.heap.size w w' := by
  have kg1 := sStamped va n1 c1 f1 w h1 s1
  have kg2 := fun w1 (hb : Below w.heap.size w w1) => sStamped vb n2 c2 f2 w1 h2 (s2.below hb)
  cases g1 : (decide (n1 ≤ 40) && risK f1 n1) with
  | false =>
    have e : okM f1 n1 f2 n2 = none := by unfold okM; rw [g1]; simp
    rw [e]
    rw [g1] at kg1
    clear g1 e s1 s2
    go_enter Try.func10, Try.ntmps10
    go_wp2_with fail
    refine kg1.mono ?_
    rintro e w1 ⟨rfl, hb1⟩
    go_wp2
    go_ret2
    exact ⟨rfl, hb1⟩
  | true =>
    cases g2 : (decide (n2 ≤ 40) && risK f2 n2) with
    | false =>
      have e : okM f1 n1 f2 n2 = none := by unfold okM; rw [g1, g2]; simp
      rw [e]
      rw [g1] at kg1
      rw [g2] at kg2
      clear g1 g2 e s1 s2
      go_enter Try.func10, Try.ntmps10
      go_wp2_with fail
      refine kg1.mono ?_
      rintro e w1 ⟨rfl, hb1⟩
      go_wp2_with fail
      refine (kg2 _ hb1).mono ?_
      rintro e w2 ⟨rfl, hb2⟩
      have hB2 := stepA hb1 hb2
      go_wp2
      go_ret2
      exact ⟨rfl, hB2⟩
    | true =>
      have e : okM f1 n1 f2 n2 = mg (wl f1 n1) (wl f2 n2) := by unfold okM; rw [g1, g2]; simp
      have l1 : n1 ≤ 40 := of_decide_eq_true (Bool.and_eq_true _ _ ▸ g1).1
      have l2 : n2 ≤ 40 := of_decide_eq_true (Bool.and_eq_true _ _ ▸ g2).1
      rw [e]
      rw [g1] at kg1
      rw [g2] at kg2
      clear g1 g2 e
      obtain ⟨R, hR⟩ : ∃ R, R = mg (wl f1 n1) (wl f2 n2) := ⟨_, rfl⟩
      rw [← hR]
      have HM0 : Hid (∀ wx, Below w.heap.size w wx → Mr w wx (.slice none 0 0) R f1 n1 f2 n2 0 0 []) := fun wx hb => ⟨World.ownsRow_nil _ _ _ _, by unfold Mz; rw [hR]; simp, Nat.zero_le _, hb⟩
      clear hR
      obtain ⟨ist, hist, hz0, hz1, hz2⟩ := infoSt
      go_enter Try.func10, Try.ntmps10
      go_wp2_with fail
      refine kg1.mono ?_
      rintro e w1 ⟨rfl, hb1⟩
      go_wp2_with fail
      refine (kg2 _ hb1).mono ?_
      rintro e w2 ⟨rfl, hb2⟩
      have hB2 := stepA hb1 hb2
      have HM2 : Hid (Mr w w2 (.slice none 0 0) R f1 n1 f2 n2 0 0 []) := HM0.out w2 hB2
      clear kg1 kg2 hb1 hb2 HM0 hB2
      go_upto_region 6 with fail
      go_loopw [6, 7, 8] (fun v ix kx wr => ∃ (i k : Nat) (z : List Sw), i ≤ n1 ∧ k ≤ n2 ∧ ix = .int .i64 (i : Int) ∧ kx = .int .i64 (k : Int) ∧ Hid (Mr w wr v R f1 n1 f2 n2 i k z)) (fun _ ix kx _ => (n1 - (intOf ix).toNat) + (n2 - (intOf kx).toNat))
      case atStart => exact ⟨0, 0, [], Nat.zero_le _, Nat.zero_le _, rfl, rfl, HM2⟩
      case round =>
        obtain ⟨i, k, z, hi, hk, rfl, rfl, HM⟩ := hrel
        clear HM2
        have dr : Below wr.heap.size wr wr.drew := (Below.refl _ _).drew
        by_cases hki : k = n2
        · subst hki
          by_cases hin : i < n1
          · have i1 : (i : Int) < (n1 : Int) := by omega
            have i0 : (0 : Int) ≤ (i : Int) := by omega
            have ke : ((k : Int) == (k : Int)) = true := by simp
            obtain ⟨ab, ao_, ea, al_, x0, x1, x2⟩ := il_three (s1.below HM.out.bel) hin
            have x0' := (dr.cell (p := ⟨ab, _, none⟩) al_).trans x0
            have x1' := (dr.cell (p := ⟨ab, _, none⟩) al_).trans x1
            have x2' := (dr.cell (p := ⟨ab, _, none⟩) al_).trans x2
            have HZ : Hid (Mz R f1 n1 f2 k (i + 1) k (z ++ [(f1 (i * 3), f1 (i * 3 + 1), f1 (i * 3 + 2))])) := mz_a HM.out.mz hin (.inl rfl)
            subst ea
            generalize f1 (i * 3) = A0 at *
            generalize f1 (i * 3 + 1) = A1 at *
            generalize f1 (i * 3 + 2) = A2 at *
            go_upto_region 7 with fail
            refine wp_region_held (S := (fun w' => True)) (by kernel_rfl) ?_
            change wpAnyH _ _ _ _ _ _ _ _ (World.drew _)
            have hSw := trivial
            refine wpAnyH_take (i := 0) (v := .int .i64 (k : Int)) rfl (by kernel_rfl) (by kernel_rfl) (by kernel_rfl) (fun _ _ _ h => h) (Or.inl ⟨by rfl, ?_⟩) hSw ?_
            · intro wz hsz
              obtain ⟨⟩ := hsz
              go_simp
            try simp [Act.put]
            refine wpAnyH_take (i := 1) (v := (.slice vb k c2)) rfl (by kernel_rfl) (by kernel_rfl) (by kernel_rfl) (fun _ _ _ h => h) (Or.inl ⟨by rfl, ?_⟩) hSw ?_
            · intro wz hsz
              obtain ⟨⟩ := hsz
              go_simp
            try simp [Act.put]
            refine wpAnyH_take (i := 2) (v := .int .i64 (k : Int)) rfl (by kernel_rfl) (by kernel_rfl) (by kernel_rfl) (fun _ _ _ h => h) (Or.inl ⟨by rfl, ?_⟩) hSw ?_
            · intro wz hsz
              obtain ⟨⟩ := hsz
              go_simp
            try simp [Act.put]
            refine wpAnyH_take (i := 3) (v := .bool true) rfl (by kernel_rfl) (by kernel_rfl) (by kernel_rfl) (fun _ _ _ h => h) (Or.inl ⟨by rfl, ?_⟩) hSw ?_
            · intro wz hsz
              obtain ⟨⟩ := hsz
              go_simp
            try simp [Act.put]
            refine wpAnyH_take (i := 4) (v := .bool true) rfl (by kernel_rfl) (by kernel_rfl) (by kernel_rfl) (fun _ _ _ h => h) (Or.inl ⟨by rfl, ?_⟩) hSw ?_
            · intro wz hsz
              obtain ⟨⟩ := hsz
              go_simp
            try simp [Act.put]
            refine wpAnyH_take (i := 5) (v := undef) rfl (by kernel_rfl) (by kernel_rfl) (by kernel_rfl) (fun _ _ _ h => h) (Or.inr ⟨by kernel_rfl, rfl⟩) hSw ?_
            try simp [Act.put]
            refine wpAnyH_take (i := 6) (v := undef) rfl (by kernel_rfl) (by kernel_rfl) (by kernel_rfl) (fun _ _ _ h => h) (Or.inr ⟨by kernel_rfl, rfl⟩) hSw ?_
            try simp [Act.put]
            refine wpAnyH_take (i := 7) (v := undef) rfl (by kernel_rfl) (by kernel_rfl) (by kernel_rfl) (fun _ _ _ h => h) (Or.inr ⟨by kernel_rfl, rfl⟩) hSw ?_
            try simp [Act.put]
            refine wpAnyH_take (i := 8) (v := undef) rfl (by kernel_rfl) (by kernel_rfl) (by kernel_rfl) (fun _ _ _ h => h) (Or.inr ⟨by kernel_rfl, rfl⟩) hSw ?_
            try simp [Act.put]
            refine wpAnyH_take (i := 9) (v := undef) rfl (by kernel_rfl) (by kernel_rfl) (by kernel_rfl) (fun _ _ _ h => h) (Or.inr ⟨by kernel_rfl, rfl⟩) hSw ?_
            try simp [Act.put]
            refine wpAnyH_take (i := 10) (v := undef) rfl (by kernel_rfl) (by kernel_rfl) (by kernel_rfl) (fun _ _ _ h => h) (Or.inr ⟨by kernel_rfl, rfl⟩) hSw ?_
            try simp [Act.put]
            refine wpAnyH_take (i := 11) (v := undef) rfl (by kernel_rfl) (by kernel_rfl) (by kernel_rfl) (fun _ _ _ h => h) (Or.inr ⟨by kernel_rfl, rfl⟩) hSw ?_
            try simp [Act.put]
            refine wpAnyH_take (i := 12) (v := undef) rfl (by kernel_rfl) (by kernel_rfl) (by kernel_rfl) (fun _ _ _ h => h) (Or.inr ⟨by kernel_rfl, rfl⟩) hSw ?_
            try simp [Act.put]
            refine wpAnyH_take (i := 13) (v := undef) rfl (by kernel_rfl) (by kernel_rfl) (by kernel_rfl) (fun _ _ _ h => h) (Or.inr ⟨by kernel_rfl, rfl⟩) hSw ?_
            try simp [Act.put]
            refine wpAnyH_take (i := 14) (v := undef) rfl (by kernel_rfl) (by kernel_rfl) (by kernel_rfl) (fun _ _ _ h => h) (Or.inr ⟨by kernel_rfl, rfl⟩) hSw ?_
            try simp [Act.put]
            refine wpAnyH_take (i := 15) (v := undef) rfl (by kernel_rfl) (by kernel_rfl) (by kernel_rfl) (fun _ _ _ h => h) (Or.inr ⟨by kernel_rfl, rfl⟩) hSw ?_
            try simp [Act.put]
            refine wpAnyH_take (i := 16) (v := undef) rfl (by kernel_rfl) (by kernel_rfl) (by kernel_rfl) (fun _ _ _ h => h) (Or.inr ⟨by kernel_rfl, rfl⟩) hSw ?_
            try simp [Act.put]
            refine wpAnyH_take (i := 17) (v := undef) rfl (by kernel_rfl) (by kernel_rfl) (by kernel_rfl) (fun _ _ _ h => h) (Or.inr ⟨by kernel_rfl, rfl⟩) hSw ?_
            try simp [Act.put]
            refine wpAnyH_take (i := 18) (v := undef) rfl (by kernel_rfl) (by kernel_rfl) (by kernel_rfl) (fun _ _ _ h => h) (Or.inr ⟨by kernel_rfl, rfl⟩) hSw ?_
            try simp [Act.put]
            refine wpAnyH_take (i := 19) (v := undef) rfl (by kernel_rfl) (by kernel_rfl) (by kernel_rfl) (fun _ _ _ h => h) (Or.inr ⟨by kernel_rfl, rfl⟩) hSw ?_
            try simp [Act.put]
            refine wpAnyH_take (i := 20) (v := .bool true) rfl (by kernel_rfl) (by kernel_rfl) (by kernel_rfl) (fun _ _ _ h => h) (Or.inl ⟨by rfl, ?_⟩) hSw ?_
            · intro wz hsz
              obtain ⟨⟩ := hsz
              go_simp
            try simp [Act.put]
            refine wpAnyH_done (by kernel_rfl) ?_ _
            clear hSw x0 x1 x2
            generalize wr.drew = w6 at *
            obtain ⟨sa, sc, rfl⟩ := HM.out.own.shape
            have hO := (HM.out.own).below dr
            have hBw := stepA HM.out.bel dr
            have hsz := hBw.size
            have hle := HM.out.le
            go_wp2_with (at_builtin; refine wpList_append_own _ rfl _ _ 23 rfl w.heap.size 29 ist (spv 0 0 0) 3 24 Try.underlying23 hist hz0 hz1 hz2 rfl (by decide) _ _ _ rfl (World.ownsRow.alloc hO _) ⟨w6.heap.size, 0, none⟩ 1 1 [.int .i64 A0, .int .i64 A1, .int .i64 A2] rfl rfl (new3 _ _ _ _ _) (fun x hx => by simp at hx; rcases hx with rfl | rfl | rfl <;> rfl) (by unfold maxLen; omega) (by omega) (by simp; omega) ?_; intro v' w22 hown' hgrow3 _)
            have HN : Hid (Mr w w22 v' R f1 n1 f2 k (i + 1) (k) (z ++ [(A0, A1, A2)])) := ⟨own_fl (x := (A0, A1, A2)) hown', HZ.out, by simp; omega, (hBw.alloc (by omega) _).grown hgrow3 (by simp; omega) (fun q hq => (World.ownsRow.lt hO q hq).1)⟩
            clear hO hBw hown' hgrow3 HM
            go_wp2
            go_roundw
            case rel => exact ⟨i + 1, k, _, by omega, by omega, by go_num, by go_num, HN⟩
            case measure => simp [intOf]; omega
          · have e : i = n1 := by omega
            subst e
            have i1 : ¬ (i : Int) < (i : Int) := by omega
            have i2 : ¬ (k : Int) < (k : Int) := by omega
            have e2 : R = some z := mz_end HM.out.mz
            subst e2
            obtain ⟨sa, sc, rfl⟩ := HM.out.own.shape
            have HO : Hid (LQ wr w.heap.size wr.heap.size sa (z.length * 3) (flS z)) := HM.out.own.lq
            have hBw := HM.out.bel
            clear HM
            go_wp2
            go_ret2
            exact ⟨⟨_, _, rfl, HO.out⟩, hBw⟩
        · have hkn : k < n2 := by omega
          have k1 : (k : Int) < (n2 : Int) := by omega
          have k0 : (0 : Int) ≤ (k : Int) := by omega
          have ke : ((k : Int) == (n2 : Int)) = false := by simp; omega
          obtain ⟨bb, bo_, eb, bl_, y0, y1, y2⟩ := il_three (s2.below HM.out.bel) hkn
          by_cases hin : i < n1
          · have i1 : (i : Int) < (n1 : Int) := by omega
            have i0 : (0 : Int) ≤ (i : Int) := by omega
            have ie : ((i : Int) == (n1 : Int)) = false := by simp; omega
            obtain ⟨ab, ao_, ea, al_, x0, x1, x2⟩ := il_three (s1.below HM.out.bel) hin
            have HZa : Hid (ltB2 (f1 (i * 3), f1 (i * 3 + 1), f1 (i * 3 + 2)) (f2 (k * 3), f2 (k * 3 + 1), f2 (k * 3 + 2)) = true → Mz R f1 n1 f2 n2 (i + 1) k (z ++ [(f1 (i * 3), f1 (i * 3 + 1), f1 (i * 3 + 2))])) := fun h9 => mz_a HM.out.mz hin (.inr ⟨hkn, h9⟩)
            have HZb : Hid (ltB2 (f1 (i * 3), f1 (i * 3 + 1), f1 (i * 3 + 2)) (f2 (k * 3), f2 (k * 3 + 1), f2 (k * 3 + 2)) = false → ltB2 (f2 (k * 3), f2 (k * 3 + 1), f2 (k * 3 + 2)) (f1 (i * 3), f1 (i * 3 + 1), f1 (i * 3 + 2)) = true → Mz R f1 n1 f2 n2 i (k + 1) (z ++ [(f2 (k * 3), f2 (k * 3 + 1), f2 (k * 3 + 2))])) := fun h9 h8 => mz_b HM.out.mz hkn (.inr ⟨hin, h9, h8⟩)
            have HZn : Hid (ltB2 (f1 (i * 3), f1 (i * 3 + 1), f1 (i * 3 + 2)) (f2 (k * 3), f2 (k * 3 + 1), f2 (k * 3 + 2)) = false → ltB2 (f2 (k * 3), f2 (k * 3 + 1), f2 (k * 3 + 2)) (f1 (i * 3), f1 (i * 3 + 1), f1 (i * 3 + 2)) = false → f1 (i * 3 + 2) ≠ f2 (k * 3 + 2) → R = none) := fun h9 h8 h7 => mz_no HM.out.mz hkn hin h9 h8 h7
            have HZc : Hid (ltB2 (f1 (i * 3), f1 (i * 3 + 1), f1 (i * 3 + 2)) (f2 (k * 3), f2 (k * 3 + 1), f2 (k * 3 + 2)) = false → ltB2 (f2 (k * 3), f2 (k * 3 + 1), f2 (k * 3 + 2)) (f1 (i * 3), f1 (i * 3 + 1), f1 (i * 3 + 2)) = false → f1 (i * 3 + 2) = f2 (k * 3 + 2) → Mz R f1 n1 f2 n2 (i + 1) (k + 1) (z ++ [(f1 (i * 3), f1 (i * 3 + 1), f1 (i * 3 + 2))])) := fun h9 h8 h7 => mz_ab HM.out.mz hkn hin h9 h8 h7
            subst ea
            subst eb
            generalize f1 (i * 3) = A0 at *
            generalize f1 (i * 3 + 1) = A1 at *
            generalize f1 (i * 3 + 2) = A2 at *
            generalize f2 (k * 3) = B0 at *
            generalize f2 (k * 3 + 1) = B1 at *
            generalize f2 (k * 3 + 2) = B2 at *
            have kb1 := fun w => sBefore A0 A1 A2 B0 B1 B2 w
            have kb2 := fun w => sBefore B0 B1 B2 A0 A1 A2 w
            generalize ltB2 (A0, A1, A2) (B0, B1, B2) = T1 at *
            generalize ltB2 (B0, B1, B2) (A0, A1, A2) = T2 at *
            go_upto_region 7 with fail
            go_cut [47] from 27 to 47 (fun s47 wx => s47 = .bool T1 ∧ Below wr.heap.size wr wx)
            case first =>
              refine wp_region_held (S := (fun w' => w'.cell? ⟨ab, ao_ + i * 3, none⟩ = some (.int .i64 A0) ∧ w'.cell? ⟨ab, ao_ + i * 3 + 1, none⟩ = some (.int .i64 A1) ∧ w'.cell? ⟨ab, ao_ + i * 3 + 2, none⟩ = some (.int .i64 A2) ∧ w'.cell? ⟨bb, bo_ + k * 3, none⟩ = some (.int .i64 B0) ∧ w'.cell? ⟨bb, bo_ + k * 3 + 1, none⟩ = some (.int .i64 B1) ∧ w'.cell? ⟨bb, bo_ + k * 3 + 2, none⟩ = some (.int .i64 B2))) (by kernel_rfl) ?_
              change wpAnyH _ _ _ _ _ _ _ _ (World.drew _)
              have hSw := (keep4_sp x0 x1 x2 y0 y1 y2 al_ bl_ (dr) : _ ∧ _ ∧ _ ∧ _ ∧ _ ∧ _)
              refine wpAnyH_take (i := 0) (v := .int .i64 (k : Int)) rfl (by kernel_rfl) (by kernel_rfl) (by kernel_rfl) (fun _ _ _ h => h) (Or.inl ⟨by rfl, ?_⟩) hSw ?_
              · intro wz hsz
                obtain ⟨e0, e1, e2, e3, e4, e5⟩ := hsz
                go_simp
              try simp [Act.put]
              refine wpAnyH_take (i := 1) (v := (.slice (some ⟨bb, bo_, none⟩) n2 c2)) rfl (by kernel_rfl) (by kernel_rfl) (by kernel_rfl) (fun _ _ _ h => h) (Or.inl ⟨by rfl, ?_⟩) hSw ?_
              · intro wz hsz
                obtain ⟨e0, e1, e2, e3, e4, e5⟩ := hsz
                go_simp
              try simp [Act.put]
              refine wpAnyH_take (i := 2) (v := .int .i64 (n2 : Int)) rfl (by kernel_rfl) (by kernel_rfl) (by kernel_rfl) (fun _ _ _ h => h) (Or.inl ⟨by rfl, ?_⟩) hSw ?_
              · intro wz hsz
                obtain ⟨e0, e1, e2, e3, e4, e5⟩ := hsz
                go_simp
              try simp [Act.put]
              refine wpAnyH_take (i := 3) (v := .bool false) rfl (by kernel_rfl) (by kernel_rfl) (by kernel_rfl) (fun _ _ _ h => h) (Or.inl ⟨by rfl, ?_⟩) hSw ?_
              · intro wz hsz
                obtain ⟨e0, e1, e2, e3, e4, e5⟩ := hsz
                go_simp
              try simp [Act.put]
              refine wpAnyH_take (i := 4) (v := .bool false) rfl (by kernel_rfl) (by kernel_rfl) (by kernel_rfl) (fun _ _ _ h => h) (Or.inl ⟨by rfl, ?_⟩) hSw ?_
              · intro wz hsz
                obtain ⟨e0, e1, e2, e3, e4, e5⟩ := hsz
                go_simp
              try simp [Act.put]
              refine wpAnyH_take (i := 5) (v := .int .i64 (i : Int)) rfl (by kernel_rfl) (by kernel_rfl) (by kernel_rfl) (fun _ _ _ h => h) (Or.inl ⟨by rfl, ?_⟩) hSw ?_
              · intro wz hsz
                obtain ⟨e0, e1, e2, e3, e4, e5⟩ := hsz
                go_simp
              try simp [Act.put]
              refine wpAnyH_take (i := 6) (v := (.slice (some ⟨ab, ao_, none⟩) n1 c1)) rfl (by kernel_rfl) (by kernel_rfl) (by kernel_rfl) (fun _ _ _ h => h) (Or.inl ⟨by rfl, ?_⟩) hSw ?_
              · intro wz hsz
                obtain ⟨e0, e1, e2, e3, e4, e5⟩ := hsz
                go_simp
              try simp [Act.put]
              refine wpAnyH_take (i := 7) (v := .int .i64 (n1 : Int)) rfl (by kernel_rfl) (by kernel_rfl) (by kernel_rfl) (fun _ _ _ h => h) (Or.inl ⟨by rfl, ?_⟩) hSw ?_
              · intro wz hsz
                obtain ⟨e0, e1, e2, e3, e4, e5⟩ := hsz
                go_simp
              try simp [Act.put]
              refine wpAnyH_take (i := 8) (v := .bool true) rfl (by kernel_rfl) (by kernel_rfl) (by kernel_rfl) (fun _ _ _ h => h) (Or.inl ⟨by rfl, ?_⟩) hSw ?_
              · intro wz hsz
                obtain ⟨e0, e1, e2, e3, e4, e5⟩ := hsz
                go_simp
              try simp [Act.put]
              refine wpAnyH_take (i := 9) (v := .bool true) rfl (by kernel_rfl) (by kernel_rfl) (by kernel_rfl) (fun _ _ _ h => h) (Or.inl ⟨by rfl, ?_⟩) hSw ?_
              · intro wz hsz
                obtain ⟨e0, e1, e2, e3, e4, e5⟩ := hsz
                go_simp
              try simp [Act.put]
              refine wpAnyH_take (i := 10) (v := (.slice (some ⟨ab, ao_, none⟩) n1 c1)) rfl (by kernel_rfl) (by kernel_rfl) (by kernel_rfl) (fun _ _ _ h => h) (Or.inl ⟨by rfl, ?_⟩) hSw ?_
              · intro wz hsz
                obtain ⟨e0, e1, e2, e3, e4, e5⟩ := hsz
                go_simp
              try simp [Act.put]
              refine wpAnyH_take (i := 11) (v := .int .i64 (i : Int)) rfl (by kernel_rfl) (by kernel_rfl) (by kernel_rfl) (fun _ _ _ h => h) (Or.inl ⟨by rfl, ?_⟩) hSw ?_
              · intro wz hsz
                obtain ⟨e0, e1, e2, e3, e4, e5⟩ := hsz
                go_simp
              try simp [Act.put]
              refine wpAnyH_take (i := 12) (v := .pointer (some ⟨ab, ao_ + i * 3, none⟩)) rfl (by kernel_rfl) (by kernel_rfl) (by kernel_rfl) (fun _ _ _ h => h) (Or.inl ⟨by rfl, ?_⟩) hSw ?_
              · intro wz hsz
                obtain ⟨e0, e1, e2, e3, e4, e5⟩ := hsz
                go_simp
                try (intro h9; omega)
              try simp [Act.put]
              refine wpAnyH_take (i := 13) (v := spv A0 A1 A2) rfl (by kernel_rfl) (by kernel_rfl) (by kernel_rfl) (fun _ _ _ h => h) (Or.inl ⟨by rfl, ?_⟩) hSw ?_
              · intro wz hsz
                obtain ⟨e0, e1, e2, e3, e4, e5⟩ := hsz
                go_simp
              try simp [Act.put]
              refine wpAnyH_take (i := 14) (v := (.slice (some ⟨bb, bo_, none⟩) n2 c2)) rfl (by kernel_rfl) (by kernel_rfl) (by kernel_rfl) (fun _ _ _ h => h) (Or.inl ⟨by rfl, ?_⟩) hSw ?_
              · intro wz hsz
                obtain ⟨e0, e1, e2, e3, e4, e5⟩ := hsz
                go_simp
              try simp [Act.put]
              refine wpAnyH_take (i := 15) (v := .int .i64 (k : Int)) rfl (by kernel_rfl) (by kernel_rfl) (by kernel_rfl) (fun _ _ _ h => h) (Or.inl ⟨by rfl, ?_⟩) hSw ?_
              · intro wz hsz
                obtain ⟨e0, e1, e2, e3, e4, e5⟩ := hsz
                go_simp
              try simp [Act.put]
              refine wpAnyH_take (i := 16) (v := .pointer (some ⟨bb, bo_ + k * 3, none⟩)) rfl (by kernel_rfl) (by kernel_rfl) (by kernel_rfl) (fun _ _ _ h => h) (Or.inl ⟨by rfl, ?_⟩) hSw ?_
              · intro wz hsz
                obtain ⟨e0, e1, e2, e3, e4, e5⟩ := hsz
                go_simp
                try (intro h9; omega)
              try simp [Act.put]
              refine wpAnyH_take (i := 17) (v := spv B0 B1 B2) rfl (by kernel_rfl) (by kernel_rfl) (by kernel_rfl) (fun _ _ _ h => h) (Or.inl ⟨by rfl, ?_⟩) hSw ?_
              · intro wz hsz
                obtain ⟨e0, e1, e2, e3, e4, e5⟩ := hsz
                go_simp
              try simp [Act.put]
              refine wpAnyH_ready (rs := [18]) (by kernel_rfl) (by simp) ?_
              refine AllReadyH.cons rfl (fun K hK => ?_) AllReadyH.nil
              go_simp
              go_wp2_with (first | (go_at_call 45; refine (kb1 _).mono ?_; rintro e w6 ⟨rfl, hb6⟩) | (fail))
              have hbb := stepA dr hb6
              refine hK.out _ _ (keep4_sp x0 x1 x2 y0 y1 y2 al_ bl_ (hbb)) (fun hSn => ?_)
              clear hK K hSw
              have hSw := hSn
              clear hSn
              try simp [Act.put]
              refine wpAnyH_take (i := 19) (v := .bool T1) rfl (by kernel_rfl) (by kernel_rfl) (by kernel_rfl) (fun _ _ _ h => h) (Or.inl ⟨by rfl, ?_⟩) hSw ?_
              · intro wz hsz
                obtain ⟨e0, e1, e2, e3, e4, e5⟩ := hsz
                go_simp
              try simp [Act.put]
              refine wpAnyH_take (i := 20) (v := .bool T1) rfl (by kernel_rfl) (by kernel_rfl) (by kernel_rfl) (fun _ _ _ h => h) (Or.inl ⟨by rfl, ?_⟩) hSw ?_
              · intro wz hsz
                obtain ⟨e0, e1, e2, e3, e4, e5⟩ := hsz
                go_simp
              try simp [Act.put]
              refine wpAnyH_done (by kernel_rfl) ?_ _
              go_wp2_with fail
              go_meet
              case rel => exact ⟨rfl, hbb⟩
            case rest =>
              obtain ⟨rfl, hw6⟩ := hcut
              obtain ⟨w6, hw6'⟩ : ∃ x, x = wc := ⟨wc, rfl⟩
              subst hw6'
              clear dr kb1
              obtain ⟨x0', x1', x2', y0', y1', y2'⟩ := keep4_sp x0 x1 x2 y0 y1 y2 al_ bl_ hw6
              cases T1 with
              | true =>
                have HZ := HZa.out rfl
                clear HZa HZb HZn HZc kb2
                obtain ⟨sa, sc, rfl⟩ := HM.out.own.shape
                have hO := (HM.out.own).below hw6
                have hBw := stepA HM.out.bel hw6
                have hsz := hBw.size
                have hle := HM.out.le
                go_wp2_with (at_builtin; refine wpList_append_own _ rfl _ _ 23 rfl w.heap.size 29 ist (spv 0 0 0) 3 24 Try.underlying23 hist hz0 hz1 hz2 rfl (by decide) _ _ _ rfl (World.ownsRow.alloc hO _) ⟨w6.heap.size, 0, none⟩ 1 1 [.int .i64 A0, .int .i64 A1, .int .i64 A2] rfl rfl (new3 _ _ _ _ _) (fun x hx => by simp at hx; rcases hx with rfl | rfl | rfl <;> rfl) (by unfold maxLen; omega) (by omega) (by simp; omega) ?_; intro v' w22 hown' hgrow3 _)
                have HN : Hid (Mr w w22 v' R f1 n1 f2 n2 (i + 1) (k) (z ++ [(A0, A1, A2)])) := ⟨own_fl (x := (A0, A1, A2)) hown', HZ, by simp; omega, (hBw.alloc (by omega) _).grown hgrow3 (by simp; omega) (fun q hq => (World.ownsRow.lt hO q hq).1)⟩
                clear hO hBw hown' hgrow3 HM
                go_wp2
                go_roundw
                case rel => exact ⟨i + 1, k, _, by omega, by omega, by go_num, by go_num, HN⟩
                case measure => simp [intOf]; omega
              | false =>
                have dr7 : Below wr.heap.size wr w6.drew := hw6.drew
                go_upto_region 10 with fail
                go_cut [71] from 57 to 71 (fun s71 wx => s71 = .bool T2 ∧ Below wr.heap.size wr wx)
                case first =>
                  clear x0' x1' x2' y0' y1' y2'
                  refine wp_region_held (S := (fun w' => w'.cell? ⟨ab, ao_ + i * 3, none⟩ = some (.int .i64 A0) ∧ w'.cell? ⟨ab, ao_ + i * 3 + 1, none⟩ = some (.int .i64 A1) ∧ w'.cell? ⟨ab, ao_ + i * 3 + 2, none⟩ = some (.int .i64 A2) ∧ w'.cell? ⟨bb, bo_ + k * 3, none⟩ = some (.int .i64 B0) ∧ w'.cell? ⟨bb, bo_ + k * 3 + 1, none⟩ = some (.int .i64 B1) ∧ w'.cell? ⟨bb, bo_ + k * 3 + 2, none⟩ = some (.int .i64 B2))) (by kernel_rfl) ?_
                  change wpAnyH _ _ _ _ _ _ _ _ (World.drew _)
                  have hSw := (keep4_sp x0 x1 x2 y0 y1 y2 al_ bl_ (dr7) : _ ∧ _ ∧ _ ∧ _ ∧ _ ∧ _)
                  refine wpAnyH_take (i := 0) (v := .int .i64 (i : Int)) rfl (by kernel_rfl) (by kernel_rfl) (by kernel_rfl) (fun _ _ _ h => h) (Or.inl ⟨by rfl, ?_⟩) hSw ?_
                  · intro wz hsz
                    obtain ⟨e0, e1, e2, e3, e4, e5⟩ := hsz
                    go_simp
                  try simp [Act.put]
                  refine wpAnyH_take (i := 1) (v := (.slice (some ⟨ab, ao_, none⟩) n1 c1)) rfl (by kernel_rfl) (by kernel_rfl) (by kernel_rfl) (fun _ _ _ h => h) (Or.inl ⟨by rfl, ?_⟩) hSw ?_
                  · intro wz hsz
                    obtain ⟨e0, e1, e2, e3, e4, e5⟩ := hsz
                    go_simp
                  try simp [Act.put]
                  refine wpAnyH_take (i := 2) (v := .int .i64 (n1 : Int)) rfl (by kernel_rfl) (by kernel_rfl) (by kernel_rfl) (fun _ _ _ h => h) (Or.inl ⟨by rfl, ?_⟩) hSw ?_
                  · intro wz hsz
                    obtain ⟨e0, e1, e2, e3, e4, e5⟩ := hsz
                    go_simp
                  try simp [Act.put]
                  refine wpAnyH_take (i := 3) (v := .bool false) rfl (by kernel_rfl) (by kernel_rfl) (by kernel_rfl) (fun _ _ _ h => h) (Or.inl ⟨by rfl, ?_⟩) hSw ?_
                  · intro wz hsz
                    obtain ⟨e0, e1, e2, e3, e4, e5⟩ := hsz
                    go_simp
                  try simp [Act.put]
                  refine wpAnyH_take (i := 4) (v := .bool false) rfl (by kernel_rfl) (by kernel_rfl) (by kernel_rfl) (fun _ _ _ h => h) (Or.inl ⟨by rfl, ?_⟩) hSw ?_
                  · intro wz hsz
                    obtain ⟨e0, e1, e2, e3, e4, e5⟩ := hsz
                    go_simp
                  try simp [Act.put]
                  refine wpAnyH_take (i := 5) (v := (.slice (some ⟨bb, bo_, none⟩) n2 c2)) rfl (by kernel_rfl) (by kernel_rfl) (by kernel_rfl) (fun _ _ _ h => h) (Or.inl ⟨by rfl, ?_⟩) hSw ?_
                  · intro wz hsz
                    obtain ⟨e0, e1, e2, e3, e4, e5⟩ := hsz
                    go_simp
                  try simp [Act.put]
                  refine wpAnyH_take (i := 6) (v := .int .i64 (k : Int)) rfl (by kernel_rfl) (by kernel_rfl) (by kernel_rfl) (fun _ _ _ h => h) (Or.inl ⟨by rfl, ?_⟩) hSw ?_
                  · intro wz hsz
                    obtain ⟨e0, e1, e2, e3, e4, e5⟩ := hsz
                    go_simp
                  try simp [Act.put]
                  refine wpAnyH_take (i := 7) (v := .pointer (some ⟨bb, bo_ + k * 3, none⟩)) rfl (by kernel_rfl) (by kernel_rfl) (by kernel_rfl) (fun _ _ _ h => h) (Or.inl ⟨by rfl, ?_⟩) hSw ?_
                  · intro wz hsz
                    obtain ⟨e0, e1, e2, e3, e4, e5⟩ := hsz
                    go_simp
                    try (intro h9; omega)
                  try simp [Act.put]
                  refine wpAnyH_take (i := 8) (v := spv B0 B1 B2) rfl (by kernel_rfl) (by kernel_rfl) (by kernel_rfl) (fun _ _ _ h => h) (Or.inl ⟨by rfl, ?_⟩) hSw ?_
                  · intro wz hsz
                    obtain ⟨e0, e1, e2, e3, e4, e5⟩ := hsz
                    go_simp
                  try simp [Act.put]
                  refine wpAnyH_take (i := 9) (v := (.slice (some ⟨ab, ao_, none⟩) n1 c1)) rfl (by kernel_rfl) (by kernel_rfl) (by kernel_rfl) (fun _ _ _ h => h) (Or.inl ⟨by rfl, ?_⟩) hSw ?_
                  · intro wz hsz
                    obtain ⟨e0, e1, e2, e3, e4, e5⟩ := hsz
                    go_simp
                  try simp [Act.put]
                  refine wpAnyH_take (i := 10) (v := .int .i64 (i : Int)) rfl (by kernel_rfl) (by kernel_rfl) (by kernel_rfl) (fun _ _ _ h => h) (Or.inl ⟨by rfl, ?_⟩) hSw ?_
                  · intro wz hsz
                    obtain ⟨e0, e1, e2, e3, e4, e5⟩ := hsz
                    go_simp
                  try simp [Act.put]
                  refine wpAnyH_take (i := 11) (v := .pointer (some ⟨ab, ao_ + i * 3, none⟩)) rfl (by kernel_rfl) (by kernel_rfl) (by kernel_rfl) (fun _ _ _ h => h) (Or.inl ⟨by rfl, ?_⟩) hSw ?_
                  · intro wz hsz
                    obtain ⟨e0, e1, e2, e3, e4, e5⟩ := hsz
                    go_simp
                    try (intro h9; omega)
                  try simp [Act.put]
                  refine wpAnyH_take (i := 12) (v := spv A0 A1 A2) rfl (by kernel_rfl) (by kernel_rfl) (by kernel_rfl) (fun _ _ _ h => h) (Or.inl ⟨by rfl, ?_⟩) hSw ?_
                  · intro wz hsz
                    obtain ⟨e0, e1, e2, e3, e4, e5⟩ := hsz
                    go_simp
                  try simp [Act.put]
                  refine wpAnyH_ready (rs := [13]) (by kernel_rfl) (by simp) ?_
                  refine AllReadyH.cons rfl (fun K hK => ?_) AllReadyH.nil
                  go_simp
                  go_wp2_with (first | (go_at_call 45; refine (kb2 _).mono ?_; rintro e w7 ⟨rfl, hb7⟩) | (fail))
                  have hbc := stepA dr7 hb7
                  refine hK.out _ _ (keep4_sp x0 x1 x2 y0 y1 y2 al_ bl_ (hbc)) (fun hSn => ?_)
                  clear hK K hSw
                  have hSw := hSn
                  clear hSn
                  try simp [Act.put]
                  refine wpAnyH_take (i := 14) (v := .bool T2) rfl (by kernel_rfl) (by kernel_rfl) (by kernel_rfl) (fun _ _ _ h => h) (Or.inl ⟨by rfl, ?_⟩) hSw ?_
                  · intro wz hsz
                    obtain ⟨e0, e1, e2, e3, e4, e5⟩ := hsz
                    go_simp
                  try simp [Act.put]
                  refine wpAnyH_done (by kernel_rfl) ?_ _
                  go_wp2_with fail
                  go_meet
                  case rel => exact ⟨rfl, hbc⟩
                case rest =>
                  clear x0' x1' x2' y0' y1' y2' hw6 dr7 kb2
                  obtain ⟨rfl, hw7⟩ := hcut
                  obtain ⟨w7, hw7'⟩ : ∃ x, x = wc := ⟨wc, rfl⟩
                  subst hw7'
                  obtain ⟨x0', x1', x2', y0', y1', y2'⟩ := keep4_sp x0 x1 x2 y0 y1 y2 al_ bl_ hw7
                  have al7 : ab < w7.heap.size := Nat.lt_of_lt_of_le al_ hw7.size
                  have bl7 : bb < w7.heap.size := Nat.lt_of_lt_of_le bl_ hw7.size
                  cases T2 with
                  | true =>
                    have HZ := HZb.out rfl rfl
                    clear HZa HZb HZn HZc
                    obtain ⟨sa, sc, rfl⟩ := HM.out.own.shape
                    have hO := (HM.out.own).below hw7
                    have hBw := stepA HM.out.bel hw7
                    have hsz := hBw.size
                    have hle := HM.out.le
                    go_wp2_with (at_builtin; refine wpList_append_own _ rfl _ _ 23 rfl w.heap.size 29 ist (spv 0 0 0) 3 24 Try.underlying23 hist hz0 hz1 hz2 rfl (by decide) _ _ _ rfl (World.ownsRow.alloc hO _) ⟨w7.heap.size, 0, none⟩ 1 1 [.int .i64 B0, .int .i64 B1, .int .i64 B2] rfl rfl (new3 _ _ _ _ _) (fun x hx => by simp at hx; rcases hx with rfl | rfl | rfl <;> rfl) (by unfold maxLen; omega) (by omega) (by simp; omega) ?_; intro v' w22 hown' hgrow3 _)
                    have HN : Hid (Mr w w22 v' R f1 n1 f2 n2 (i) (k + 1) (z ++ [(B0, B1, B2)])) := ⟨own_fl (x := (B0, B1, B2)) hown', HZ, by simp; omega, (hBw.alloc (by omega) _).grown hgrow3 (by simp; omega) (fun q hq => (World.ownsRow.lt hO q hq).1)⟩
                    clear hO hBw hown' hgrow3 HM
                    go_wp2
                    go_roundw
                    case rel => exact ⟨i, k + 1, _, by omega, by omega, by go_num, by go_num, HN⟩
                    case measure => simp [intOf]; omega
                  | false =>
                    have dr8 := hw7.drew
                    cases hq : (A2 != B2) with
                    | true =>
                      have e9 : R = none := HZn.out rfl rfl (by simpa using hq)
                      subst e9
                      have hBw := stepA HM.out.bel hw7
                      clear HZa HZb HZn HZc HM
                      go_wp2_with fail
                      go_region
                      go_wp2
                      go_ret2
                      exact ⟨rfl, hBw.drew⟩
                    | false =>
                      have HZ := HZc.out rfl rfl (by simpa using hq)
                      clear HZa HZb HZn HZc
                      obtain ⟨z0', z1', z2', -, -, -⟩ := keep4_sp x0 x1 x2 y0 y1 y2 al_ bl_ dr8
                      go_wp2_with fail
                      go_region
                      generalize w7.drew = w8 at *
                      obtain ⟨sa, sc, rfl⟩ := HM.out.own.shape
                      have hO := (HM.out.own).below dr8
                      have hBw := stepA HM.out.bel dr8
                      have hsz := hBw.size
                      have hle := HM.out.le
                      go_wp2_with (at_builtin; refine wpList_append_own _ rfl _ _ 23 rfl w.heap.size 29 ist (spv 0 0 0) 3 24 Try.underlying23 hist hz0 hz1 hz2 rfl (by decide) _ _ _ rfl (World.ownsRow.alloc hO _) ⟨w8.heap.size, 0, none⟩ 1 1 [.int .i64 A0, .int .i64 A1, .int .i64 A2] rfl rfl (new3 _ _ _ _ _) (fun x hx => by simp at hx; rcases hx with rfl | rfl | rfl <;> rfl) (by unfold maxLen; omega) (by omega) (by simp; omega) ?_; intro v' w22 hown' hgrow3 _)
                      have HN : Hid (Mr w w22 v' R f1 n1 f2 n2 (i + 1) (k + 1) (z ++ [(A0, A1, A2)])) := ⟨own_fl (x := (A0, A1, A2)) hown', HZ, by simp; omega, (hBw.alloc (by omega) _).grown hgrow3 (by simp; omega) (fun q hq => (World.ownsRow.lt hO q hq).1)⟩
                      clear hO hBw hown' hgrow3 HM
                      go_wp2
                      go_roundw
                      case rel => exact ⟨i + 1, k + 1, _, by omega, by omega, by go_num, by go_num, HN⟩
                      case measure => simp [intOf]; omega
          · have e : i = n1 := by omega
            subst e
            have i1 : ¬ (i : Int) < (i : Int) := by omega
            have ie : ((i : Int) == (i : Int)) = true := by simp
            have y0' := (dr.cell (p := ⟨bb, _, none⟩) bl_).trans y0
            have HZ : Hid (Mz R f1 i f2 n2 i (k + 1) (z ++ [(f2 (k * 3), f2 (k * 3 + 1), f2 (k * 3 + 2))])) := mz_b HM.out.mz hkn (.inl rfl)
            subst eb
            generalize f2 (k * 3) = B0 at *
            generalize f2 (k * 3 + 1) = B1 at *
            generalize f2 (k * 3 + 2) = B2 at *
            have dr2 : Below wr.heap.size wr wr.drew.drew := dr.drew
            have z0' := (dr2.cell (p := ⟨bb, _, none⟩) bl_).trans y0
            have z1' := (dr2.cell (p := ⟨bb, _, none⟩) bl_).trans y1
            have z2' := (dr2.cell (p := ⟨bb, _, none⟩) bl_).trans y2
            clear y0'
            go_upto_region 7 with fail
            refine wp_region_held (S := (fun w' => True)) (by kernel_rfl) ?_
            change wpAnyH _ _ _ _ _ _ _ _ (World.drew _)
            have hSw := trivial
            refine wpAnyH_take (i := 0) (v := .int .i64 (k : Int)) rfl (by kernel_rfl) (by kernel_rfl) (by kernel_rfl) (fun _ _ _ h => h) (Or.inl ⟨by rfl, ?_⟩) hSw ?_
            · intro wz hsz
              obtain ⟨⟩ := hsz
              go_simp
            try simp [Act.put]
            refine wpAnyH_take (i := 1) (v := (.slice (some ⟨bb, bo_, none⟩) n2 c2)) rfl (by kernel_rfl) (by kernel_rfl) (by kernel_rfl) (fun _ _ _ h => h) (Or.inl ⟨by rfl, ?_⟩) hSw ?_
            · intro wz hsz
              obtain ⟨⟩ := hsz
              go_simp
            try simp [Act.put]
            refine wpAnyH_take (i := 2) (v := .int .i64 (n2 : Int)) rfl (by kernel_rfl) (by kernel_rfl) (by kernel_rfl) (fun _ _ _ h => h) (Or.inl ⟨by rfl, ?_⟩) hSw ?_
            · intro wz hsz
              obtain ⟨⟩ := hsz
              go_simp
            try simp [Act.put]
            refine wpAnyH_take (i := 3) (v := .bool false) rfl (by kernel_rfl) (by kernel_rfl) (by kernel_rfl) (fun _ _ _ h => h) (Or.inl ⟨by rfl, ?_⟩) hSw ?_
            · intro wz hsz
              obtain ⟨⟩ := hsz
              go_simp
            try simp [Act.put]
            refine wpAnyH_take (i := 4) (v := .bool false) rfl (by kernel_rfl) (by kernel_rfl) (by kernel_rfl) (fun _ _ _ h => h) (Or.inl ⟨by rfl, ?_⟩) hSw ?_
            · intro wz hsz
              obtain ⟨⟩ := hsz
              go_simp
            try simp [Act.put]
            refine wpAnyH_take (i := 5) (v := .int .i64 (i : Int)) rfl (by kernel_rfl) (by kernel_rfl) (by kernel_rfl) (fun _ _ _ h => h) (Or.inl ⟨by rfl, ?_⟩) hSw ?_
            · intro wz hsz
              obtain ⟨⟩ := hsz
              go_simp
            try simp [Act.put]
            refine wpAnyH_take (i := 6) (v := (.slice va i c1)) rfl (by kernel_rfl) (by kernel_rfl) (by kernel_rfl) (fun _ _ _ h => h) (Or.inl ⟨by rfl, ?_⟩) hSw ?_
            · intro wz hsz
              obtain ⟨⟩ := hsz
              go_simp
            try simp [Act.put]
            refine wpAnyH_take (i := 7) (v := .int .i64 (i : Int)) rfl (by kernel_rfl) (by kernel_rfl) (by kernel_rfl) (fun _ _ _ h => h) (Or.inl ⟨by rfl, ?_⟩) hSw ?_
            · intro wz hsz
              obtain ⟨⟩ := hsz
              go_simp
            try simp [Act.put]
            refine wpAnyH_take (i := 8) (v := .bool false) rfl (by kernel_rfl) (by kernel_rfl) (by kernel_rfl) (fun _ _ _ h => h) (Or.inl ⟨by rfl, ?_⟩) hSw ?_
            · intro wz hsz
              obtain ⟨⟩ := hsz
              go_simp
            try simp [Act.put]
            refine wpAnyH_take (i := 9) (v := .bool false) rfl (by kernel_rfl) (by kernel_rfl) (by kernel_rfl) (fun _ _ _ h => h) (Or.inl ⟨by rfl, ?_⟩) hSw ?_
            · intro wz hsz
              obtain ⟨⟩ := hsz
              go_simp
            try simp [Act.put]
            refine wpAnyH_take (i := 10) (v := undef) rfl (by kernel_rfl) (by kernel_rfl) (by kernel_rfl) (fun _ _ _ h => h) (Or.inr ⟨by kernel_rfl, rfl⟩) hSw ?_
            try simp [Act.put]
            refine wpAnyH_take (i := 11) (v := undef) rfl (by kernel_rfl) (by kernel_rfl) (by kernel_rfl) (fun _ _ _ h => h) (Or.inr ⟨by kernel_rfl, rfl⟩) hSw ?_
            try simp [Act.put]
            refine wpAnyH_take (i := 12) (v := undef) rfl (by kernel_rfl) (by kernel_rfl) (by kernel_rfl) (fun _ _ _ h => h) (Or.inr ⟨by kernel_rfl, rfl⟩) hSw ?_
            try simp [Act.put]
            refine wpAnyH_take (i := 13) (v := undef) rfl (by kernel_rfl) (by kernel_rfl) (by kernel_rfl) (fun _ _ _ h => h) (Or.inr ⟨by kernel_rfl, rfl⟩) hSw ?_
            try simp [Act.put]
            refine wpAnyH_take (i := 14) (v := undef) rfl (by kernel_rfl) (by kernel_rfl) (by kernel_rfl) (fun _ _ _ h => h) (Or.inr ⟨by kernel_rfl, rfl⟩) hSw ?_
            try simp [Act.put]
            refine wpAnyH_take (i := 15) (v := undef) rfl (by kernel_rfl) (by kernel_rfl) (by kernel_rfl) (fun _ _ _ h => h) (Or.inr ⟨by kernel_rfl, rfl⟩) hSw ?_
            try simp [Act.put]
            refine wpAnyH_take (i := 16) (v := undef) rfl (by kernel_rfl) (by kernel_rfl) (by kernel_rfl) (fun _ _ _ h => h) (Or.inr ⟨by kernel_rfl, rfl⟩) hSw ?_
            try simp [Act.put]
            refine wpAnyH_take (i := 17) (v := undef) rfl (by kernel_rfl) (by kernel_rfl) (by kernel_rfl) (fun _ _ _ h => h) (Or.inr ⟨by kernel_rfl, rfl⟩) hSw ?_
            try simp [Act.put]
            refine wpAnyH_take (i := 18) (v := undef) rfl (by kernel_rfl) (by kernel_rfl) (by kernel_rfl) (fun _ _ _ h => h) (Or.inr ⟨by kernel_rfl, rfl⟩) hSw ?_
            try simp [Act.put]
            refine wpAnyH_take (i := 19) (v := .bool false) rfl (by kernel_rfl) (by kernel_rfl) (by kernel_rfl) (fun _ _ _ h => h) (Or.inl ⟨by rfl, ?_⟩) hSw ?_
            · intro wz hsz
              obtain ⟨⟩ := hsz
              go_simp
            try simp [Act.put]
            refine wpAnyH_take (i := 20) (v := .bool false) rfl (by kernel_rfl) (by kernel_rfl) (by kernel_rfl) (fun _ _ _ h => h) (Or.inl ⟨by rfl, ?_⟩) hSw ?_
            · intro wz hsz
              obtain ⟨⟩ := hsz
              go_simp
            try simp [Act.put]
            refine wpAnyH_done (by kernel_rfl) ?_ _
            clear hSw
            go_upto_region 10 with fail
            refine wp_region_held (S := (fun w' => True)) (by kernel_rfl) ?_
            change wpAnyH _ _ _ _ _ _ _ _ (World.drew _)
            have hSw := trivial
            refine wpAnyH_take (i := 0) (v := .int .i64 (i : Int)) rfl (by kernel_rfl) (by kernel_rfl) (by kernel_rfl) (fun _ _ _ h => h) (Or.inl ⟨by rfl, ?_⟩) hSw ?_
            · intro wz hsz
              obtain ⟨⟩ := hsz
              go_simp
            try simp [Act.put]
            refine wpAnyH_take (i := 1) (v := (.slice va i c1)) rfl (by kernel_rfl) (by kernel_rfl) (by kernel_rfl) (fun _ _ _ h => h) (Or.inl ⟨by rfl, ?_⟩) hSw ?_
            · intro wz hsz
              obtain ⟨⟩ := hsz
              go_simp
            try simp [Act.put]
            refine wpAnyH_take (i := 2) (v := .int .i64 (i : Int)) rfl (by kernel_rfl) (by kernel_rfl) (by kernel_rfl) (fun _ _ _ h => h) (Or.inl ⟨by rfl, ?_⟩) hSw ?_
            · intro wz hsz
              obtain ⟨⟩ := hsz
              go_simp
            try simp [Act.put]
            refine wpAnyH_take (i := 3) (v := .bool true) rfl (by kernel_rfl) (by kernel_rfl) (by kernel_rfl) (fun _ _ _ h => h) (Or.inl ⟨by rfl, ?_⟩) hSw ?_
            · intro wz hsz
              obtain ⟨⟩ := hsz
              go_simp
            try simp [Act.put]
            refine wpAnyH_take (i := 4) (v := .bool true) rfl (by kernel_rfl) (by kernel_rfl) (by kernel_rfl) (fun _ _ _ h => h) (Or.inl ⟨by rfl, ?_⟩) hSw ?_
            · intro wz hsz
              obtain ⟨⟩ := hsz
              go_simp
            try simp [Act.put]
            refine wpAnyH_take (i := 5) (v := undef) rfl (by kernel_rfl) (by kernel_rfl) (by kernel_rfl) (fun _ _ _ h => h) (Or.inr ⟨by kernel_rfl, rfl⟩) hSw ?_
            try simp [Act.put]
            refine wpAnyH_take (i := 6) (v := undef) rfl (by kernel_rfl) (by kernel_rfl) (by kernel_rfl) (fun _ _ _ h => h) (Or.inr ⟨by kernel_rfl, rfl⟩) hSw ?_
            try simp [Act.put]
            refine wpAnyH_take (i := 7) (v := undef) rfl (by kernel_rfl) (by kernel_rfl) (by kernel_rfl) (fun _ _ _ h => h) (Or.inr ⟨by kernel_rfl, rfl⟩) hSw ?_
            try simp [Act.put]
            refine wpAnyH_take (i := 8) (v := undef) rfl (by kernel_rfl) (by kernel_rfl) (by kernel_rfl) (fun _ _ _ h => h) (Or.inr ⟨by kernel_rfl, rfl⟩) hSw ?_
            try simp [Act.put]
            refine wpAnyH_take (i := 9) (v := undef) rfl (by kernel_rfl) (by kernel_rfl) (by kernel_rfl) (fun _ _ _ h => h) (Or.inr ⟨by kernel_rfl, rfl⟩) hSw ?_
            try simp [Act.put]
            refine wpAnyH_take (i := 10) (v := undef) rfl (by kernel_rfl) (by kernel_rfl) (by kernel_rfl) (fun _ _ _ h => h) (Or.inr ⟨by kernel_rfl, rfl⟩) hSw ?_
            try simp [Act.put]
            refine wpAnyH_take (i := 11) (v := undef) rfl (by kernel_rfl) (by kernel_rfl) (by kernel_rfl) (fun _ _ _ h => h) (Or.inr ⟨by kernel_rfl, rfl⟩) hSw ?_
            try simp [Act.put]
            refine wpAnyH_take (i := 12) (v := undef) rfl (by kernel_rfl) (by kernel_rfl) (by kernel_rfl) (fun _ _ _ h => h) (Or.inr ⟨by kernel_rfl, rfl⟩) hSw ?_
            try simp [Act.put]
            refine wpAnyH_take (i := 13) (v := undef) rfl (by kernel_rfl) (by kernel_rfl) (by kernel_rfl) (fun _ _ _ h => h) (Or.inr ⟨by kernel_rfl, rfl⟩) hSw ?_
            try simp [Act.put]
            refine wpAnyH_take (i := 14) (v := .bool true) rfl (by kernel_rfl) (by kernel_rfl) (by kernel_rfl) (fun _ _ _ h => h) (Or.inl ⟨by rfl, ?_⟩) hSw ?_
            · intro wz hsz
              obtain ⟨⟩ := hsz
              go_simp
            try simp [Act.put]
            refine wpAnyH_done (by kernel_rfl) ?_ _
            clear hSw y0 y1 y2
            generalize wr.drew.drew = w6 at *
            obtain ⟨sa, sc, rfl⟩ := HM.out.own.shape
            have hO := (HM.out.own).below dr2
            have hBw := stepA HM.out.bel dr2
            have hsz := hBw.size
            have hle := HM.out.le
            go_wp2_with (at_builtin; refine wpList_append_own _ rfl _ _ 23 rfl w.heap.size 29 ist (spv 0 0 0) 3 24 Try.underlying23 hist hz0 hz1 hz2 rfl (by decide) _ _ _ rfl (World.ownsRow.alloc hO _) ⟨w6.heap.size, 0, none⟩ 1 1 [.int .i64 B0, .int .i64 B1, .int .i64 B2] rfl rfl (new3 _ _ _ _ _) (fun x hx => by simp at hx; rcases hx with rfl | rfl | rfl <;> rfl) (by unfold maxLen; omega) (by omega) (by simp; omega) ?_; intro v' w22 hown' hgrow3 _)
            have HN : Hid (Mr w w22 v' R f1 i f2 n2 (i) (k + 1) (z ++ [(B0, B1, B2)])) := ⟨own_fl (x := (B0, B1, B2)) hown', HZ.out, by simp; omega, (hBw.alloc (by omega) _).grown hgrow3 (by simp; omega) (fun q hq => (World.ownsRow.lt hO q hq).1)⟩
            clear hO hBw hown' hgrow3 HM
            go_wp2
            go_roundw
            case rel => exact ⟨i, k + 1, _, by omega, by omega, by go_num, by go_num, HN⟩
            case measure => simp [intOf]; omega
end Go.Proofs.Yteknkgfgefhloaa
