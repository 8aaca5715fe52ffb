/- ReadFrame: the model's side. -/
import Derived.Test.YtplpggcbpcebcaaDoorFcA
import Derived.Test.YtplpggcbpcebcaaDoorUsG
import Derived.Laws.Strings3
import Derived.Deep.RegionHeld
namespace Go.Proofs.YtplpggcbpcebcaaDoor
open Go.RowKit
/-- an append goes on behind the calls of its region -/
theorem held_append {P : Program} {o : Oper} {a : Act} {w w' : World} {K : Act → World → Prop} {Q : Exit → Act → World → Prop} {b : Prop} [Decidable b] (hb : b) (s x : Operand) (t : TypeId) (ho : o.op = .call { callee := .builtin .append, args := #[s, x], argTypes := #[t, t] }) {v vx v' : Value} (hs : a.eval s = v) (hx : a.eval x = vx) (hr : (Builtin.append_ #[t, t] o.type #[v, vx]).run P w = .ok v' w') (h : K (a.put o.dst v') w') : if b then Oper.wp P o a w K Q else K (a.put o.dst undef) w := by
  rw [if_pos hb]
  unfold Oper.wp execOp
  simp only [ho, resolve, invoke, builtin, Sem.run_bind, Sem.run_pure, Result.andThen_ok, List.map_toArray, List.map_cons, List.map_nil, hs, hx, hr]
  exact h
theorem wr_in (n : Int) (h0 : 0 ≤ n) (h1 : n ≤ 1000) : IntKind.i64.wrap n = n := by rw [IntKind.wrap_i64]; omega
theorem gL_flK (f : Nat → Int) (k i : Nat) (h : i < k) : gL (flK f k) i = f i := by
  unfold gL
  rw [flK_map]
  simp [List.getD, h]
theorem OwY.far {w : World} {base : Nat} {v : Value} {l : List Int} (h : OwY w base v l) {a : Addr} (ha : a.block < base) (u : Value) : OwY (w.setCell a u) base v l := ownsRow_setCell_below h ha u
set_option maxRecDepth 20000 in
set_option maxHeartbeats 1500000 in
theorem sReadM (s : ByteArray) (w : World) (hs : s.size ≤ 1048576) (hq : bitB s = true) (h7 : 7 ≤ s.size) (hen : s.extract (s.size - 7) s.size = enT) (hU : uB (hdT s) = true) (h31 : 31 ≤ (plT s).size) (hz : bt (plT s) 0 = 48) (hm : mnK (plT s) ≤ 8) (hsz : (plT s).size = 31 + 8 * mnK (plT s)) :
    Calls Tryd.prog 19 #[.string s] w fun e w' => AnsF s w e w' ∧ Below w.heap.size w w' := by
  have hx0 : Below w.heap.size w (w.alloc (frvO 0 none 0 0 24)) := (Below.refl _ _).alloc (Nat.le_refl _) _
  have z1 := bx_new (w := w) (frvL 0 none 0 0) 24 rfl
  have hs1 : (w.alloc (frvO 0 none 0 0 24)).heap.size = w.heap.size + 1 := size_al _ _
  have kB := sBits s (w.alloc (frvO 0 none 0 0 24)) hs
  have kU := fun w2 => sUn (hdT s) w2 (by unfold hdT; rw [ByteArray.size_extract]; omega)
  rw [hU] at kU
  rw [hq] at kB
  have j7 : ¬ (s.size : Int) - 7 < 0 := by omega
  have sl1 : ∀ w : World, (Instr.slice 9 (.string s) (some (.int .i64 ((s.size : Int) - 7))) none none).run Tryd.prog w = .ok (.string (s.extract (s.size - 7) s.size)) w := fun w => by
    rw [run_slice_string_from_if w 9 s .i64 ((s.size : Int) - 7) Tryd.underlying9, if_pos ⟨by omega, by omega⟩, show ((s.size : Int) - 7).toNat = s.size - 7 by omega]
  have sl2 : ∀ w : World, (Instr.slice 9 (.string s) none (some (.int .i64 ((s.size : Int) - 7))) none).run Tryd.prog w = .ok (.string (hdT s)) w := fun w => by
    rw [run_slice_string_to_if w 9 s .i64 ((s.size : Int) - 7) Tryd.underlying9, if_pos ⟨by omega, by omega⟩, show ((s.size : Int) - 7).toNat = s.size - 7 by omega]; rfl
  have HE : Hid (s.extract (s.size - 7) s.size = enT) := hen
  obtain ⟨hu1, hu2⟩ := uT_bits (hdT s)
  rw [hen] at sl1
  clear hen
  have eP : uT (hdT s) = plT s := rfl
  rw [eP] at kU hu1 hu2
  clear eP
  have hix := ix_bt (P := Tryd.prog) Tryd.underlying9 (plT s) 0 (by omega)
  have j31 : ¬ ((plT s).size : Int) < 31 := by omega
  rw [hz] at hix
  have ix0 : ∀ w : World, (Instr.index 9 (.string (plT s)) (.int .i64 0)).run Tryd.prog w = .ok (.int .u8 48) w := hix
  have kM : ∀ w2 : World, Calls Tryd.prog 42 #[.string (plT s), .int .i64 12, .int .i64 4] w2 fun e w' => e = .returned (.int .i64 (mnK (plT s) : Nat)) ∧ w' = w2 := fun w2 => sTake (plT s) 12 4 w2 (by omega) (by omega) (by omega) hu2
  have kI : ∀ w2 : World, Calls Tryd.prog 42 #[.string (plT s), .int .i64 1, .int .i64 11] w2 fun e w' => e = .returned (.int .i64 (idK (plT s) : Nat)) ∧ w' = w2 := fun w2 => sTake (plT s) 1 11 w2 (by omega) (by omega) (by omega) hu2
  have hid := idK_bd h31 hu2
  have kT : ∀ (k : Nat) (w2 : World), k < mnK (plT s) → Calls Tryd.prog 42 #[.string (plT s), .int .i64 (16 + 8 * (k : Int)), .int .i64 8] w2 fun e w' => e = .returned (.int .i64 (dtF (plT s) k)) ∧ w' = w2 := fun k w2 hk => by
    have := sTake (plT s) (16 + 8 * k) 8 w2 (by omega) (by omega) (by omega) hu2
    rw [show ((16 + 8 * k : Nat) : Int) = 16 + 8 * (k : Int) by omega] at this
    exact this
  have hbd : ∀ i, i < mnK (plT s) → 0 ≤ dtF (plT s) i ∧ dtF (plT s) i ≤ 255 := fun i hi => dtF_bd hu2 (by omega)
  have kD := fun a c w2 hf => sBody (idK (plT s)) a (mnK (plT s)) c (dtF (plT s)) w2 hid hm hf hbd
  have HOK : Hid (bdT (idK (plT s)) (mnK (plT s)) (dtF (plT s)) = plT s → rdB s = true ∧ rdI s = (idK (plT s) : Nat) ∧ rdN s = mnK (plT s)) := fun h => rd_yes ⟨hq, h7, HE.out, hU, h31, hz, hm, hsz, h⟩
  have HNO : Hid (¬ bdT (idK (plT s)) (mnK (plT s)) (dtF (plT s)) = plT s → ¬ OkS s) := fun h g => h g.t
  have HAN : Hid (∀ e w', AnsF s w e w' = ∃ a c, e = .returned (.tuple #[frv (rdI s) a (rdN s) c, .bool (rdB s)]) ∧ VQ w' w.heap.size w'.heap.size a (rdN s) (fun i => .int .u8 (dtF (plT s) i))) := fun _ _ => rfl
  generalize hBT : bdT (idK (plT s)) (mnK (plT s)) (dtF (plT s)) = BT at *
  generalize mnK (plT s) = M at *
  generalize idK (plT s) = I at *
  generalize dtF (plT s) = D at *
  generalize plT s = P at *
  have jm : ¬ (8 : Int) < (M : Int) := by omega
  have js : (P.size : Int) = 31 + 8 * (M : Int) := by omega
  have HBD : Hid (∀ i, i < M → 0 ≤ D i ∧ D i ≤ 255) := hbd
  obtain ⟨i0, hi, hzz⟩ := Option.map_eq_some_iff.1 infoB8
  simp only [Prod.mk.injEq] at hzz
  obtain ⟨hz0, hz1, hz2⟩ := hzz
  clear hu2 hix hbd hBT hz
  go_enter Tryd.func19, Tryd.ntmps19
  go_wp2_with fail
  refine kB.mono ?_
  rintro e w2 ⟨rfl, hw2⟩
  subst hw2
  clear kB
  generalize hw1 : w.alloc (frvO 0 none 0 0 24) = w1 at *
  clear hw1
  go_wp2_with fail
  refine (kU _).mono ?_
  rintro e w2 ⟨rfl, hb2⟩
  have z2 := z1.on hb2
  have hB2 := stepA hx0 hb2
  have hn2 := hb2.size
  clear kU hb2 z1 hx0
  go_wp2_with fail
  refine (kM _).mono ?_
  rintro e w3 ⟨rfl, hw3⟩
  have hs3 := hw3.symm
  clear hw3
  subst hs3
  clear kM
  go_wp2_with fail
  refine (kI _).mono ?_
  rintro e w3 ⟨rfl, hw3⟩
  have hs3 := hw3.symm
  clear hw3
  subst hs3
  clear kI
  have zF := bx_new (w := w2) (frvL (I : Int) none 0 0) 24 rfl
  have hxF : Below w2.heap.size w2 (w2.alloc (frvO (I : Int) none 0 0 24)) := (Below.refl _ _).alloc (Nat.le_refl _) _
  have hsF : (w2.alloc (frvO (I : Int) none 0 0 24)).heap.size = w2.heap.size + 1 := size_al _ _
  have hl2 := z2.lt
  go_wp2_with fail
  generalize w2.alloc (frvO (I : Int) none 0 0 24) = w4 at *
  obtain ⟨F0, hF0⟩ : ∃ F0, w2.heap.size = F0 := ⟨_, rfl⟩
  rw [hF0] at zF hxF hsF hl2 ⊢
  go_loopw [9] (fun i wr => ∃ (k : Nat) (x : Option Addr) (d : Nat) (o : List Int), k ≤ M ∧ i = .int .i64 (k : Int) ∧ Bx wr F0 (frvL (I : Int) x o.length d) ∧ OwY wr (F0 + 1) (.slice x o.length d) o ∧ Hid (o = flK D k) ∧ Hid (o.length = k) ∧ Below F0 w2 wr ∧ F0 + 1 ≤ wr.heap.size) (fun i _ => M - (intOf i).toNat)
  case atStart => exact ⟨0, none, 0, [], Nat.zero_le _, rfl, zF, World.ownsRow_nil _ _ _ _, rfl, rfl, hxF, by omega⟩
  case round =>
    obtain ⟨k, x, d, o, hk, rfl, bF, hW, HO, HL, hB, hz9⟩ := hrel
    clear zF hxF hsF
    have hol : o.length ≤ 8 := by rw [HL.out]; omega
    by_cases hlt : k < M
    · have jk : (k : Int) < (M : Int) := by omega
      have kV := fun w2 => kT k w2 hlt
      obtain ⟨q0, q1⟩ := HBD.out k hlt
      have hwv : IntKind.u8.wrap (D k) = D k := by rw [IntKind.wrap_u8]; omega
      have hwr : IntKind.i64.wrap (16 + IntKind.i64.wrap (8 * (k : Int))) = 16 + 8 * (k : Int) := by rw [wr_in (8 * (k : Int)) (by omega) (by omega), wr_in _ (by omega) (by omega)]
      have HO2 : Hid (o ++ [D k] = flK D (k + 1)) := by show _ = _; rw [flK, HO.out]
      have HL2 : Hid ((o ++ [D k]).length = k + 1) := by show _ = _; rw [List.length_append, HL.out]; rfl
      have hdr : Below wr.heap.size wr wr.drew := (Below.refl _ _).drew
      have bD := bF.on hdr
      have hWd := hW.below hdr
      have hBd : Below F0 w2 wr.drew := hB.drew
      have hzd : F0 + 1 ≤ wr.drew.heap.size := Nat.le_trans hz9 hdr.size
      have y0 := bD.c0
      have y1 := bD.c1
      have yf := bD.fz 1
      have yl := bD.lt
      clear HO HL hdr bF hW hB hz9
      generalize D k = V at *
      go_upto_region 14 with fail
      obtain ⟨v7, w5, hrun7, hown7, hgr7, -⟩ := run_append_own (P := Tryd.prog) (wr.drew.alloc (.cells #[.int .u8 V] 5)) (F0 + 1) 22 22 5 i0 (.int .u8 0) 1 1 Tryd.underlying22 hi hz0 hz1 hz2 rfl (by decide) (.slice x o.length d) o.length (o.map (Value.int .u8)) (World.ownsRow.alloc hWd _) ⟨wr.drew.heap.size, 0, none⟩ 1 1 [.int .u8 V] rfl (cell_one_new _ _ _) (fun u hu => by simp at hu; subst hu; rfl) (by unfold maxLen; omega) (by omega) (by rw [size_al]; omega)
      have hW5 := hWd.app hown7
      obtain ⟨sa, sc, rfl⟩ := hW5.shape
      have hB5 : Below (F0 + 1) wr.drew w5 := ((Below.refl (F0 + 1) wr.drew).alloc hzd _).grown hgr7 (by rw [size_al]; omega) (fun q hq => (World.ownsRow.lt hWd q hq).1)
      have b5 := bD.below hB5 (Nat.lt_succ_self _)
      have t0 := b5.c0
      have t1 := b5.c1
      have t2 := b5.fz 1
      have t3 := b5.lt
      have hs5 := hB5.size
      have HW5 : Hid (OwY w5 (F0 + 1) (.slice sa (o ++ [V]).length sc) (o ++ [V])) := hW5
      have y2 : (wr.alloc (.cells #[.int .u8 V] 5)).cell? ⟨F0, 1, none⟩ = some (.slice x o.length d) := (bD.alloc _).c1
      have HX5 : Hid (Bx (w5.setCell ⟨F0, 1, none⟩ (.slice sa (o.length + 1) sc)) F0 (frvL (I : Int) sa (o ++ [V]).length sc)) := by
        show Bx _ _ _
        rw [List.length_append]
        exact b5.set 1 (by simp) _
      clear hown7 hgr7 hW5 hWd
      refine wp_region_held (S := (fun _ => True)) (by kernel_rfl) ?_
      change wpAnyH _ _ _ _ _ _ _ _ (World.drew _)
      refine wpAnyH_take (i := 0) (v := .pointer (some ⟨F0, 1, none⟩)) rfl (by kernel_rfl) (by kernel_rfl) (by kernel_rfl) (fun _ _ _ h => h) (Or.inl ⟨by rfl, ?_⟩) trivial ?_
      · intro wz hsz
        go_simp
      try simp [Act.put]
      refine wpAnyH_take (i := 2) (v := .string P) rfl (by kernel_rfl) (by kernel_rfl) (by kernel_rfl) (fun _ _ _ h => h) (Or.inl ⟨by rfl, ?_⟩) trivial ?_
      · intro wz hsz
        go_simp
      try simp [Act.put]
      refine wpAnyH_take (i := 3) (v := .int .i64 (k : Int)) rfl (by kernel_rfl) (by kernel_rfl) (by kernel_rfl) (fun _ _ _ h => h) (Or.inl ⟨by rfl, ?_⟩) trivial ?_
      · intro wz hsz
        go_simp
      try simp [Act.put]
      refine wpAnyH_take (i := 4) (v := .int .i64 (8 * (k : Int))) rfl (by kernel_rfl) (by kernel_rfl) (by kernel_rfl) (fun _ _ _ h => h) (Or.inl ⟨by rfl, ?_⟩) trivial ?_
      · intro wz hsz
        go_simp
        try exact wr_in _ (by omega) (by omega)
      try simp [Act.put]
      refine wpAnyH_take (i := 5) (v := .int .i64 (16 + 8 * (k : Int))) rfl (by kernel_rfl) (by kernel_rfl) (by kernel_rfl) (fun _ _ _ h => h) (Or.inl ⟨by rfl, ?_⟩) trivial ?_
      · intro wz hsz
        go_simp
        try exact wr_in _ (by omega) (by omega)
      try simp [Act.put]
      refine wpAnyH_ready (rs := [1, 6]) (by kernel_rfl) (by simp) ?_
      refine AllReadyH.cons rfl (fun K9 hK => ?_) (AllReadyH.cons rfl (fun K9 hK => ?_) AllReadyH.nil)
      · go_simp
        refine hK.out _ _ trivial (fun hSn => ?_)
        clear hK K9
        try simp [Act.put]
        refine wpAnyH_ready (rs := [6]) (by kernel_rfl) (by simp) ?_
        refine AllReadyH.cons rfl (fun K9 hK => ?_) AllReadyH.nil
        go_simp
        go_wp2_with (first | (go_at_call 42; (try rw [hwr]); refine (kV _).mono ?_; rintro e w9 ⟨rfl, hw9⟩; have hs' := hw9.symm; clear hw9; subst hs') | (fail))
        refine hK.out _ _ trivial (fun hSn => ?_)
        clear hK K9
        try simp [Act.put]
        refine wpAnyH_take (i := 7) (v := .int .u8 V) rfl (by kernel_rfl) (by kernel_rfl) (by kernel_rfl) (fun _ _ _ h => h) (Or.inl ⟨by rfl, ?_⟩) trivial ?_
        · intro wz hsz
          go_simp
        try simp [Act.put]
        refine wpAnyH_ready (rs := [8]) (by kernel_rfl) (by simp) ?_
        refine AllReadyH.cons rfl (fun K9 hK => ?_) AllReadyH.nil
        go_simp
        refine hK.out _ _ trivial (fun hSn => ?_)
        clear hK K9
        try simp [Act.put]
        refine wpAnyH_ready (rs := [9]) (by kernel_rfl) (by simp) ?_
        refine AllReadyH.cons rfl (fun K9 hK => ?_) AllReadyH.nil
        refine held_append (by kernel_rfl) (.tmp 69) (.tmp 76) 22 rfl rfl rfl hrun7 ?_
        refine hK.out _ _ trivial (fun hSn => ?_)
        clear hK K9
        try simp [Act.put]
        refine wpAnyH_take (i := 10) (v := .pointer (some ⟨F0, 1, none⟩)) rfl (by kernel_rfl) (by kernel_rfl) (by kernel_rfl) (fun _ _ _ h => h) (Or.inl ⟨by rfl, ?_⟩) trivial ?_
        · intro wz hsz
          go_simp
        try simp [Act.put]
        refine wpAnyH_ready (rs := [11]) (by kernel_rfl) (by simp) ?_
        refine AllReadyH.cons rfl (fun K9 hK => ?_) AllReadyH.nil
        go_simp
        refine hK.out _ _ trivial (fun hSn => ?_)
        clear hK K9
        try simp [Act.put]
        refine wpAnyH_done (by kernel_rfl) ?_ _
        go_wp2
        exact ⟨⟨k + 1, sa, sc, o ++ [V], by omega, by go_num, HX5.out, HW5.out.far (by simp) _, HO2, HL2, (hBd.trans (hB5.mono (Nat.le_succ _))).setCell (by simp) _, by simp; omega⟩, by simp [intOf]; omega⟩
      · go_simp
        go_wp2_with (first | (go_at_call 42; (try rw [hwr]); refine (kV _).mono ?_; rintro e w9 ⟨rfl, hw9⟩; have hs' := hw9.symm; clear hw9; subst hs') | (fail))
        refine hK.out _ _ trivial (fun hSn => ?_)
        clear hK K9
        try simp [Act.put]
        refine wpAnyH_take (i := 7) (v := .int .u8 V) rfl (by kernel_rfl) (by kernel_rfl) (by kernel_rfl) (fun _ _ _ h => h) (Or.inl ⟨by rfl, ?_⟩) trivial ?_
        · intro wz hsz
          go_simp
        try simp [Act.put]
        refine wpAnyH_ready (rs := [1, 8]) (by kernel_rfl) (by simp) ?_
        refine AllReadyH.cons rfl (fun K9 hK => ?_) (AllReadyH.cons rfl (fun K9 hK => ?_) AllReadyH.nil)
        · go_simp
          refine hK.out _ _ trivial (fun hSn => ?_)
          clear hK K9
          try simp [Act.put]
          refine wpAnyH_ready (rs := [8]) (by kernel_rfl) (by simp) ?_
          refine AllReadyH.cons rfl (fun K9 hK => ?_) AllReadyH.nil
          go_simp
          refine hK.out _ _ trivial (fun hSn => ?_)
          clear hK K9
          try simp [Act.put]
          refine wpAnyH_ready (rs := [9]) (by kernel_rfl) (by simp) ?_
          refine AllReadyH.cons rfl (fun K9 hK => ?_) AllReadyH.nil
          refine held_append (by kernel_rfl) (.tmp 69) (.tmp 76) 22 rfl rfl rfl hrun7 ?_
          refine hK.out _ _ trivial (fun hSn => ?_)
          clear hK K9
          try simp [Act.put]
          refine wpAnyH_take (i := 10) (v := .pointer (some ⟨F0, 1, none⟩)) rfl (by kernel_rfl) (by kernel_rfl) (by kernel_rfl) (fun _ _ _ h => h) (Or.inl ⟨by rfl, ?_⟩) trivial ?_
          · intro wz hsz
            go_simp
          try simp [Act.put]
          refine wpAnyH_ready (rs := [11]) (by kernel_rfl) (by simp) ?_
          refine AllReadyH.cons rfl (fun K9 hK => ?_) AllReadyH.nil
          go_simp
          refine hK.out _ _ trivial (fun hSn => ?_)
          clear hK K9
          try simp [Act.put]
          refine wpAnyH_done (by kernel_rfl) ?_ _
          go_wp2
          exact ⟨⟨k + 1, sa, sc, o ++ [V], by omega, by go_num, HX5.out, HW5.out.far (by simp) _, HO2, HL2, (hBd.trans (hB5.mono (Nat.le_succ _))).setCell (by simp) _, by simp; omega⟩, by simp [intOf]; omega⟩
        · go_simp
          refine hK.out _ _ trivial (fun hSn => ?_)
          clear hK K9
          try simp [Act.put]
          refine wpAnyH_ready (rs := [1]) (by kernel_rfl) (by simp) ?_
          refine AllReadyH.cons rfl (fun K9 hK => ?_) AllReadyH.nil
          go_simp
          refine hK.out _ _ trivial (fun hSn => ?_)
          clear hK K9
          try simp [Act.put]
          refine wpAnyH_ready (rs := [9]) (by kernel_rfl) (by simp) ?_
          refine AllReadyH.cons rfl (fun K9 hK => ?_) AllReadyH.nil
          refine held_append (by kernel_rfl) (.tmp 69) (.tmp 76) 22 rfl rfl rfl hrun7 ?_
          refine hK.out _ _ trivial (fun hSn => ?_)
          clear hK K9
          try simp [Act.put]
          refine wpAnyH_take (i := 10) (v := .pointer (some ⟨F0, 1, none⟩)) rfl (by kernel_rfl) (by kernel_rfl) (by kernel_rfl) (fun _ _ _ h => h) (Or.inl ⟨by rfl, ?_⟩) trivial ?_
          · intro wz hsz
            go_simp
          try simp [Act.put]
          refine wpAnyH_ready (rs := [11]) (by kernel_rfl) (by simp) ?_
          refine AllReadyH.cons rfl (fun K9 hK => ?_) AllReadyH.nil
          go_simp
          refine hK.out _ _ trivial (fun hSn => ?_)
          clear hK K9
          try simp [Act.put]
          refine wpAnyH_done (by kernel_rfl) ?_ _
          go_wp2
          exact ⟨⟨k + 1, sa, sc, o ++ [V], by omega, by go_num, HX5.out, HW5.out.far (by simp) _, HO2, HL2, (hBd.trans (hB5.mono (Nat.le_succ _))).setCell (by simp) _, by simp; omega⟩, by simp [intOf]; omega⟩
    · have hke : k = M := by omega
      subst hke
      have jk : ¬ (k : Int) < (k : Int) := by omega
      have hQ := hW.vq
      rw [HL.out] at hQ bF
      have hQ2 : VQ wr (F0 + 1) wr.heap.size x k (fun i => .int .u8 (D i)) := hQ.congr (fun i hi => by rw [HO.out, gL_flK D k i hi])
      have kE := kD x d wr hQ2.yl
      have y0 := bF.c0
      have y1 := bF.c1
      have yl := bF.lt
      have zR := z2.below hB hl2
      have hBR : Below w.heap.size w wr := hB2.trans (hB.mono (by omega))
      clear kD hQ HO HL hW kT z2 hB2
      go_wp2_with fail
      refine kE.mono ?_
      rintro e w6 ⟨rfl, hb6⟩
      have zE := zR.on hb6
      have bE := bF.on hb6
      have hQ6 := hQ2.on hb6
      have hB6 := stepA hBR hb6
      have hn6 := hb6.size
      clear kE hb6 zR bF hQ2 hBR y0 y1 yl
      by_cases hEq : BT = P
      · obtain ⟨r1, r2, r3⟩ := HOK.out hEq
        subst hEq
        have y0 := bE.c0
        have y1 := bE.c1
        have v0 := zE.c0
        have v1 := zE.c1
        have f0 := zE.fz 0
        have f1 := zE.fz 1
        have l6 := zE.lt
        have rE := (zE.set 0 (by simp) (.int .i64 (I : Int))).set 1 (by simp) (.slice x k d)
        have hBE := (hB6.setCell (p := ⟨w.heap.size, 0, none⟩) (by simp) (.int .i64 (I : Int))).setCell (p := ⟨w.heap.size, 1, none⟩) (by simp) (.slice x k d)
        have hQE := vq_set (vq_set hQ6 (b := w.heap.size) (k := 0) (.int .i64 (I : Int)) (by omega)) (b := w.heap.size) (k := 1) (.slice x k d) (by omega)
        go_wp2
        refine ret_frv_tmp Tryd.results19 rfl rE.c0 rE.c1 rfl ?_
        rw [HAN.out]
        refine ⟨⟨x, d, ?_, ?_⟩, hBE⟩
        · rw [r1, r2, r3]; rfl
        · rw [r3]
          exact hQE.wide (by omega) (by simp; omega)
      · have hno := HNO.out hEq
        have hne : (BT.toList == P.toList) = false := by
          rw [beq_eq_false_iff_ne]
          exact fun h => hEq (ba_ext' h)
        have y0 := bE.c0
        have y1 := bE.c1
        have v0 := zE.c0
        have v1 := zE.c1
        have f0 := zE.fz 0
        have f1 := zE.fz 1
        have l6 := zE.lt
        have rE := (zE.set 0 (by simp) (.int .i64 0)).set 1 (by simp) (.slice none 0 0)
        have hBE := (hB6.setCell (p := ⟨w.heap.size, 0, none⟩) (by simp) (.int .i64 0)).setCell (p := ⟨w.heap.size, 1, none⟩) (by simp) (.slice none 0 0)
        go_wp2
        refine ret_frv_tmp Tryd.results19 rfl rE.c0 rE.c1 rfl ?_
        exact ⟨ans_no hno, hBE⟩
end Go.Proofs.YtplpggcbpcebcaaDoor
