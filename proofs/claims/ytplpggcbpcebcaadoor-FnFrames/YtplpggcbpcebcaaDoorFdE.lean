/- A text of bits that is drawn. -/
import Derived.Test.YtplpggcbpcebcaaDoorFdD
namespace Go.Proofs.YtplpggcbpcebcaaDoor
open Go.RowKit
theorem Yd.put {w wx : World} {C : Nat} {a : Option Addr} {len cap n' g c : Nat} {o : List Int} (h : Yd w wx C a len cap n' (.slice (some ⟨g, 0, none⟩) o.length c) o) (i : Nat) (x : Int) (hC : C < w.heap.size) : Yd w (wx.setCell ⟨g, i, none⟩ (.int .u8 x)) C a len cap n' (.slice (some ⟨g, 0, none⟩) (o.set i x).length c) (o.set i x) := by
  have hg : w.heap.size ≤ g := (World.ownsRow.lt h.own g rfl).1
  have hb : Below w.heap.size wx (wx.setCell ⟨g, i, none⟩ (.int .u8 x)) := (Below.refl _ _).setCell hg _
  refine ⟨h.cur.below hb hC, ?_, tn_below h.t hb (Nat.le_refl _)⟩
  have := (World.ownsRow.stored h.own i (.int .u8 x)).1
  unfold OwY
  rw [List.length_set, List.map_set]
  exact this
theorem Yd.at {w wx : World} {C : Nat} {a : Option Addr} {len cap n' : Nat} {x : Option Addr} {c : Nat} {o : List Int} (h : Yd w wx C a len cap n' (.slice x o.length c) o) (h0 : 0 < o.length) : ∃ g, x = some ⟨g, 0, none⟩ ∧ g < wx.heap.size ∧ (∀ i, i < o.length → wx.cell? ⟨g, i, none⟩ = some (.int .u8 (gL o i))) ∧ ∀ i, wx.frozen? ⟨g, i, none⟩ = false := by
  obtain ⟨g, e, _, hl, hP⟩ := h.own.vq h0
  exact ⟨g, e, hl, hP.c, hP.fz⟩
set_option maxRecDepth 20000 in
set_option maxHeartbeats 4000000 in
theorem bitD (C : Nat) (a : Option Addr) (len cap : Nat) (w : World) (h : Cur w C a len cap 0) :
    Calls Tryd.prog 53 #[.pointer (some ⟨C, 0, none⟩), .int .i64 40] w fun e w' => ∃ T : ByteArray, e = .returned (.string T) ∧ T.size ≤ 1000 ∧ Turns C (C + 1) w w' := by
  obtain ⟨i0, hi, hzz⟩ := Option.map_eq_some_iff.1 infoB8
  simp only [Prod.mk.injEq] at hzz
  obtain ⟨hz0, hz1, hz2⟩ := hzz
  have hC := h.lt
  have hY := yd_nil h
  have kP := pick_any C a len cap 0 41 w h (by omega)
  go_enter Tryd.func53, Tryd.ntmps53
  go_wp2_with fail
  refine kP.mono ?_
  rintro e w1 ⟨p, n1, rfl, hp0, hp1, -, hn1, hc1, hO1⟩
  have hp2 := hp1 (by omega)
  have hY1 := hY.step hc1 hO1 hC
  obtain ⟨P, rfl⟩ := Int.eq_ofNat_of_zero_le hp0
  have hP : P ≤ 40 := by omega
  clear kP hY hc1 hO1 hp1 hp2 hp0 h
  go_wp2_with fail
  go_loopw [5, 6, 7] (fun v b i wr => ∃ (k : Nat) (o : List Int) (m : Nat) (y : Int), i = .int .i64 (k : Int) ∧ b = .int .u8 y ∧ v = v ∧ (y = 48 ∨ y = 49) ∧ o.length + k ≤ 40 ∧ m + 2 * k ≤ 82 ∧ Yd w wr C a len cap m v o) (fun _ _ i _ => (intOf i).toNat)
  case atStart => exact ⟨P, [], n1, 48, rfl, rfl, rfl, .inl rfl, by simpa using hP, by omega, hY1⟩
  case round =>
    obtain ⟨k, o, m, y, rfl, rfl, -, hy, hok, hmk, hY⟩ := hrel
    clear hY1
    obtain ⟨sa, sc, rfl⟩ := hY.own.shape
    by_cases hk : 0 < k
    · have jk : (0 : Int) < (k : Int) := by omega
      have kN := one_any C a len cap m 4 wr hY.cur (by omega)
      go_wp2_with fail
      refine kN.mono ?_
      rintro e w2 ⟨q, m2, rfl, hm2, hc2, hO2⟩
      have hY2 := hY.step hc2 hO2 hC
      have hOw := hY2.own
      have hts := hY2.t.size
      clear kN hY hc2 hO2
      obtain ⟨z, hz, hzq⟩ : ∃ z : Int, (z = 48 ∨ z = 49) ∧ z = if q = true then 97 - y else y := by
        cases q
        · exact ⟨y, hy, rfl⟩
        · exact ⟨97 - y, by omega, rfl⟩
      cases q with
      | true =>
        have hze : z = 97 - y := hzq
        have hwv : IntKind.u8.wrap (97 - y) = z := by rw [IntKind.wrap_u8]; omega
        clear hzq hze
        go_wp2_with (first | (at_builtin; refine wpList_append_own _ rfl _ _ 22 rfl w.heap.size 5 i0 (.int .u8 0) 1 1 Tryd.underlying22 hi hz0 hz1 hz2 rfl (by decide) _ _ _ rfl (hOw.below ((Below.refl _ _).alloc (Nat.le_refl _) _)) ⟨w2.heap.size, 0, none⟩ 1 1 [.int .u8 z] rfl rfl (cell_one_new _ _ _) (fun y hy => by simp at hy; subst hy; rfl) (by unfold maxLen; omega) (by omega) (by rw [size_al]; omega) ?_; intro v2 w3 hown2 hgrow2 _) | fail)
        have hY3 := hY2.app hown2 hgrow2 hC
        exact ⟨⟨k - 1, o ++ [z], m2, z, by congr 1; omega, rfl, trivial, hz, by rw [List.length_append]; simp; omega, by omega, hY3⟩, by simp [intOf]; omega⟩
      | false =>
        have hze : z = y := hzq
        subst hze
        clear hzq
        go_wp2_with (first | (at_builtin; refine wpList_append_own _ rfl _ _ 22 rfl w.heap.size 5 i0 (.int .u8 0) 1 1 Tryd.underlying22 hi hz0 hz1 hz2 rfl (by decide) _ _ _ rfl (hOw.below ((Below.refl _ _).alloc (Nat.le_refl _) _)) ⟨w2.heap.size, 0, none⟩ 1 1 [.int .u8 z] rfl rfl (cell_one_new _ _ _) (fun y hy => by simp at hy; subst hy; rfl) (by unfold maxLen; omega) (by omega) (by rw [size_al]; omega) ?_; intro v2 w3 hown2 hgrow2 _) | fail)
        have hY3 := hY2.app hown2 hgrow2 hC
        exact ⟨⟨k - 1, o ++ [z], m2, z, by congr 1; omega, rfl, trivial, hz, by rw [List.length_append]; simp; omega, by omega, hY3⟩, by simp [intOf]; omega⟩
    · have jk : ¬ (0 : Int) < (k : Int) := by omega
      have hol : o.length ≤ 40 := by omega
      have hmb : m ≤ 82 := by omega
      clear hy hok hmk
      have kN := one_any C a len cap m 30 wr hY.cur (by omega)
      go_wp2_with fail
      refine kN.mono ?_
      rintro e w2 ⟨q, m2, rfl, hm2, hc2, hO2⟩
      have hY2 := hY.step hc2 hO2 hC
      clear kN hY hc2 hO2
      cases q with
      | false =>
        have ho2 := hol
        obtain ⟨o2, rfl⟩ : ∃ x, x = o := ⟨_, rfl⟩
        have kN := one_any C a len cap m2 30 w2 hY2.cur (by omega)
        go_wp2_with fail
        refine kN.mono ?_
        rintro e w5 ⟨q, m5, rfl, hm5, hc5, hO5⟩
        have hY5 := hY2.step hc5 hO5 hC
        clear kN hY2 hc5 hO5
        cases q with
        | false =>
          have htx := hY5.own.text
          have HT := hY5.t
          have hsz : (strOfNums o2).size ≤ 1000 := by rw [strOfNums_size]; omega
          generalize strOfNums o2 = T at *
          go_wp2
          go_ret
          exact ⟨T, rfl, hsz, HT⟩
        | true =>
          have kQ := pick_any C a len cap m5 3 w5 hY5.cur (by omega)
          go_wp2_with fail
          refine kQ.mono ?_
          rintro e w6 ⟨p, m6, rfl, hp0, hp1, -, hm6, hc6, hO6⟩
          have hp2 := hp1 (by omega)
          have hY6 := hY5.step hc6 hO6 hC
          clear kQ hY5 hc6 hO6 hp1
          go_wp2_with fail
          go_loopw [5] (fun v wr => ∃ (o : List Int) (m : Nat), v = v ∧ o.length ≤ 301 ∧ m ≤ 100 + 2 * o.length ∧ Yd w wr C a len cap m v o) (fun v _ => 301 - lenV v)
          case atStart => exact ⟨o2, m6, rfl, by omega, by omega, hY6⟩
          case round =>
            obtain ⟨o, m, -, hol, hmb, hY⟩ := hrel
            clear hY6
            obtain ⟨sa, sc, rfl⟩ := hY.own.shape
            by_cases hlt : (o.length : Int) < 299 + p
            · have kR := pick_any C a len cap m 2 wr hY.cur (by omega)
              go_wp2_with fail
              refine kR.mono ?_
              rintro e w7 ⟨x, m7, rfl, hx0, hx1, -, hm7, hc7, hO7⟩
              have hx2 := hx1 (by omega)
              have hY7 := hY.step hc7 hO7 hC
              have hOw := hY7.own
              have hts := hY7.t.size
              have hwv : IntKind.u8.wrap (48 + x) = 48 + x := by rw [IntKind.wrap_u8]; omega
              clear kR hY hc7 hO7 hx1
              go_wp2_with (first | (at_builtin; refine wpList_append_own _ rfl _ _ 22 rfl w.heap.size 5 i0 (.int .u8 0) 1 1 Tryd.underlying22 hi hz0 hz1 hz2 rfl (by decide) _ _ _ rfl (hOw.below ((Below.refl _ _).alloc (Nat.le_refl _) _)) ⟨w7.heap.size, 0, none⟩ 1 1 [.int .u8 (48 + x)] rfl rfl (cell_one_new _ _ _) (fun y hy => by simp at hy; subst hy; rfl) (by unfold maxLen; omega) (by omega) (by rw [size_al]; omega) ?_; intro v2 w3 hown2 hgrow2 _) | fail)
              have hY8 := hY7.app hown2 hgrow2 hC
              obtain ⟨ra, rc, rfl⟩ := hY8.own.shape
              exact ⟨⟨o ++ [48 + x], m7, trivial, by rw [List.length_append]; simp; omega, by rw [List.length_append]; simp; omega, hY8⟩, by simp [lenV]; omega⟩
            · have htx := hY.own.text
              have HT := hY.t
              have hsz : (strOfNums o).size ≤ 1000 := by rw [strOfNums_size]; omega
              generalize strOfNums o = T at *
              go_wp2
              go_ret
              exact ⟨T, rfl, hsz, HT⟩
      | true =>
        by_cases h0 : 0 < o.length
        · have j0 : (0 : Int) < (o.length : Int) := by omega
          have kQ := pick_any C a len cap m2 (o.length : Int) w2 hY2.cur (by omega)
          go_wp2_with fail
          refine kQ.mono ?_
          rintro e w3 ⟨p, m3, rfl, hp0, hp1, -, hm3, hc3, hO3⟩
          have hp2 := hp1 (by omega)
          have hY3 := hY2.step hc3 hO3 hC
          obtain ⟨i, rfl⟩ := Int.eq_ofNat_of_zero_le hp0
          obtain ⟨g, rfl, gl, gc, gf⟩ := hY3.at h0
          have c0 := gc i (by omega)
          have f0 := gf i
          have i1 : (0 : Int) ≤ (i : Int) := by omega
          have hY4 := hY3.put i 50 hC
          have hls : (o.set i 50).length = o.length := List.length_set
          rw [hls] at hY4
          have hm3' : m3 ≤ 90 := by omega
          clear kQ hY2 hc3 hO3 hp1 gc gf hm2 hY3
          have HL : Hid ((o.set i 50).length = o.length) := hls
          clear hls
          go_upto_region 11 with fail
          generalize w3.setCell ⟨g, i, none⟩ (.int .u8 50) = w4 at *
          clear c0 f0 gl
          generalize hoo : o.set i 50 = o2 at *
          have hol2 : o2.length ≤ 40 := by rw [HL.out]; exact hol
          have HL2 : Hid (o.length = o2.length) := HL.out.symm
          rw [HL2.out] at hY4 ⊢
          have hY2 := hY4
          have ho2 := hol2
          obtain ⟨m2, rfl⟩ : ∃ x, x = m3 := ⟨_, rfl⟩
          clear hY4 HL hoo HL2 hp2 j0 h0 hol
          have kN := one_any C a len cap m2 30 w4 hY2.cur (by omega)
          go_wp2_with fail
          refine kN.mono ?_
          rintro e w5 ⟨q, m5, rfl, hm5, hc5, hO5⟩
          have hY5 := hY2.step hc5 hO5 hC
          clear kN hY2 hc5 hO5
          cases q with
          | false =>
            have htx := hY5.own.text
            have HT := hY5.t
            have hsz : (strOfNums o2).size ≤ 1000 := by rw [strOfNums_size]; omega
            generalize strOfNums o2 = T at *
            go_wp2
            go_ret
            exact ⟨T, rfl, hsz, HT⟩
          | true =>
            have kQ := pick_any C a len cap m5 3 w5 hY5.cur (by omega)
            go_wp2_with fail
            refine kQ.mono ?_
            rintro e w6 ⟨p, m6, rfl, hp0, hp1, -, hm6, hc6, hO6⟩
            have hp2 := hp1 (by omega)
            have hY6 := hY5.step hc6 hO6 hC
            clear kQ hY5 hc6 hO6 hp1
            go_wp2_with fail
            go_loopw [5] (fun v wr => ∃ (o : List Int) (m : Nat), v = v ∧ o.length ≤ 301 ∧ m ≤ 100 + 2 * o.length ∧ Yd w wr C a len cap m v o) (fun v _ => 301 - lenV v)
            case atStart => exact ⟨o2, m6, rfl, by omega, by omega, hY6⟩
            case round =>
              obtain ⟨o, m, -, hol, hmb, hY⟩ := hrel
              clear hY6
              obtain ⟨sa, sc, rfl⟩ := hY.own.shape
              by_cases hlt : (o.length : Int) < 299 + p
              · have kR := pick_any C a len cap m 2 wr hY.cur (by omega)
                go_wp2_with fail
                refine kR.mono ?_
                rintro e w7 ⟨x, m7, rfl, hx0, hx1, -, hm7, hc7, hO7⟩
                have hx2 := hx1 (by omega)
                have hY7 := hY.step hc7 hO7 hC
                have hOw := hY7.own
                have hts := hY7.t.size
                have hwv : IntKind.u8.wrap (48 + x) = 48 + x := by rw [IntKind.wrap_u8]; omega
                clear kR hY hc7 hO7 hx1
                go_wp2_with (first | (at_builtin; refine wpList_append_own _ rfl _ _ 22 rfl w.heap.size 5 i0 (.int .u8 0) 1 1 Tryd.underlying22 hi hz0 hz1 hz2 rfl (by decide) _ _ _ rfl (hOw.below ((Below.refl _ _).alloc (Nat.le_refl _) _)) ⟨w7.heap.size, 0, none⟩ 1 1 [.int .u8 (48 + x)] rfl rfl (cell_one_new _ _ _) (fun y hy => by simp at hy; subst hy; rfl) (by unfold maxLen; omega) (by omega) (by rw [size_al]; omega) ?_; intro v2 w3 hown2 hgrow2 _) | fail)
                have hY8 := hY7.app hown2 hgrow2 hC
                obtain ⟨ra, rc, rfl⟩ := hY8.own.shape
                exact ⟨⟨o ++ [48 + x], m7, trivial, by rw [List.length_append]; simp; omega, by rw [List.length_append]; simp; omega, hY8⟩, by simp [lenV]; omega⟩
              · have htx := hY.own.text
                have HT := hY.t
                have hsz : (strOfNums o).size ≤ 1000 := by rw [strOfNums_size]; omega
                generalize strOfNums o = T at *
                go_wp2
                go_ret
                exact ⟨T, rfl, hsz, HT⟩
        · have j0 : ¬ (0 : Int) < (o.length : Int) := by omega
          have ho2 := hol
          obtain ⟨o2, rfl⟩ : ∃ x, x = o := ⟨_, rfl⟩
          have kN := one_any C a len cap m2 30 w2 hY2.cur (by omega)
          go_wp2_with fail
          refine kN.mono ?_
          rintro e w5 ⟨q, m5, rfl, hm5, hc5, hO5⟩
          have hY5 := hY2.step hc5 hO5 hC
          clear kN hY2 hc5 hO5
          cases q with
          | false =>
            have htx := hY5.own.text
            have HT := hY5.t
            have hsz : (strOfNums o2).size ≤ 1000 := by rw [strOfNums_size]; omega
            generalize strOfNums o2 = T at *
            go_wp2
            go_ret
            exact ⟨T, rfl, hsz, HT⟩
          | true =>
            have kQ := pick_any C a len cap m5 3 w5 hY5.cur (by omega)
            go_wp2_with fail
            refine kQ.mono ?_
            rintro e w6 ⟨p, m6, rfl, hp0, hp1, -, hm6, hc6, hO6⟩
            have hp2 := hp1 (by omega)
            have hY6 := hY5.step hc6 hO6 hC
            clear kQ hY5 hc6 hO6 hp1
            go_wp2_with fail
            go_loopw [5] (fun v wr => ∃ (o : List Int) (m : Nat), v = v ∧ o.length ≤ 301 ∧ m ≤ 100 + 2 * o.length ∧ Yd w wr C a len cap m v o) (fun v _ => 301 - lenV v)
            case atStart => exact ⟨o2, m6, rfl, by omega, by omega, hY6⟩
            case round =>
              obtain ⟨o, m, -, hol, hmb, hY⟩ := hrel
              clear hY6
              obtain ⟨sa, sc, rfl⟩ := hY.own.shape
              by_cases hlt : (o.length : Int) < 299 + p
              · have kR := pick_any C a len cap m 2 wr hY.cur (by omega)
                go_wp2_with fail
                refine kR.mono ?_
                rintro e w7 ⟨x, m7, rfl, hx0, hx1, -, hm7, hc7, hO7⟩
                have hx2 := hx1 (by omega)
                have hY7 := hY.step hc7 hO7 hC
                have hOw := hY7.own
                have hts := hY7.t.size
                have hwv : IntKind.u8.wrap (48 + x) = 48 + x := by rw [IntKind.wrap_u8]; omega
                clear kR hY hc7 hO7 hx1
                go_wp2_with (first | (at_builtin; refine wpList_append_own _ rfl _ _ 22 rfl w.heap.size 5 i0 (.int .u8 0) 1 1 Tryd.underlying22 hi hz0 hz1 hz2 rfl (by decide) _ _ _ rfl (hOw.below ((Below.refl _ _).alloc (Nat.le_refl _) _)) ⟨w7.heap.size, 0, none⟩ 1 1 [.int .u8 (48 + x)] rfl rfl (cell_one_new _ _ _) (fun y hy => by simp at hy; subst hy; rfl) (by unfold maxLen; omega) (by omega) (by rw [size_al]; omega) ?_; intro v2 w3 hown2 hgrow2 _) | fail)
                have hY8 := hY7.app hown2 hgrow2 hC
                obtain ⟨ra, rc, rfl⟩ := hY8.own.shape
                exact ⟨⟨o ++ [48 + x], m7, trivial, by rw [List.length_append]; simp; omega, by rw [List.length_append]; simp; omega, hY8⟩, by simp [lenV]; omega⟩
              · have htx := hY.own.text
                have HT := hY.t
                have hsz : (strOfNums o).size ≤ 1000 := by rw [strOfNums_size]; omega
                generalize strOfNums o = T at *
                go_wp2
                go_ret
                exact ⟨T, rfl, hsz, HT⟩
end Go.Proofs.YtplpggcbpcebcaaDoor
