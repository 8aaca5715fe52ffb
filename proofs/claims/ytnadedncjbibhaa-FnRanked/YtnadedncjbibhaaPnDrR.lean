/- What DrawRunRanked draws (tools/gen_pn11.py). -/
import Derived.Test.YtnadedncjbibhaaPnDr
namespace Go.Proofs.Ytnadedncjbibhaa
open Go.RowKit
theorem own_same {w w' : World} {base : Nat} {v : Value} {k : Nat} {F : Nat → Int} (h : Own w base v k F) (hb : ∀ q, v.ownBlock = some q → w'.heap[q]? = w.heap[q]?) : Own w' base v k F := by
  obtain ⟨hl, h0 | ⟨g, cap, cur, h1, h2, h3, h4⟩⟩ := h
  · exact ⟨hl, .inl h0⟩
  · exact ⟨hl, .inr ⟨g, cap, cur, h1, h2, (hb g (by rw [h1]; rfl)).trans h3, h4⟩⟩
theorem own_ge {w : World} {base : Nat} {v : Value} {k : Nat} {F : Nat → Int} (h : Own w base v k F) : ∀ q, v.ownBlock = some q → base ≤ q ∧ q < w.heap.size := fun q hq => World.ownsRow.lt h q hq
/-- what stands while the first times are drawn -/
structure Ds (w wx : World) (C b2 : Nat) (a : Option Addr) (len cap : Nat) (va : Value) (k : Nat) (F : Nat → Int) (vb : Value) (i : Nat) (f : Nat → Int) (n : Nat) : Prop where
  cur : Cur wx C a len cap n
  oc : OwnC wx (C + 1) va k F
  nb : ∀ q, va.ownBlock = some q → q < b2
  ob : Own wx b2 vb i f
  cb : C < b2
  bel : Below C w wx
section
variable {w wx wy : World} {C b2 : Nat} {a : Option Addr} {len cap : Nat} {va vb : Value} {k i : Nat} {F f : Nat → Int} {n m : Nat}
theorem Ds.step (h : Ds w wx C b2 a len cap va k F vb i f n) (o : Only C wx wy) (hc : Cur wy C a len cap m) : Ds w wy C b2 a len cap va k F vb i f m := by
  have hcb := h.cb
  exact ⟨hc, h.oc.same fun x hx => o.block x (by have := (h.oc.ge x hx).1; omega), h.nb, own_same h.ob fun x hx => o.block x (by have := (own_ge h.ob x hx).1; omega), h.cb, h.bel.trans o.below⟩
theorem Ds.al (h : Ds w wx C b2 a len cap va k F vb i f n) (o : Obj) : Ds w (wx.alloc o) C b2 a len cap va k F vb i f n := by
  have hb : Below wx.heap.size wx (wx.alloc o) := (Below.refl _ _).alloc (Nat.le_refl _) _
  exact ⟨h.cur.below hb h.cur.lt, h.oc.same fun x hx => hb.block x (h.oc.ge x hx).2, h.nb, own_same h.ob fun x hx => hb.block x (own_ge h.ob x hx).2, h.cb, h.bel.trans (hb.mono (Nat.le_of_lt h.cur.lt))⟩
theorem Ds.app {v' : Value} {x : Int} (h : Ds w wx C b2 a len cap va k F vb i f n) (hg : wx.grownBy wy vb.ownBlock) (ho : wy.ownsRow b2 3 1 v' (i + 1) (vL f i ++ [.int .i64 x])) (hs : b2 ≤ wx.heap.size) : Ds w wy C b2 a len cap va k F v' (i + 1) (put f i x) n := by
  have hb : Below b2 wx wy := (Below.refl _ _).grown hg hs (fun q hq => (own_ge h.ob q hq).1)
  have hcb := h.cb
  exact ⟨h.cur.below hb h.cb, h.oc.same fun y hy => hb.block y (h.nb y hy), h.nb, own_put ho, h.cb, h.bel.trans (hb.mono (by omega))⟩
end
def DsE (w wx : World) (C b2 : Nat) (a : Option Addr) (len cap : Nat) (va : Value) (k : Nat) (F : Nat → Int) (vb : Value) (i : Nat) (f : Nat → Int) (bd : Nat) : Prop := ∃ n, n ≤ bd ∧ Ds w wx C b2 a len cap va k F vb i f n
def DsF (w wx : World) (C b2 : Nat) (a : Option Addr) (len cap : Nat) (va : Value) (k : Nat) (F : Nat → Int) (vb : Value) (bd mx : Nat) : Prop := ∃ i f n, i ≤ mx ∧ n ≤ bd ∧ Ds w wx C b2 a len cap va k F vb i f n
def AnsDR (w w' : World) (e : Ending) : Prop := ∃ a k c F b m d f u, e = .returned (.tuple #[.slice a k c, .slice b m d, .int .i64 u]) ∧ k ≤ 7 ∧ k ≤ c ∧ m ≤ 9 ∧ IL w' a (k * 3) F ∧ IL w' b m f ∧ Below w.heap.size w w'
set_option maxRecDepth 20000 in
set_option maxHeartbeats 8000000 in
theorem drawRank (a : Option Addr) (len cap : Nat) (w : World) (hl : len ≤ 1048576) (hb : 0 < len → ∃ b off, a = some ⟨b, off, none⟩ ∧ b < w.heap.size ∧ ∀ i, i < len → ∃ v : Int, w.cell? ⟨b, off + i, none⟩ = some (.int .u8 v) ∧ 0 ≤ v ∧ v ≤ 255) :
    Calls Try.prog 9 #[.slice a len cap] w fun e w' => AnsDR w w' e := by
  obtain ⟨i0, hi, hzz⟩ := Option.map_eq_some_iff.1 infoI
  simp only [Prod.mk.injEq] at hzz
  obtain ⟨hz0, hz1, hz2⟩ := hzz
  have hc0 := cur_new w a len cap hl hb
  have hB0 : Below w.heap.size w (w.alloc (.cells #[.slice a len cap, .int .i64 0, .int .u64 0] 53)) := (Below.refl _ _).alloc (Nat.le_refl _) _
  clear hb
  go_enter Try.func9, Try.ntmps9
  go_wp2_with fail
  refine (chores_any w.heap.size a len cap _ _ hc0 (by omega)).mono ?_
  rintro e w1 ⟨va, k, F, n1, rfl, hoc, hk7, m1, hc1, hb1⟩
  have hB1 := hB0.trans hb1
  clear hc0 hB0 hb1
  obtain ⟨sa, sc, hva, hksc, -⟩ := hoc.shape
  obtain ⟨b2, hb2⟩ : ∃ b2, b2 = w1.heap.size := ⟨_, rfl⟩
  have D1 : Ds w w1 w.heap.size b2 a len cap va k F (.slice none 0 0) 0 (fun _ => 0) n1 := ⟨hc1, hoc, fun q hq => by rw [hb2]; exact (hoc.ge q hq).2, World.ownsRow_nil _ _ _ _, by rw [hb2]; exact hc1.lt, hB1⟩
  have hs2 : b2 ≤ w1.heap.size := by omega
  clear hc1 hoc hB1
  subst hva
  go_wp2_with fail
  refine (one_any w.heap.size a len cap _ _ _ D1.cur (by omega)).mono ?_
  rintro e w2 ⟨b2', n2, rfl, m2, hc2, hO2⟩
  have hsz2 : b2 ≤ w2.heap.size := by rw [hO2.size]; exact hs2
  have D2 := D1.step hO2 hc2
  clear hO2 hc2 D1
  have hs3 : b2 ≤ w2.heap.size := hsz2
  clear hs2
  go_upto_region 6 with fail
  go_loopw [7, 20] (fun vb ix wr => ∃ (i : Nat) (f : Nat → Int) (n : Nat), i ≤ k ∧ ix = .int .i64 (i : Int) ∧ n ≤ n1 + 2 + 8 * i ∧ b2 ≤ wr.heap.size ∧ Ds w wr w.heap.size b2 a len cap (.slice sa k sc) k F vb i f n) (fun _ ix _ => k - (intOf ix).toNat)
  case atStart => exact ⟨0, fun _ => 0, n2, Nat.zero_le _, rfl, by omega, hs3, D2⟩
  case round =>
    obtain ⟨i, f, n, hik, rfl, hn, hsz, D3⟩ := hrel
    clear D2 hs3
    by_cases hlt : i < k
    · have j1 : (i : Int) < (k : Int) := by omega
      go_upto_if 23 with fail
      go_cut [9] from 24 to 25 (fun s9 wx => ∃ (x : Int) (n' : Nat), s9 = .int .i64 x ∧ n' ≤ n + 2 ∧ b2 ≤ wx.heap.size ∧ Ds w wx w.heap.size b2 a len cap (.slice sa k sc) k F u7 i f n')
      case first =>
        cases b2' with
        | true =>
          go_wp2_with fail
          go_meet
          case rel => exact ⟨0, n, rfl, by omega, hsz, D3⟩
        | false =>
          go_wp2_with fail
          refine (pick_any w.heap.size a len cap _ _ _ D3.cur (by omega)).mono ?_
          rintro e w4 ⟨r4, n4, rfl, -, -, -, m4, hc4, hO4⟩
          have hsz4 : b2 ≤ w4.heap.size := by rw [hO4.size]; exact hsz
          have D4 := D3.step hO4 hc4
          clear hO4 hc4 D3
          go_wp2
          go_meet
          case rel => exact ⟨r4, n4, rfl, by omega, hsz4, D4⟩
      case rest =>
        clear D3 hsz
        obtain ⟨x5, n5, rfl, m5, hsz5, D5⟩ := hcut
        obtain ⟨w5, hw5⟩ : ∃ x, x = wc := ⟨wc, rfl⟩
        subst hw5
        go_wp2_with fail
        refine (one_any w.heap.size a len cap _ _ _ D5.cur (by omega)).mono ?_
        rintro e w6 ⟨b6, n6, rfl, m6, hc6, hO6⟩
        have hsz6 : b2 ≤ w6.heap.size := by rw [hO6.size]; exact hsz5
        have D6 := D5.step hO6 hc6
        clear hO6 hc6 D5 hsz5
        go_upto_if 27 with fail
        go_cut [9] from 28 to 30 (fun s9 wx => ∃ (x : Int) (n' : Nat), s9 = .int .i64 x ∧ n' ≤ n + 6 ∧ b2 ≤ wx.heap.size ∧ Ds w wx w.heap.size b2 a len cap (.slice sa k sc) k F u7 i f n')
        case first =>
          cases b6 with
          | false =>
            go_wp2_with fail
            go_meet
            case rel => exact ⟨x5, n6, rfl, by omega, hsz6, D6⟩
          | true =>
            have L7 := lit_ip w6 [-1, 60, 61] 3
            have A7 := D6.al (.cells #[.int .i64 (-1), .int .i64 60, .int .i64 61] 3)
            have cl7 := D6.cur.lt
            go_wp2_with fail
            refine (among_any w.heap.size a len cap _ w6.heap.size 3 _ _ _ A7.cur (by omega) L7 (by omega) (by omega) (by omega)).mono ?_
            rintro e w7 ⟨i7, n7, -, rfl, m7, hc7, hO7⟩
            have hsz7 : b2 ≤ w7.heap.size := by rw [hO7.size, size_al]; omega
            have D7 := A7.step hO7 hc7
            generalize List.getD [-1, 60, 61] i7 (0 : Int) = X7 at *
            clear hO7 hc7 A7 L7 D6
            go_wp2
            go_meet
            case rel => exact ⟨X7, n7, rfl, by omega, hsz7, D7⟩
        case rest =>
          clear D6 hsz6
          obtain ⟨x8, n8, rfl, m8, hsz8, D8⟩ := hcut
          obtain ⟨w8, hw8⟩ : ∃ x, x = wc := ⟨wc, rfl⟩
          subst hw8
          obtain ⟨s7, c7, rfl⟩ := D8.ob.shape
          have A8 := D8.al (.cells #[.int .i64 x8] 3)
          go_wp2_with (at_builtin; refine wpList_append_own _ rfl _ _ 24 rfl b2 3 i0 (.int .i64 0) 1 8 Try.underlying24 hi hz0 hz1 hz2 rfl (by decide) _ _ _ rfl (World.ownsRow.alloc D8.ob _) ⟨w8.heap.size, 0, none⟩ 1 1 [.int .i64 (x8)] rfl rfl (cell_one_new _ _ _) (fun y hy => by simp at hy; subst hy; rfl) (by unfold maxLen; omega) (by omega) (by simp; omega) ?_; intro v' wn hown' hgrow3 _)
          have D9 := A8.app hgrow3 hown' (by rw [size_al]; omega)
          have hsz9 : b2 ≤ wn.heap.size := Nat.le_trans (by rw [size_al]; omega) hgrow3.size
          clear hown' hgrow3 A8 D8 hsz8
          go_wp2
          go_roundw
          case rel => exact ⟨i + 1, _, n8, by omega, by go_num, by omega, hsz9, D9⟩
          case measure => simp [intOf]; omega
    · have e : i = k := by omega
      subst e
      have j1 : ¬ (i : Int) < (i : Int) := by omega
      go_wp2_with fail
      refine (one_any w.heap.size a len cap _ _ _ D3.cur (by omega)).mono ?_
      rintro e w4 ⟨b4, n4, rfl, m4, hc4, hO4⟩
      have hsz4 : b2 ≤ w4.heap.size := by rw [hO4.size]; exact hsz
      have D4 := D3.step hO4 hc4
      clear hO4 hc4 D3 hsz
      go_upto_if 37 with fail
      go_cut [7] from 38 to 40 (fun s7 wx => ∃ (m : Nat) (f : Nat → Int) (n' : Nat), m ≤ 8 ∧ n' ≤ n + 2 ∧ Ds w wx w.heap.size b2 a len cap (.slice sa i sc) i F s7 m f n')
      case first =>
        cases b4 with
        | false =>
          go_wp2_with fail
          go_meet
          case rel => exact ⟨i, f, n4, by omega, by omega, D4⟩
        | true =>
          obtain ⟨s7, c7, rfl⟩ := D4.ob.shape
          have A8 := D4.al (.cells #[.int .i64 0] 3)
          go_wp2_with (at_builtin; refine wpList_append_own _ rfl _ _ 24 rfl b2 3 i0 (.int .i64 0) 1 8 Try.underlying24 hi hz0 hz1 hz2 rfl (by decide) _ _ _ rfl (World.ownsRow.alloc D4.ob _) ⟨w4.heap.size, 0, none⟩ 1 1 [.int .i64 (0)] rfl rfl (cell_one_new _ _ _) (fun y hy => by simp at hy; subst hy; rfl) (by unfold maxLen; omega) (by omega) (by simp; omega) ?_; intro v' wn hown' hgrow3 _)
          have D9 := A8.app hgrow3 hown' (by rw [size_al]; omega)
          clear hown' hgrow3 A8 D4
          go_meet
          case rel => exact ⟨i + 1, _, n4, by omega, by omega, D9⟩
      case rest =>
        clear D4 hsz4
        obtain ⟨m5, f5, n5, hm5, hn5, D5⟩ := hcut
        obtain ⟨w5, hw5⟩ : ∃ x, x = wc := ⟨wc, rfl⟩
        subst hw5
        go_wp2_with fail
        refine (pick_any w.heap.size a len cap _ _ _ D5.cur (by omega)).mono ?_
        rintro e w6 ⟨r6, n6, rfl, -, -, -, q6, hc6, hO6⟩
        have D6 := D5.step hO6 hc6
        clear hO6 hc6 D5
        go_wp2_with fail
        refine (one_any w.heap.size a len cap _ _ _ D6.cur (by omega)).mono ?_
        rintro e w7 ⟨b7, n7, rfl, q7, hc7, hO7⟩
        have D7 := D6.step hO7 hc7
        clear hO7 hc7 D6
        go_upto_if 44 with fail
        go_cut [10] from 45 to 47 (fun s10 wx => ∃ (x : Int) (n' : Nat), s10 = .int .i64 x ∧ Ds w wx w.heap.size b2 a len cap (.slice sa i sc) i F u7 m5 f5 n')
        case first =>
          cases b7 with
          | false =>
            go_wp2_with fail
            go_meet
            case rel => exact ⟨r6, n7, rfl, D7⟩
          | true =>
            have L8 := lit_ip w7 [-1, 2000, 2001] 3
            have A8 := D7.al (.cells #[.int .i64 (-1), .int .i64 2000, .int .i64 2001] 3)
            have cl8 := D7.cur.lt
            go_wp2_with fail
            refine (among_any w.heap.size a len cap _ w7.heap.size 3 _ _ _ A8.cur (by omega) L8 (by omega) (by omega) (by omega)).mono ?_
            rintro e w8 ⟨i8, n8, -, rfl, q8, hc8, hO8⟩
            have D8 := A8.step hO8 hc8
            generalize List.getD [-1, 2000, 2001] i8 (0 : Int) = X8 at *
            clear hO8 hc8 A8 L8 D7
            go_wp2
            go_meet
            case rel => exact ⟨X8, n8, rfl, D8⟩
        case rest =>
          clear D7
          obtain ⟨x9, n9, rfl, D9⟩ := hcut
          obtain ⟨s7, c7, rfl⟩ := D9.ob.shape
          obtain ⟨sa2, sc2, e2, hk2, hIL⟩ := D9.oc.shape
          cases e2
          have hIB := D9.ob.il
          have HB : Hid (Below w.heap.size w wc) := D9.bel
          have HI : Hid (IL wc sa (i * 3) F) := hIL
          have HJ : Hid (IL wc s7 m5 f5) := hIB
          clear D9 hIL hIB
          go_wp2
          go_ret3
          exact ⟨sa, i, sc, F, s7, m5, c7, f5, x9, rfl, hk7, hksc, by omega, HI.out, HJ.out, HB.out⟩
end Go.Proofs.Ytnadedncjbibhaa
