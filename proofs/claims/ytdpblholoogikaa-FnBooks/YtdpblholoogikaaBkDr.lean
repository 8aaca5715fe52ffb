/- Drawn bookings (tools/gen_bkdr.py). -/
import Derived.Test.YtdpblholoogikaaBlN
import Derived.Test.YtdpblholoogikaaBkWt
import Derived.Test.YtdpblholoogikaaCurEs
import Derived.Test.YtdpblholoogikaaCurPick
import Derived.Deep.RegionHeld3
import Derived.Deep.Cut
namespace Go.Proofs.Ytdpblholoogikaa
open Go.RowKit
/-- what stands while bookings are drawn -/
structure Eb (w wx : World) (C : Nat) (a : Option Addr) (len cap n' : Nat) (v : Value) (k : Nat) (F : Nat → Int) : Prop where
  cur : Cur wx C a len cap n'
  own : wx.ownsRow w.heap.size 25 4 v k (vL F (k * 4))
  t : Turns C (C + 1) w wx
theorem own_same {w w' : World} {base m : Nat} {v : Value} {xs : List Value} (h : w.ownsRow base 25 4 v m xs) (hb : ∀ g, v.ownBlock = some g → w'.heap[g]? = w.heap[g]?) : w'.ownsRow base 25 4 v m xs := by
  obtain ⟨hl, h⟩ := h
  refine ⟨hl, ?_⟩
  rcases h with h | ⟨g, cap, cur, h1, h2, h3, h4⟩
  · exact .inl h
  · exact .inr ⟨g, cap, cur, h1, h2, (hb g (by rw [h1]; rfl)).trans h3, h4⟩
theorem bx_same {w w' : World} {b : Nat} {vs : List Value} (h : Bx w b vs) (hs : w.heap.size ≤ w'.heap.size) (e : w'.heap[b]? = w.heap[b]?) : Bx w' b vs :=
  ⟨Nat.lt_of_lt_of_le h.lt hs, fun i hi => (cell_same e _).trans (h.c i hi), fun j => (frozen_same e j).trans (h.fz j)⟩
section
variable {w wx wy : World} {C : Nat} {a : Option Addr} {len cap n' n2 : Nat} {v v' : Value} {k : Nat} {F : Nat → Int}
theorem Eb.step (h : Eb w wx C a len cap n' v k F) (hc : Cur wy C a len cap n2) (o : Only C wx wy) (hC : C < w.heap.size) : Eb w wy C a len cap n2 v k F :=
  ⟨hc, own_same h.own fun g hg => o.block g (by have := (World.ownsRow.lt h.own g hg).1; omega), h.t.trans (tn_only o)⟩
theorem Eb.below (h : Eb w wx C a len cap n' v k F) (b : Below wx.heap.size wx wy) (hC : C < w.heap.size) : Eb w wy C a len cap n' v k F :=
  ⟨h.cur.below b (by have := h.t.size; omega), own_same h.own fun g hg => b.block g (World.ownsRow.lt h.own g hg).2, tn_below h.t b h.t.size⟩
theorem Eb.app {p q r s : Int} (h : Eb w wx C a len cap n' v k F) (ho : wy.ownsRow w.heap.size 25 4 v' (k + 1) (vL F (k * 4) ++ [.int .i64 p, .int .i64 q, .int .i64 r, .int .i64 s])) (hg : (wx.alloc (.cells #[.int .i64 p, .int .i64 q, .int .i64 r, .int .i64 s] 25)).grownBy wy v.ownBlock) (hC : C < w.heap.size) : Eb w wy C a len cap n' v' (k + 1) (insF F k p q r s) := by
  have hb : Below w.heap.size wx wy := ((Below.refl _ _).alloc h.t.size (.cells #[.int .i64 p, .int .i64 q, .int .i64 r, .int .i64 s] 25)).grown hg (by simp; have := h.t.size; omega) (fun q hq => (World.ownsRow.lt h.own q hq).1)
  exact ⟨h.cur.below hb hC, (ins_end F k p q r s) ▸ ho, tn_below h.t hb (Nat.le_refl _)⟩
end
/-- drawn bookings, and the cursor behind them -/
def AnsBd (w w' : World) (e : Ending) (C : Nat) (a : Option Addr) (len cap n0 : Nat) : Prop := ∃ (n' N : Nat) (p : Option Addr) (c : Nat) (G : Nat → Int), e = .returned (.slice p N c) ∧ N ≤ 41 ∧ w'.ownsRow w.heap.size 25 4 (.slice p N c) N (vL G (N * 4)) ∧ n' ≤ n0 + 700 ∧ Cur w' C a len cap n' ∧ Turns C (C + 1) w w'
theorem ow_shape {w : World} {base m : Nat} {v : Value} {xs : List Value} (h : w.ownsRow base 25 4 v m xs) : ∃ p c, v = .slice p m c := by
  obtain ⟨_, ⟨h1, h2⟩ | ⟨g, cap, cur, h1, _⟩⟩ := h
  · exact ⟨none, 0, by rw [h1, h2]⟩
  · exact ⟨_, _, h1⟩
theorem wrb {x : Int} (h0 : 0 ≤ x) (h1 : x ≤ 100000) : IntKind.i64.wrap x = x := by rw [IntKind.wrap_i64]; omega
theorem ip3 (w : World) (x y z : Int) : IP (w.alloc (.cells #[.int .i64 x, .int .i64 y, .int .i64 z] 3)) w.heap.size 3 (fun i => if i = 0 then x else if i = 1 then y else z) := by
  have h := bx_new (b := w.heap.size) (w := w) [.int .i64 x, .int .i64 y, .int .i64 z] 3 rfl
  refine ⟨h.lt, fun i hi => ?_, h.fz⟩
  have := h.c i (by simpa using hi)
  rw [this]
  match i, hi with
  | 0, _ => rfl
  | 1, _ => rfl
  | 2, _ => rfl
set_option maxRecDepth 20000 in
set_option maxHeartbeats 8000000 in
theorem books_any (C : Nat) (a : Option Addr) (len cap n0 : Nat) (w : World) (h : Cur w C a len cap n0) (hn0 : n0 ≤ 5000) :
    Calls Try.prog 14 #[.pointer (some ⟨C, 0, none⟩)] w fun e w' => AnsBd w w' e C a len cap n0 := by
  obtain ⟨ib, hib, hz0, hz1, hz2⟩ := infoBkd
  have hC := h.lt
  have hE0 : Eb w w C a len cap n0 (.slice none 0 0) 0 (fun _ => 0) := ⟨h, World.ownsRow_nil _ _ _ _, turns_of (Below.refl _ _)⟩
  clear h
  go_enter Try.func14, Try.ntmps14
  go_wp2_with fail
  refine (pick_any C a len cap _ _ _ hE0.cur (by omega)).mono ?_
  rintro e w1 ⟨at0, n1, rfl, p1, q1, -, m1, hc1, hO1⟩
  have q1 := q1 (by omega)
  have hE1 := hE0.step hc1 hO1 hC
  clear hE0 hc1 hO1
  go_wp2_with fail
  refine (pick_any C a len cap _ _ _ hE1.cur (by omega)).mono ?_
  rintro e w2 ⟨r0, n2, rfl, p2, q2, -, m2, hc2, hO2⟩
  have q2 := q2 (by omega)
  have hE2 := hE1.step hc2 hO2 hC
  clear hE1 hc2 hO2
  go_wp2_with fail
  refine (one_any C a len cap _ _ _ hE2.cur (by omega)).mono ?_
  rintro e w3 ⟨b3, n3, rfl, m3, hc3, hO3⟩
  have hE3 := hE2.step hc3 hO3 hC
  clear hE2 hc3 hO3
  cases b3 with
  | false =>
    obtain ⟨rn, rfl⟩ := Int.eq_ofNat_of_zero_le p2
    have hr : rn ≤ 41 := by omega
    have hn3 : n3 ≤ n0 + 8 := by omega
    clear p2 q2 m1 m2 m3
    go_wp2_with fail
    go_loopw [3, 4, 5, 6] (fun v x y i wr => ∃ (k r n' : Nat) (la at_ : Int) (F : Nat → Int), k + r ≤ 41 ∧ i = .int .i64 (r : Int) ∧ x = .int .i64 la ∧ y = .int .i64 at_ ∧ (0 ≤ la ∧ la ≤ 11) ∧ (0 ≤ at_ ∧ at_ ≤ 10010 + 11 * k) ∧ n' ≤ n0 + 8 + 16 * k ∧ Eb w wr C a len cap n' v k F) (fun _ _ _ i _ => (intOf i).toNat)
    case atStart => exact ⟨0, rn, _, 0, at0, _, by omega, rfl, rfl, rfl, by omega, by omega, by omega, hE3⟩
    case round =>
      obtain ⟨k, r, m, la, at_, F, hkr, rfl, rfl, rfl, hla, hat, hm, hE⟩ := hrel
      clear hE3
      by_cases hr0 : 0 < r
      rotate_left
      · have hr1 : r = 0 := by omega
        subst hr1
        obtain ⟨p, c, rfl⟩ := ow_shape hE.own
        have HA : Hid (AnsBd w wr (.returned (.slice p k c)) C a len cap n0) := ⟨m, k, p, c, F, rfl, by omega, hE.own, by omega, hE.cur, hE.t⟩
        clear hE
        go_wp2
        go_ret
        exact HA.out
      · obtain ⟨r, rfl⟩ : ∃ r2, r = r2 + 1 := ⟨r - 1, by omega⟩
        have i0 : (0 : Int) < ((r + 1 : Nat) : Int) := by omega
        go_wp2_with fail
        refine (pick_any C a len cap _ _ _ hE.cur (by omega)).mono ?_
        rintro e w5 ⟨x5, n5, rfl, p5, q5, -, m5, hc5, hO5⟩
        have q5 := q5 (by omega)
        have hE5 := hE.step hc5 hO5 hC
        clear hE hc5 hO5
        go_wp2_with fail
        refine (pick_any C a len cap _ _ _ hE5.cur (by omega)).mono ?_
        rintro e w6 ⟨x6, n6, rfl, p6, q6, -, m6, hc6, hO6⟩
        have q6 := q6 (by omega)
        have hE6 := hE5.step hc6 hO6 hC
        clear hE5 hc6 hO6
        have hZ := bk_box w6 la at_ (at_ + 1 + x5) x6 25
        have hBz : Below w6.heap.size w6 (w6.alloc (.cells #[.int .i64 la, .int .i64 at_, .int .i64 (at_ + 1 + x5), .int .i64 x6] 25)) := (Below.refl _ _).alloc (Nat.le_refl _) _
        have hE7 := hE6.below hBz hC
        have HNE : Hid (∀ q, Value.ownBlock u3 = some q → q ≠ w6.heap.size) := fun q hq => Nat.ne_of_lt (World.ownsRow.lt hE6.own q hq).2
        have hzw : w.heap.size ≤ w6.heap.size := hE6.t.size
        have hto : 1 ≤ at_ + 1 + x5 ∧ at_ + 1 + x5 ≤ at_ + 6 := by omega
        clear hBz hE6
        go_upto_region 10 with fail
        generalize at_ + 1 + x5 = to at *
        generalize w6.alloc (.cells #[.int .i64 la, .int .i64 at_, .int .i64 to, .int .i64 x6] 25) = w7 at hE7 hZ ⊢
        generalize w6.heap.size = zb at hZ HNE hzw ⊢
        have hzC : zb ≠ C := by omega
        go_wp2_with fail
        refine (one_any C a len cap _ _ _ hE7.cur (by omega)).mono ?_
        rintro e w8 ⟨b8, n8, rfl, m8, hc8, hO8⟩
        have hZ8 := bx_same hZ (by rw [hO8.size]; exact Nat.le_refl _) (hO8.block zb hzC)
        have hE8 := hE7.step hc8 hO8 hC
        clear hE7 hc8 hO8 hZ
        cases b8 with
        | false =>
          have ZB : Bx w8 zb [.int .i64 la, .int .i64 at_, .int .i64 to, .int .i64 x6] := hZ8
          have htvb : 0 ≤ to ∧ to ≤ 10016 + 11 * k := by omega
          obtain ⟨y0, y1, y2, y3⟩ := bx_four4 ZB
          have hsx := hE8.t.size
          go_upto_region 13 with (at_builtin; refine wpList_append_own _ rfl _ _ 23 rfl w.heap.size 25 ib (bkv 0 0 0 0) 4 32 Try.underlying23 hib hz0 hz1 hz2 rfl (by decide) _ _ _ rfl (World.ownsRow.alloc hE8.own _) ⟨w8.heap.size, 0, none⟩ 1 1 [.int .i64 la, .int .i64 at_, .int .i64 to, .int .i64 x6] rfl rfl (four_new _ _ _ _ _ _) (fun x hx => by simp at hx; rcases hx with rfl | rfl | rfl | rfl <;> rfl) (by unfold maxLen; omega) (by omega) (by simp; omega) ?_; intro vN w12 hown12 hgrow12 _)
          have hZa := ZB.alloc (.cells #[.int .i64 la, .int .i64 at_, .int .i64 to, .int .i64 x6] 25)
          have hZ12 := bx_same hZa hgrow12.size (hgrow12.block zb hZa.lt (fun e => HNE.out zb (show Value.ownBlock u3 = some zb from e.symm) rfl))
          have hE12 := (hE8.app hown12 hgrow12 hC).below (Below.drew (Below.refl _ _)) hC
          have c2 : w12.drew.cell? ⟨zb, 2, none⟩ = some (.int .i64 to) := hZ12.c2
          clear hZa hZ12 hown12 hgrow12 ZB hZ8 hE8 y0 y1 y2 y3 hsx HNE
          go_region_held3 (fun w' => w'.cell? ⟨zb, 2, none⟩ = some (.int .i64 to))
            (first | (exact c2) | (exact c2b) | (fail))
            (first | (go_at_call 15; refine (pick_any C a len cap _ _ _ hE12.cur (by omega)).mono ?_; rintro e w13 ⟨x13, n13, rfl, p13, q13, -, m13, hc13, hO13⟩; have q13 := q13 (by omega); have c2b := (cell_same (hO13.block zb hzC) 2).trans c2) | (fail))
          have hE13 := hE12.step hc13 hO13 hC
          clear hE12 hc13 hO13 c2 c2b
          go_wp2_with fail
          refine (one_any C a len cap _ _ _ hE13.cur (by omega)).mono ?_
          rintro e w14 ⟨b14, n14, rfl, m14, hc14, hO14⟩
          have hE14 := hE13.step hc14 hO14 hC
          clear hE13 hc14 hO14
          cases b14 with
          | false =>
            go_wp2
            exact ⟨⟨k + 1, r, n14, la, to + x13, _, by omega, by go_num, rfl, congrArg (Value.int .i64) (wrb (by omega) (by omega)), by omega, by omega, by omega, hE14⟩, by first | (simp [intOf]; done) | (simp [intOf]; omega)⟩
          | true =>
            by_cases h9 : la < 9
            · go_wp2_with fail
              refine (pick_any C a len cap _ _ _ hE14.cur (by omega)).mono ?_
              rintro e w15 ⟨x15, n15, rfl, p15, q15, -, m15, hc15, hO15⟩
              have q15 := q15 (by omega)
              have hE15 := hE14.step hc15 hO15 hC
              clear hE14 hc15 hO15
              go_wp2_with fail
              refine (pick_any C a len cap _ _ _ hE15.cur (by omega)).mono ?_
              rintro e w16 ⟨x16, n16, rfl, p16, q16, -, m16, hc16, hO16⟩
              have q16 := q16 (by omega)
              have hE16 := hE15.step hc16 hO16 hC
              clear hE15 hc16 hO16
              go_wp2
              exact ⟨⟨k + 1, r, n16, la + (1 + x15), x16, _, by omega, by go_num, rfl, rfl, by omega, by omega, by omega, hE16⟩, by first | (simp [intOf]; done) | (simp [intOf]; omega)⟩
            · go_wp2
              exact ⟨⟨k + 1, r, n14, la, to + x13, _, by omega, by go_num, rfl, congrArg (Value.int .i64) (wrb (by omega) (by omega)), by omega, by omega, by omega, hE14⟩, by first | (simp [intOf]; done) | (simp [intOf]; omega)⟩
        | true =>
          have y1 := hZ8.c1
          have hBa : Below w8.heap.size w8 (w8.alloc (.cells #[.int .i64 at_, .int .i64 10000, .int .i64 10001] 3)) := (Below.refl _ _).alloc (Nat.le_refl _) _
          have hE9 := hE8.below hBa hC
          have hZ9 := hZ8.on hBa
          have hI := ip3 w8 at_ 10000 10001
          have hlC : w8.heap.size ≠ C := by have := hE8.cur.lt; omega
          clear hBa hE8
          go_wp2_with fail
          refine (among_any C a len cap _ w8.heap.size 3 3 _ _ hE9.cur (by omega) hI hlC (by omega) (by omega)).mono ?_
          rintro e w10 ⟨i10, n10, hi10, rfl, m10, hc10, hO10⟩
          obtain ⟨tv, htv⟩ : ∃ tv : Int, tv = (fun i : Nat => if i = 0 then at_ else if i = 1 then 10000 else 10001) i10 := ⟨_, rfl⟩
          have htb : 0 ≤ tv ∧ (tv ≤ 10001 ∨ tv = at_) := by
            match i10, hi10 with
            | 0, _ => simp at htv; omega
            | 1, _ => simp at htv; omega
            | 2, _ => simp at htv; omega
          have htv2 : (if i10 = 0 then at_ else if i10 = 1 then 10000 else 10001) = tv := htv.symm
          rw [htv2]
          have hE10 := hE9.step hc10 hO10 hC
          have hZ10 := bx_same hZ9 (by rw [hO10.size]; exact Nat.le_refl _) (hO10.block zb hzC)
          clear hE9 hc10 hO10 hZ9 hI hlC hZ8 y1 htv htv2
          have hf2 := hZ10.fz 2
          have hl2 := hZ10.lt
          have hO11 := (Only.refl zb w10).set 2 (.int .i64 tv)
          have hZ11 := hZ10.set 2 (by simp) (.int .i64 tv)
          have hE11 : Eb w (w10.setCell ⟨zb, 2, none⟩ (.int .i64 tv)) C a len cap n10 u3 k F := ⟨hE10.cur.below hO11.below (by omega), own_same hE10.own (fun g hg => hO11.block g (HNE.out g hg)), tn_below hE10.t hO11.below hzw⟩
          have y2 := hZ10.c2
          clear hE10 hZ10 hO11
          go_upto_region 12 with fail
          generalize w10.setCell ⟨zb, 2, none⟩ (.int .i64 tv) = w11 at hZ11 hE11 ⊢
          clear y2 hf2 hl2
          have ZB : Bx w11 zb [.int .i64 la, .int .i64 at_, .int .i64 tv, .int .i64 x6] := hZ11
          have htvb : 0 ≤ tv ∧ tv ≤ 10016 + 11 * k := by omega
          obtain ⟨y0, y1, y2, y3⟩ := bx_four4 ZB
          have hsx := hE11.t.size
          go_upto_region 13 with (at_builtin; refine wpList_append_own _ rfl _ _ 23 rfl w.heap.size 25 ib (bkv 0 0 0 0) 4 32 Try.underlying23 hib hz0 hz1 hz2 rfl (by decide) _ _ _ rfl (World.ownsRow.alloc hE11.own _) ⟨w11.heap.size, 0, none⟩ 1 1 [.int .i64 la, .int .i64 at_, .int .i64 tv, .int .i64 x6] rfl rfl (four_new _ _ _ _ _ _) (fun x hx => by simp at hx; rcases hx with rfl | rfl | rfl | rfl <;> rfl) (by unfold maxLen; omega) (by omega) (by simp; omega) ?_; intro vN w12 hown12 hgrow12 _)
          have hZa := ZB.alloc (.cells #[.int .i64 la, .int .i64 at_, .int .i64 tv, .int .i64 x6] 25)
          have hZ12 := bx_same hZa hgrow12.size (hgrow12.block zb hZa.lt (fun e => HNE.out zb (show Value.ownBlock u3 = some zb from e.symm) rfl))
          have hE12 := (hE11.app hown12 hgrow12 hC).below (Below.drew (Below.refl _ _)) hC
          have c2 : w12.drew.cell? ⟨zb, 2, none⟩ = some (.int .i64 tv) := hZ12.c2
          clear hZa hZ12 hown12 hgrow12 ZB hZ11 hE11 y0 y1 y2 y3 hsx HNE
          go_region_held3 (fun w' => w'.cell? ⟨zb, 2, none⟩ = some (.int .i64 tv))
            (first | (exact c2) | (exact c2b) | (fail))
            (first | (go_at_call 15; refine (pick_any C a len cap _ _ _ hE12.cur (by omega)).mono ?_; rintro e w13 ⟨x13, n13, rfl, p13, q13, -, m13, hc13, hO13⟩; have q13 := q13 (by omega); have c2b := (cell_same (hO13.block zb hzC) 2).trans c2) | (fail))
          have hE13 := hE12.step hc13 hO13 hC
          clear hE12 hc13 hO13 c2 c2b
          go_wp2_with fail
          refine (one_any C a len cap _ _ _ hE13.cur (by omega)).mono ?_
          rintro e w14 ⟨b14, n14, rfl, m14, hc14, hO14⟩
          have hE14 := hE13.step hc14 hO14 hC
          clear hE13 hc14 hO14
          cases b14 with
          | false =>
            go_wp2
            exact ⟨⟨k + 1, r, n14, la, tv + x13, _, by omega, by go_num, rfl, congrArg (Value.int .i64) (wrb (by omega) (by omega)), by omega, by omega, by omega, hE14⟩, by first | (simp [intOf]; done) | (simp [intOf]; omega)⟩
          | true =>
            by_cases h9 : la < 9
            · go_wp2_with fail
              refine (pick_any C a len cap _ _ _ hE14.cur (by omega)).mono ?_
              rintro e w15 ⟨x15, n15, rfl, p15, q15, -, m15, hc15, hO15⟩
              have q15 := q15 (by omega)
              have hE15 := hE14.step hc15 hO15 hC
              clear hE14 hc15 hO15
              go_wp2_with fail
              refine (pick_any C a len cap _ _ _ hE15.cur (by omega)).mono ?_
              rintro e w16 ⟨x16, n16, rfl, p16, q16, -, m16, hc16, hO16⟩
              have q16 := q16 (by omega)
              have hE16 := hE15.step hc16 hO16 hC
              clear hE15 hc16 hO16
              go_wp2
              exact ⟨⟨k + 1, r, n16, la + (1 + x15), x16, _, by omega, by go_num, rfl, rfl, by omega, by omega, by omega, hE16⟩, by first | (simp [intOf]; done) | (simp [intOf]; omega)⟩
            · go_wp2
              exact ⟨⟨k + 1, r, n14, la, tv + x13, _, by omega, by go_num, rfl, congrArg (Value.int .i64) (wrb (by omega) (by omega)), by omega, by omega, by omega, hE14⟩, by first | (simp [intOf]; done) | (simp [intOf]; omega)⟩
  | true =>
    go_wp2_with fail
    refine (pick_any C a len cap _ _ _ hE3.cur (by omega)).mono ?_
    rintro e w4 ⟨r4, n4, rfl, p4, q4, -, m4, hc4, hO4⟩
    have q4 := q4 (by omega)
    have hE4 := hE3.step hc4 hO4 hC
    clear hE3 hc4 hO4
    obtain ⟨rn, hrn⟩ := Int.eq_ofNat_of_zero_le (show 0 ≤ 39 + r4 by omega)
    have hr : rn ≤ 41 := by omega
    have hn4 : n4 ≤ n0 + 8 := by omega
    clear p2 q2 m1 m2 m3 m4
    go_wp2_with fail
    go_loopw [3, 4, 5, 6] (fun v x y i wr => ∃ (k r n' : Nat) (la at_ : Int) (F : Nat → Int), k + r ≤ 41 ∧ i = .int .i64 (r : Int) ∧ x = .int .i64 la ∧ y = .int .i64 at_ ∧ (0 ≤ la ∧ la ≤ 11) ∧ (0 ≤ at_ ∧ at_ ≤ 10010 + 11 * k) ∧ n' ≤ n0 + 8 + 16 * k ∧ Eb w wr C a len cap n' v k F) (fun _ _ _ i _ => (intOf i).toNat)
    case atStart => exact ⟨0, rn, _, 0, at0, _, by omega, by rw [← hrn], rfl, rfl, by omega, by omega, by omega, hE4⟩
    case round =>
      obtain ⟨k, r, m, la, at_, F, hkr, rfl, rfl, rfl, hla, hat, hm, hE⟩ := hrel
      clear hE4
      by_cases hr0 : 0 < r
      rotate_left
      · have hr1 : r = 0 := by omega
        subst hr1
        obtain ⟨p, c, rfl⟩ := ow_shape hE.own
        have HA : Hid (AnsBd w wr (.returned (.slice p k c)) C a len cap n0) := ⟨m, k, p, c, F, rfl, by omega, hE.own, by omega, hE.cur, hE.t⟩
        clear hE
        go_wp2
        go_ret
        exact HA.out
      · obtain ⟨r, rfl⟩ : ∃ r2, r = r2 + 1 := ⟨r - 1, by omega⟩
        have i0 : (0 : Int) < ((r + 1 : Nat) : Int) := by omega
        go_wp2_with fail
        refine (pick_any C a len cap _ _ _ hE.cur (by omega)).mono ?_
        rintro e w5 ⟨x5, n5, rfl, p5, q5, -, m5, hc5, hO5⟩
        have q5 := q5 (by omega)
        have hE5 := hE.step hc5 hO5 hC
        clear hE hc5 hO5
        go_wp2_with fail
        refine (pick_any C a len cap _ _ _ hE5.cur (by omega)).mono ?_
        rintro e w6 ⟨x6, n6, rfl, p6, q6, -, m6, hc6, hO6⟩
        have q6 := q6 (by omega)
        have hE6 := hE5.step hc6 hO6 hC
        clear hE5 hc6 hO6
        have hZ := bk_box w6 la at_ (at_ + 1 + x5) x6 25
        have hBz : Below w6.heap.size w6 (w6.alloc (.cells #[.int .i64 la, .int .i64 at_, .int .i64 (at_ + 1 + x5), .int .i64 x6] 25)) := (Below.refl _ _).alloc (Nat.le_refl _) _
        have hE7 := hE6.below hBz hC
        have HNE : Hid (∀ q, Value.ownBlock u3 = some q → q ≠ w6.heap.size) := fun q hq => Nat.ne_of_lt (World.ownsRow.lt hE6.own q hq).2
        have hzw : w.heap.size ≤ w6.heap.size := hE6.t.size
        have hto : 1 ≤ at_ + 1 + x5 ∧ at_ + 1 + x5 ≤ at_ + 6 := by omega
        clear hBz hE6
        go_upto_region 10 with fail
        generalize at_ + 1 + x5 = to at *
        generalize w6.alloc (.cells #[.int .i64 la, .int .i64 at_, .int .i64 to, .int .i64 x6] 25) = w7 at hE7 hZ ⊢
        generalize w6.heap.size = zb at hZ HNE hzw ⊢
        have hzC : zb ≠ C := by omega
        go_wp2_with fail
        refine (one_any C a len cap _ _ _ hE7.cur (by omega)).mono ?_
        rintro e w8 ⟨b8, n8, rfl, m8, hc8, hO8⟩
        have hZ8 := bx_same hZ (by rw [hO8.size]; exact Nat.le_refl _) (hO8.block zb hzC)
        have hE8 := hE7.step hc8 hO8 hC
        clear hE7 hc8 hO8 hZ
        cases b8 with
        | false =>
          have ZB : Bx w8 zb [.int .i64 la, .int .i64 at_, .int .i64 to, .int .i64 x6] := hZ8
          have htvb : 0 ≤ to ∧ to ≤ 10016 + 11 * k := by omega
          obtain ⟨y0, y1, y2, y3⟩ := bx_four4 ZB
          have hsx := hE8.t.size
          go_upto_region 13 with (at_builtin; refine wpList_append_own _ rfl _ _ 23 rfl w.heap.size 25 ib (bkv 0 0 0 0) 4 32 Try.underlying23 hib hz0 hz1 hz2 rfl (by decide) _ _ _ rfl (World.ownsRow.alloc hE8.own _) ⟨w8.heap.size, 0, none⟩ 1 1 [.int .i64 la, .int .i64 at_, .int .i64 to, .int .i64 x6] rfl rfl (four_new _ _ _ _ _ _) (fun x hx => by simp at hx; rcases hx with rfl | rfl | rfl | rfl <;> rfl) (by unfold maxLen; omega) (by omega) (by simp; omega) ?_; intro vN w12 hown12 hgrow12 _)
          have hZa := ZB.alloc (.cells #[.int .i64 la, .int .i64 at_, .int .i64 to, .int .i64 x6] 25)
          have hZ12 := bx_same hZa hgrow12.size (hgrow12.block zb hZa.lt (fun e => HNE.out zb (show Value.ownBlock u3 = some zb from e.symm) rfl))
          have hE12 := (hE8.app hown12 hgrow12 hC).below (Below.drew (Below.refl _ _)) hC
          have c2 : w12.drew.cell? ⟨zb, 2, none⟩ = some (.int .i64 to) := hZ12.c2
          clear hZa hZ12 hown12 hgrow12 ZB hZ8 hE8 y0 y1 y2 y3 hsx HNE
          go_region_held3 (fun w' => w'.cell? ⟨zb, 2, none⟩ = some (.int .i64 to))
            (first | (exact c2) | (exact c2b) | (fail))
            (first | (go_at_call 15; refine (pick_any C a len cap _ _ _ hE12.cur (by omega)).mono ?_; rintro e w13 ⟨x13, n13, rfl, p13, q13, -, m13, hc13, hO13⟩; have q13 := q13 (by omega); have c2b := (cell_same (hO13.block zb hzC) 2).trans c2) | (fail))
          have hE13 := hE12.step hc13 hO13 hC
          clear hE12 hc13 hO13 c2 c2b
          go_wp2_with fail
          refine (one_any C a len cap _ _ _ hE13.cur (by omega)).mono ?_
          rintro e w14 ⟨b14, n14, rfl, m14, hc14, hO14⟩
          have hE14 := hE13.step hc14 hO14 hC
          clear hE13 hc14 hO14
          cases b14 with
          | false =>
            go_wp2
            exact ⟨⟨k + 1, r, n14, la, to + x13, _, by omega, by go_num, rfl, congrArg (Value.int .i64) (wrb (by omega) (by omega)), by omega, by omega, by omega, hE14⟩, by first | (simp [intOf]; done) | (simp [intOf]; omega)⟩
          | true =>
            by_cases h9 : la < 9
            · go_wp2_with fail
              refine (pick_any C a len cap _ _ _ hE14.cur (by omega)).mono ?_
              rintro e w15 ⟨x15, n15, rfl, p15, q15, -, m15, hc15, hO15⟩
              have q15 := q15 (by omega)
              have hE15 := hE14.step hc15 hO15 hC
              clear hE14 hc15 hO15
              go_wp2_with fail
              refine (pick_any C a len cap _ _ _ hE15.cur (by omega)).mono ?_
              rintro e w16 ⟨x16, n16, rfl, p16, q16, -, m16, hc16, hO16⟩
              have q16 := q16 (by omega)
              have hE16 := hE15.step hc16 hO16 hC
              clear hE15 hc16 hO16
              go_wp2
              exact ⟨⟨k + 1, r, n16, la + (1 + x15), x16, _, by omega, by go_num, rfl, rfl, by omega, by omega, by omega, hE16⟩, by first | (simp [intOf]; done) | (simp [intOf]; omega)⟩
            · go_wp2
              exact ⟨⟨k + 1, r, n14, la, to + x13, _, by omega, by go_num, rfl, congrArg (Value.int .i64) (wrb (by omega) (by omega)), by omega, by omega, by omega, hE14⟩, by first | (simp [intOf]; done) | (simp [intOf]; omega)⟩
        | true =>
          have y1 := hZ8.c1
          have hBa : Below w8.heap.size w8 (w8.alloc (.cells #[.int .i64 at_, .int .i64 10000, .int .i64 10001] 3)) := (Below.refl _ _).alloc (Nat.le_refl _) _
          have hE9 := hE8.below hBa hC
          have hZ9 := hZ8.on hBa
          have hI := ip3 w8 at_ 10000 10001
          have hlC : w8.heap.size ≠ C := by have := hE8.cur.lt; omega
          clear hBa hE8
          go_wp2_with fail
          refine (among_any C a len cap _ w8.heap.size 3 3 _ _ hE9.cur (by omega) hI hlC (by omega) (by omega)).mono ?_
          rintro e w10 ⟨i10, n10, hi10, rfl, m10, hc10, hO10⟩
          obtain ⟨tv, htv⟩ : ∃ tv : Int, tv = (fun i : Nat => if i = 0 then at_ else if i = 1 then 10000 else 10001) i10 := ⟨_, rfl⟩
          have htb : 0 ≤ tv ∧ (tv ≤ 10001 ∨ tv = at_) := by
            match i10, hi10 with
            | 0, _ => simp at htv; omega
            | 1, _ => simp at htv; omega
            | 2, _ => simp at htv; omega
          have htv2 : (if i10 = 0 then at_ else if i10 = 1 then 10000 else 10001) = tv := htv.symm
          rw [htv2]
          have hE10 := hE9.step hc10 hO10 hC
          have hZ10 := bx_same hZ9 (by rw [hO10.size]; exact Nat.le_refl _) (hO10.block zb hzC)
          clear hE9 hc10 hO10 hZ9 hI hlC hZ8 y1 htv htv2
          have hf2 := hZ10.fz 2
          have hl2 := hZ10.lt
          have hO11 := (Only.refl zb w10).set 2 (.int .i64 tv)
          have hZ11 := hZ10.set 2 (by simp) (.int .i64 tv)
          have hE11 : Eb w (w10.setCell ⟨zb, 2, none⟩ (.int .i64 tv)) C a len cap n10 u3 k F := ⟨hE10.cur.below hO11.below (by omega), own_same hE10.own (fun g hg => hO11.block g (HNE.out g hg)), tn_below hE10.t hO11.below hzw⟩
          have y2 := hZ10.c2
          clear hE10 hZ10 hO11
          go_upto_region 12 with fail
          generalize w10.setCell ⟨zb, 2, none⟩ (.int .i64 tv) = w11 at hZ11 hE11 ⊢
          clear y2 hf2 hl2
          have ZB : Bx w11 zb [.int .i64 la, .int .i64 at_, .int .i64 tv, .int .i64 x6] := hZ11
          have htvb : 0 ≤ tv ∧ tv ≤ 10016 + 11 * k := by omega
          obtain ⟨y0, y1, y2, y3⟩ := bx_four4 ZB
          have hsx := hE11.t.size
          go_upto_region 13 with (at_builtin; refine wpList_append_own _ rfl _ _ 23 rfl w.heap.size 25 ib (bkv 0 0 0 0) 4 32 Try.underlying23 hib hz0 hz1 hz2 rfl (by decide) _ _ _ rfl (World.ownsRow.alloc hE11.own _) ⟨w11.heap.size, 0, none⟩ 1 1 [.int .i64 la, .int .i64 at_, .int .i64 tv, .int .i64 x6] rfl rfl (four_new _ _ _ _ _ _) (fun x hx => by simp at hx; rcases hx with rfl | rfl | rfl | rfl <;> rfl) (by unfold maxLen; omega) (by omega) (by simp; omega) ?_; intro vN w12 hown12 hgrow12 _)
          have hZa := ZB.alloc (.cells #[.int .i64 la, .int .i64 at_, .int .i64 tv, .int .i64 x6] 25)
          have hZ12 := bx_same hZa hgrow12.size (hgrow12.block zb hZa.lt (fun e => HNE.out zb (show Value.ownBlock u3 = some zb from e.symm) rfl))
          have hE12 := (hE11.app hown12 hgrow12 hC).below (Below.drew (Below.refl _ _)) hC
          have c2 : w12.drew.cell? ⟨zb, 2, none⟩ = some (.int .i64 tv) := hZ12.c2
          clear hZa hZ12 hown12 hgrow12 ZB hZ11 hE11 y0 y1 y2 y3 hsx HNE
          go_region_held3 (fun w' => w'.cell? ⟨zb, 2, none⟩ = some (.int .i64 tv))
            (first | (exact c2) | (exact c2b) | (fail))
            (first | (go_at_call 15; refine (pick_any C a len cap _ _ _ hE12.cur (by omega)).mono ?_; rintro e w13 ⟨x13, n13, rfl, p13, q13, -, m13, hc13, hO13⟩; have q13 := q13 (by omega); have c2b := (cell_same (hO13.block zb hzC) 2).trans c2) | (fail))
          have hE13 := hE12.step hc13 hO13 hC
          clear hE12 hc13 hO13 c2 c2b
          go_wp2_with fail
          refine (one_any C a len cap _ _ _ hE13.cur (by omega)).mono ?_
          rintro e w14 ⟨b14, n14, rfl, m14, hc14, hO14⟩
          have hE14 := hE13.step hc14 hO14 hC
          clear hE13 hc14 hO14
          cases b14 with
          | false =>
            go_wp2
            exact ⟨⟨k + 1, r, n14, la, tv + x13, _, by omega, by go_num, rfl, congrArg (Value.int .i64) (wrb (by omega) (by omega)), by omega, by omega, by omega, hE14⟩, by first | (simp [intOf]; done) | (simp [intOf]; omega)⟩
          | true =>
            by_cases h9 : la < 9
            · go_wp2_with fail
              refine (pick_any C a len cap _ _ _ hE14.cur (by omega)).mono ?_
              rintro e w15 ⟨x15, n15, rfl, p15, q15, -, m15, hc15, hO15⟩
              have q15 := q15 (by omega)
              have hE15 := hE14.step hc15 hO15 hC
              clear hE14 hc15 hO15
              go_wp2_with fail
              refine (pick_any C a len cap _ _ _ hE15.cur (by omega)).mono ?_
              rintro e w16 ⟨x16, n16, rfl, p16, q16, -, m16, hc16, hO16⟩
              have q16 := q16 (by omega)
              have hE16 := hE15.step hc16 hO16 hC
              clear hE15 hc16 hO16
              go_wp2
              exact ⟨⟨k + 1, r, n16, la + (1 + x15), x16, _, by omega, by go_num, rfl, rfl, by omega, by omega, by omega, hE16⟩, by first | (simp [intOf]; done) | (simp [intOf]; omega)⟩
            · go_wp2
              exact ⟨⟨k + 1, r, n14, la, tv + x13, _, by omega, by go_num, rfl, congrArg (Value.int .i64) (wrb (by omega) (by omega)), by omega, by omega, by omega, hE14⟩, by first | (simp [intOf]; done) | (simp [intOf]; omega)⟩
end Go.Proofs.Ytdpblholoogikaa
