/- Chores that are drawn (tools/gen_pn10.py). -/
import Derived.Test.YtnadedncjbibhaaCurPick
import Derived.Test.YtnadedncjbibhaaCurNew
import Derived.Test.YtnadedncjbibhaaPnRn
import Derived.Deep.Cut
import Derived.Deep.CutRange
import Derived.Deep.RegionHeld3
namespace Go.Proofs.Ytnadedncjbibhaa
open Go.RowKit
/-- a row of chores of a call's own -/
def OwnC (w : World) (base : Nat) (v : Value) (k : Nat) (F : Nat → Int) : Prop := w.ownsRow base 69 3 v k (vL F (k * 3))
theorem OwnC.same {w w' : World} {base : Nat} {v : Value} {k : Nat} {F : Nat → Int} (h : OwnC w base v k F) (hb : ∀ q, v.ownBlock = some q → w'.heap[q]? = w.heap[q]?) : OwnC w' base v k F := by
  obtain ⟨hl, h0 | ⟨g, cap, cur, h1, h2, h3, h4⟩⟩ := h
  · exact ⟨hl, .inl h0⟩
  · exact ⟨hl, .inr ⟨g, cap, cur, h1, h2, (hb g (by rw [h1]; rfl)).trans h3, h4⟩⟩
theorem OwnC.ge {w : World} {base : Nat} {v : Value} {k : Nat} {F : Nat → Int} (h : OwnC w base v k F) : ∀ q, v.ownBlock = some q → base ≤ q ∧ q < w.heap.size := fun q hq => World.ownsRow.lt h q hq
theorem OwnC.shape {w : World} {base : Nat} {v : Value} {k : Nat} {F : Nat → Int} (h : OwnC w base v k F) : ∃ a cap, v = .slice a k cap ∧ k ≤ cap ∧ IL w a (k * 3) F := by
  have h' := h
  obtain ⟨_, ⟨rfl, rfl⟩ | ⟨g, cap, cur, rfl, hb, hg, h3, _⟩⟩ := h
  · exact ⟨_, _, rfl, Nat.le_refl _, fun h0 => by omega⟩
  · refine ⟨_, _, rfl, h3, fun h0 => ⟨g, 0, rfl, (Array.getElem?_eq_some_iff.1 hg).1, fun i hi => ?_⟩⟩
    rw [Nat.zero_add, World.ownsRow.cellAt h' i hi]
    exact vL_get hi
/-- what stands while a chore is drawn -/
structure Dc (w wx : World) (C B : Nat) (a : Option Addr) (len cap : Nat) (v : Value) (k : Nat) (F : Nat → Int) (n : Nat) (p q r : Int) : Prop where
  bx : Bx wx B [.int .i64 p, .int .i64 q, .int .i64 r]
  cur : Cur wx C a len cap n
  own : OwnC wx (C + 1) v k F
  nb : ∀ q, v.ownBlock = some q → q < B
  cb : C < B
  bel : Below C w wx
section
variable {w wx wy : World} {C B : Nat} {a : Option Addr} {len cap : Nat} {v : Value} {k : Nat} {F : Nat → Int} {n m : Nat} {p q r : Int}
theorem Dc.step (h : Dc w wx C B a len cap v k F n p q r) (o : Only C wx wy) (hc : Cur wy C a len cap m) : Dc w wy C B a len cap v k F m p q r := by
  have hcb := h.cb
  refine ⟨h.bx.only (OnlyIn.of o (Nat.le_refl _) (Nat.lt_succ_self _)) (by omega), hc, h.own.same fun x hx => o.block x (by have := (h.own.ge x hx).1; omega), h.nb, h.cb, h.bel.trans o.below⟩
theorem Dc.al (h : Dc w wx C B a len cap v k F n p q r) (o : Obj) : Dc w (wx.alloc o) C B a len cap v k F n p q r := by
  have hb : Below wx.heap.size wx (wx.alloc o) := (Below.refl _ _).alloc (Nat.le_refl _) _
  exact ⟨h.bx.on hb, h.cur.below hb h.cur.lt, h.own.same fun x hx => hb.block x (h.own.ge x hx).2, h.nb, h.cb, h.bel.trans (hb.mono (Nat.le_of_lt h.cur.lt))⟩
theorem Dc.drew (h : Dc w wx C B a len cap v k F n p q r) : Dc w wx.drew C B a len cap v k F n p q r := by
  have hb : Below wx.heap.size wx wx.drew := (Below.refl _ _).drew
  exact ⟨h.bx.on hb, h.cur.below hb h.cur.lt, h.own.same fun x hx => hb.block x (h.own.ge x hx).2, h.nb, h.cb, h.bel.trans (hb.mono (Nat.le_of_lt h.cur.lt))⟩
theorem Dc.set (h : Dc w wx C B a len cap v k F n p q r) (i : Nat) (x : Int) {p' q' r' : Int} (e : ([.int .i64 p, .int .i64 q, .int .i64 r] : List Value).set i (.int .i64 x) = [.int .i64 p', .int .i64 q', .int .i64 r']) (hi : i < 3) : Dc w (wx.setCell ⟨B, i, none⟩ (.int .i64 x)) C B a len cap v k F n p' q' r' := by
  have hcb := h.cb
  have o := (Only.refl B wx).set i (.int .i64 x)
  have hbl : Below B wx (wx.setCell ⟨B, i, none⟩ (.int .i64 x)) := o.below
  refine ⟨?_, h.cur.below hbl h.cb, h.own.same fun y hy => o.block y (by have := h.nb y hy; omega), h.nb, h.cb, h.bel.trans (hbl.mono (Nat.le_of_lt h.cb))⟩
  have := h.bx.set i (by simpa using hi) (.int .i64 x)
  rw [e] at this
  exact this
end
/-- .. of some numbers -/
def DcE (w wx : World) (C B : Nat) (a : Option Addr) (len cap : Nat) (v : Value) (k : Nat) (F : Nat → Int) (bd : Nat) : Prop := ∃ n p q r, n ≤ bd ∧ Dc w wx C B a len cap v k F n p q r
def AnsCh (w w' : World) (e : Ending) (C : Nat) (a : Option Addr) (len cap n0 : Nat) : Prop := ∃ v k F n', e = .returned v ∧ OwnC w' (C + 1) v k F ∧ k ≤ 7 ∧ n' ≤ n0 + 300 ∧ Cur w' C a len cap n' ∧ Below C w w'
theorem among_le (i : Nat) (h : i < 3) : 0 ≤ List.getD [0, 6, 7] i (0 : Int) ∧ List.getD [0, 6, 7] i (0 : Int) ≤ 7 := by
  have : ∀ i : Fin 3, 0 ≤ List.getD [0, 6, 7] i.1 (0 : Int) ∧ List.getD [0, 6, 7] i.1 (0 : Int) ≤ 7 := by decide
  exact this ⟨i, h⟩
/-- how many, and the cursor, ahead of the round -/
def AnsC0 (n0 : Nat) (w wx : World) (C : Nat) (a : Option Addr) (len cap : Nat) (s : Value) : Prop := ∃ (r m : Nat), s = .int .i64 (r : Int) ∧ r ≤ 7 ∧ m ≤ n0 + 6 ∧ Cur wx C a len cap m ∧ Below C w wx
set_option maxRecDepth 20000 in
set_option maxHeartbeats 8000000 in
theorem chores_any (C : Nat) (a : Option Addr) (len cap n0 : Nat) (w : World) (h : Cur w C a len cap n0) (hn0 : n0 ≤ 1000) :
    Calls Try.prog 32 #[.pointer (some ⟨C, 0, none⟩)] w fun e w' => AnsCh w w' e C a len cap n0 := by
  obtain ⟨ic, hic, hzz⟩ := Option.map_eq_some_iff.1 infoChore
  simp only [Prod.mk.injEq] at hzz
  obtain ⟨hz0, hz1, hz2⟩ := hzz
  go_enter Try.func32, Try.ntmps32
  go_wp2_with fail
  refine (pick_any C a len cap _ _ _ h (by omega)).mono ?_
  rintro e w1 ⟨r1, n1, rfl, p1, q1, -, m1, hc1, hO1⟩
  have hB1 : Below C w w1 := hO1.below
  have q1 := q1 (by omega)
  clear h hO1
  go_wp2_with fail
  refine (one_any C a len cap _ _ _ hc1 (by omega)).mono ?_
  rintro e w2 ⟨b2, n2, rfl, m2, hc2, hO2⟩
  have hB2 := hB1.trans hO2.below
  clear hc1 hB1 hO2
  go_upto_if 10 with fail
  go_cut [4] from 11 to 13 (fun s4 wx => AnsC0 n0 w wx C a len cap s4)
  case first =>
    cases b2 with
    | false =>
      go_wp2_with fail
      go_meet
      case rel => exact ⟨(1 + r1).toNat, n2, by congr 1; omega, by omega, by omega, hc2, hB2⟩
    | true =>
      have L2 := lit_ip w2 [0, 6, 7] 3
      have hb : Below w2.heap.size w2 (w2.alloc (.cells #[.int .i64 0, .int .i64 6, .int .i64 7] 3)) := (Below.refl _ _).alloc (Nat.le_refl _) _
      have hc3 := hc2.below hb hc2.lt
      have cl := hc2.lt
      have hB3 := hB2.trans (hb.mono (Nat.le_of_lt hc2.lt))
      go_wp2_with fail
      refine (among_any C a len cap _ w2.heap.size 3 _ _ _ hc3 (by omega) L2 (by omega) (by omega) (by omega)).mono ?_
      rintro e w4 ⟨i4, n4, hi4, rfl, m4, hc4, hO4⟩
      have hB4 := hB3.trans hO4.below
      have hX := among_le i4 hi4
      generalize List.getD [0, 6, 7] i4 (0 : Int) = X4 at *
      clear hO4 hc3 hB3 L2 hb
      go_wp2
      go_meet
      case rel => exact ⟨X4.toNat, n4, by congr 1; omega, by omega, by omega, hc4, hB4⟩
  case rest =>
    clear hc2 hB2
    obtain ⟨r0, m0, rfl, hr0, hm0, hc0, hB0⟩ := hcut
    go_wp2_with fail
    go_loopw [3, 4] (fun v i wr => ∃ (k r m : Nat) (F : Nat → Int), k + r ≤ 7 ∧ i = .int .i64 (r : Int) ∧ m ≤ n0 + 6 + 42 * k ∧ OwnC wr (C + 1) v k F ∧ Cur wr C a len cap m ∧ Below C w wr) (fun _ i _ => (intOf i).toNat)
    case atStart => exact ⟨0, r0, m0, fun _ => 0, by omega, rfl, by omega, World.ownsRow_nil _ _ _ _, hc0, hB0⟩
    case round =>
      obtain ⟨k, r, m, F, hk, rfl, hm, hown, hcur, hB⟩ := hrel
      clear hc0 hB0
      by_cases hr : 0 < r
      · have j1 : (0 : Int) < (r : Int) := by omega
        go_wp2_with fail
        refine (pick_any C a len cap _ _ _ hcur (by omega)).mono ?_
        rintro e w1 ⟨r1, n1, rfl, p1, -, q1, m1, hc1, hO1⟩
        have hown1 := hown.same (w' := w1) fun x hx => hO1.block x (by have := (hown.ge x hx).1; omega)
        have hB1 := hB.trans hO1.below
        clear hown hB hO1 hcur
        have D0 : Dc w (w1.alloc (.cells #[.int .i64 (1 + r1), .int .i64 0, .int .i64 0] 69)) C w1.heap.size a len cap u3 k F n1 (1 + r1) 0 0 := by
          have hb : Below w1.heap.size w1 (w1.alloc (.cells #[.int .i64 (1 + r1), .int .i64 0, .int .i64 0] 69)) := (Below.refl _ _).alloc (Nat.le_refl _) _
          exact ⟨bx_new _ _ rfl, hc1.below hb hc1.lt, hown1.same fun x hx => hb.block x (hown1.ge x hx).2, fun x hx => (hown1.ge x hx).2, hc1.lt, hB1.trans (hb.mono (Nat.le_of_lt hc1.lt))⟩
        clear hown1 hB1 hc1
        go_upto_region 8 with fail
        generalize w1.alloc (.cells #[.int .i64 (1 + r1), .int .i64 0, .int .i64 0] 69) = wa at *
        generalize w1.heap.size = B at *
        go_wp2_with fail
        refine (one_any C a len cap _ _ _ D0.cur (by omega)).mono ?_
        rintro e w2 ⟨b2, n2, rfl, m2, hc2, hO2⟩
        have D2 := D0.step hO2 hc2
        clear hO2 hc2 D0
        go_upto_if 23 with fail
        go_cut [] from 24 to 27 (fun wx => DcE w wx C B a len cap u3 k F (m + 20))
        case first =>
          cases b2 with
          | false =>
            go_wp2_with fail
            go_meet
            case rel => exact ⟨_, _, _, _, by omega, D2⟩
          | true =>
            have L2 := lit_ip w2 [60, 59, 53, 47, 43] 3
            have A2 := D2.al (.cells #[.int .i64 60, .int .i64 59, .int .i64 53, .int .i64 47, .int .i64 43] 3)
            have cl2 := D2.cur.lt
            go_wp2_with fail
            refine (among_any C a len cap _ w2.heap.size 5 _ _ _ A2.cur (by omega) L2 (by omega) (by omega) (by omega)).mono ?_
            rintro e w3 ⟨i3, n3, -, rfl, m3, hc3, hO3⟩
            have D3 := A2.step hO3 hc3
            have D4 := D3.set 0 (List.getD [60, 59, 53, 47, 43] i3 0) rfl (by omega)
            have x0 := D3.bx.c0
            have x1 := D3.bx.c1
            have x2 := D3.bx.c2
            have f0 := D3.bx.fz 0
            have f1 := D3.bx.fz 1
            have f2 := D3.bx.fz 2
            have xl := D3.bx.lt
            clear hO3 hc3 A2 L2 D2 D3
            generalize List.getD [60, 59, 53, 47, 43] i3 (0 : Int) = X3 at *
            go_wp2
            go_meet
            case rel => exact ⟨_, _, _, _, by omega, D4⟩
        case rest =>
          clear D2
          obtain ⟨n4, p4, q4, r4, m4, D4⟩ := hcut
          obtain ⟨w4, hw4⟩ : ∃ x, x = wc := ⟨wc, rfl⟩
          subst hw4
          have x0 := D4.bx.c0
          have x1 := D4.bx.c1
          have x2 := D4.bx.c2
          have f0 := D4.bx.fz 0
          have f1 := D4.bx.fz 1
          have f2 := D4.bx.fz 2
          have xl := D4.bx.lt
          go_wp2_with fail
          refine (pick_any C a len cap _ _ _ D4.cur (by omega)).mono ?_
          rintro e w5 ⟨r5, n5, rfl, z5, -, y5, m5, hc5, hO5⟩
          have D5 := D4.step hO5 hc5
          have D6 := D5.set 1 (1 + r5) rfl (by omega)
          clear x0 x1 x2 f0 f1 f2 xl
          have x0 := D5.bx.c0
          have x1 := D5.bx.c1
          have x2 := D5.bx.c2
          have f0 := D5.bx.fz 0
          have f1 := D5.bx.fz 1
          have f2 := D5.bx.fz 2
          have xl := D5.bx.lt
          clear hO5 hc5 D4 D5
          go_upto_region 11 with fail
          clear x0 x1 x2 f0 f1 f2 xl
          generalize w5.setCell ⟨B, 1, none⟩ (.int .i64 (1 + r5)) = w6 at *
          go_wp2_with fail
          refine (one_any C a len cap _ _ _ D6.cur (by omega)).mono ?_
          rintro e w7 ⟨b7, n7, rfl, m7, hc7, hO7⟩
          have D7 := D6.step hO7 hc7
          clear hO7 hc7 D6
          go_upto_if 36 with fail
          go_cut [] from 37 to 44 (fun wx => DcE w wx C B a len cap u3 k F (m + 30))
          case first =>
            cases b7 with
            | true =>
              go_wp2_with fail
              go_meet
              case rel => exact ⟨_, _, _, _, by omega, D7⟩
            | false =>
              have x0 := D7.bx.c0
              have x1 := D7.bx.c1
              have x2 := D7.bx.c2
              have f0 := D7.bx.fz 0
              have f1 := D7.bx.fz 1
              have f2 := D7.bx.fz 2
              have xl := D7.bx.lt
              go_wp2_with fail
              refine (pick_any C a len cap _ _ _ D7.cur (by omega)).mono ?_
              rintro e w8 ⟨r8, n8, rfl, z8, -, y8, m8, hc8, hO8⟩
              have D8 := D7.step hO8 hc8
              have D9 := D8.set 1 (1 + r8) rfl (by omega)
              clear x0 x1 x2 f0 f1 f2 xl
              have x0 := D8.bx.c0
              have x1 := D8.bx.c1
              have x2 := D8.bx.c2
              have f0 := D8.bx.fz 0
              have f1 := D8.bx.fz 1
              have f2 := D8.bx.fz 2
              have xl := D8.bx.lt
              clear hO8 hc8 D7 D8
              go_wp2
              go_meet
              case rel => exact ⟨_, _, _, _, by omega, D9⟩
          case rest =>
            clear D7
            obtain ⟨n10, p10, q10, r10, m10, D10⟩ := hcut
            obtain ⟨w10, hw10⟩ : ∃ x, x = wc := ⟨wc, rfl⟩
            subst hw10
            have x0 := D10.bx.c0
            have x1 := D10.bx.c1
            have x2 := D10.bx.c2
            have f0 := D10.bx.fz 0
            have f1 := D10.bx.fz 1
            have f2 := D10.bx.fz 2
            have xl := D10.bx.lt
            go_upto_if 49 with fail
            go_cut [] from 50 to 52 (fun wx => DcE w wx C B a len cap u3 k F (m + 30))
            case first =>
              by_cases hpq : p10 < q10
              · have D11 := D10.set 1 p10 rfl (by omega)
                go_wp2
                go_meet
                case rel => exact ⟨_, _, _, _, by omega, D11⟩
              · go_wp2
                go_meet
                case rel => exact ⟨_, _, _, _, by omega, D10⟩
            case rest =>
              clear x0 x1 x2 f0 f1 f2 xl
              clear D10
              obtain ⟨n12, p12, q12, r12, m12, D12⟩ := hcut
              obtain ⟨w12, hw12⟩ : ∃ x, x = wc := ⟨wc, rfl⟩
              subst hw12
              have x0 := D12.bx.c0
              have x1 := D12.bx.c1
              have x2 := D12.bx.c2
              have f0 := D12.bx.fz 0
              have f1 := D12.bx.fz 1
              have f2 := D12.bx.fz 2
              have xl := D12.bx.lt
              have D13 := D12.drew
              have HD : Hid (Dc w w12.drew C B a len cap u3 k F n12 p12 q12 r12) := D13
              go_upto_region 15 with fail
              go_cut [] from 53 to 64 (fun wx => DcE w wx C B a len cap u3 k F (m + 34))
              case first =>
                go_region_held3 (fun w' => w'.cell? ⟨B, 0, none⟩ = some (.int .i64 p12) ∧ w'.cell? ⟨B, 1, none⟩ = some (.int .i64 q12))
                  (first | (exact ⟨D13.bx.c0, D13.bx.c1⟩) | (exact ⟨D14.bx.c0, D14.bx.c1⟩) | (exact ⟨(D14.set 2 _ rfl (by omega)).bx.c0, (D14.set 2 _ rfl (by omega)).bx.c1⟩) | (fail))
                  (first | (go_at_call 34; refine (pick_any C a len cap _ _ _ D13.cur (by omega)).mono ?_; rintro e w14 ⟨r14, n14, rfl, z14, -, y14, m14, hc14, hO14⟩; have D14 := D13.step hO14 hc14; have y2 := D14.bx.c2; have g2 := D14.bx.fz 2; have yl := D14.bx.lt) | (fail))
                go_wp2_with fail
                go_meet
                case rel => exact ⟨_, _, _, _, by omega, D14.set 2 _ rfl (by omega)⟩
              case rest =>
                clear x0 x1 x2 f0 f1 f2 xl
                clear D12 D13 HD
                obtain ⟨n15, p15, q15, r15, m15, D15⟩ := hcut
                obtain ⟨w15, hw15⟩ : ∃ x, x = wc := ⟨wc, rfl⟩
                subst hw15
                go_wp2_with fail
                refine (one_any C a len cap _ _ _ D15.cur (by omega)).mono ?_
                rintro e w16 ⟨b16, n16, rfl, m16, hc16, hO16⟩
                have D16 := D15.step hO16 hc16
                clear hO16 hc16 D15
                have x0 := D16.bx.c0
                have x1 := D16.bx.c1
                have x2 := D16.bx.c2
                have f0 := D16.bx.fz 0
                have f1 := D16.bx.fz 1
                have f2 := D16.bx.fz 2
                have xl := D16.bx.lt
                go_upto_if 66 with fail
                go_cut [] from 67 to 69 (fun wx => DcE w wx C B a len cap u3 k F (m + 40))
                case first =>
                  cases b16 with
                  | true =>
                    have D17 := D16.set 2 p15 rfl (by omega)
                    go_wp2
                    go_meet
                    case rel => exact ⟨_, _, _, _, by omega, D17⟩
                  | false =>
                    go_wp2_with fail
                    go_meet
                    case rel => exact ⟨_, _, _, _, by omega, D16⟩
                case rest =>
                  clear x0 x1 x2 f0 f1 f2 xl
                  clear D16
                  obtain ⟨n18, p18, q18, r18, m18, D18⟩ := hcut
                  obtain ⟨w18, hw18⟩ : ∃ x, x = wc := ⟨wc, rfl⟩
                  subst hw18
                  go_wp2_with fail
                  refine (one_any C a len cap _ _ _ D18.cur (by omega)).mono ?_
                  rintro e w19 ⟨b19, n19, rfl, m19, hc19, hO19⟩
                  have D19 := D18.step hO19 hc19
                  clear hO19 hc19 D18
                  have x0 := D19.bx.c0
                  have x1 := D19.bx.c1
                  have x2 := D19.bx.c2
                  have f0 := D19.bx.fz 0
                  have f1 := D19.bx.fz 1
                  have f2 := D19.bx.fz 2
                  have xl := D19.bx.lt
                  go_upto_if 71 with fail
                  go_cut [] from 72 to 75 (fun wx => DcE w wx C B a len cap u3 k F (m + 42))
                  case first =>
                    cases b19 with
                    | true =>
                      have D20 := D19.set 2 (wrap64 (p18 + 1)) rfl (by omega)
                      go_wp2
                      go_meet
                      case rel => exact ⟨_, _, _, _, by omega, D20⟩
                    | false =>
                      go_wp2_with fail
                      go_meet
                      case rel => exact ⟨_, _, _, _, by omega, D19⟩
                  case rest =>
                    clear x0 x1 x2 f0 f1 f2 xl
                    clear D19
                    obtain ⟨n21, p21, q21, r21, m21, D21⟩ := hcut
                    obtain ⟨w21, hw21⟩ : ∃ x, x = wc := ⟨wc, rfl⟩
                    subst hw21
                    have x0 := D21.bx.c0
                    have x1 := D21.bx.c1
                    have x2 := D21.bx.c2
                    have f0 := D21.bx.fz 0
                    have f1 := D21.bx.fz 1
                    have f2 := D21.bx.fz 2
                    have xl := D21.bx.lt
                    have hO := D21.own
                    obtain ⟨sa, sc, hsh, -, -⟩ := hO.shape
                    have cl := D21.cur.lt
                    go_wp2_with (at_builtin; refine wpList_append_own _ rfl _ _ 23 rfl (C + 1) 69 ic (crv 0 0 0) 3 24 Try.underlying23 hic hz0 hz1 hz2 rfl (by decide) _ _ _ rfl (World.ownsRow.alloc hO _) ⟨w21.heap.size, 0, none⟩ 1 1 [.int .i64 p21, .int .i64 q21, .int .i64 r21] rfl rfl (new3 _ _ _ _ _) (fun x hx => by simp at hx; rcases hx with rfl | rfl | rfl <;> rfl) (by unfold maxLen; omega) (by omega) (by simp; omega) ?_; intro v' w22 hown' hgrow3 _)
                    have hb22 : Below (C + 1) w21 w22 := ((Below.refl _ _).alloc (by omega) _).grown hgrow3 (by simp; omega) (fun q hq => (hO.ge q hq).1)
                    have HO22 : OwnC w22 (C + 1) v' (k + 1) (apF F (k * 3) (tri p21 q21 r21)) := by
                      rw [← vL_tri] at hown'
                      unfold OwnC
                      rw [Nat.add_mul, vL_app]
                      exact hown'
                    have hc22 := D21.cur.below hb22 (Nat.lt_succ_self _)
                    have hB22 := D21.bel.trans (hb22.mono (Nat.le_succ _))
                    clear x0 x1 x2 f0 f1 f2 xl
                    clear hO hown' hgrow3 hb22 D21 hsh
                    go_wp2
                    go_roundw
                    case rel => exact ⟨k + 1, r - 1, n21, _, by omega, by go_num, by omega, HO22, hc22, hB22⟩
                    case measure => simp [intOf]; omega
      · have e : r = 0 := by omega
        subst e
        obtain ⟨sa, sc, rfl, -, -⟩ := hown.shape
        have HO : Hid (OwnC wr (C + 1) (.slice sa k sc) k F) := hown
        clear hown
        go_wp2
        go_ret
        exact ⟨_, k, F, m, rfl, HO.out, by omega, by omega, hcur, hB⟩
end Go.Proofs.Ytnadedncjbibhaa
