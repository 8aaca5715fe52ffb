/- The law FnBooks, walked (tools/gen_bkfn.py). -/
import Derived.Test.YtdpblholoogikaaBkDl
import Derived.Test.YtdpblholoogikaaBkDf
import Derived.Test.YtdpblholoogikaaBkMx
import Derived.Test.YtdpblholoogikaaBkFd
import Derived.Test.YtdpblholoogikaaBkFfI
import Derived.Test.YtdpblholoogikaaBkFfS
import Derived.Test.YtdpblholoogikaaBkFrI
import Derived.Test.YtdpblholoogikaaBlI
import Derived.Test.YtdpblholoogikaaBlS
namespace Go.Proofs.Ytdpblholoogikaa
open Go.RowKit
theorem ff_none {n : Nat} {F : Nat → Int} {a f l : Int} (h : ffO n F a f l = false) : ffQ n F a f l = false ∧ ffV n F a f l = 0 := by
  have : ffQ n F a f l = false := by unfold ffQ; rw [h]; rfl
  exact ⟨this, by unfold ffV; rw [this]; rfl⟩
theorem iFree_all (a : Option Addr) (n c : Nat) (F : Nat → Int) (lane from_ long : Int) (w : World) (hn : n ≤ 1048576) (h : IL w a (n * 4) F) :
    Calls Try.prog 9 #[.slice a n c, .int .i64 lane, .int .i64 from_, .int .i64 long] w fun e w' => e = .returned (.tuple #[.int .i64 (ffV n F lane from_ long), .bool (ffQ n F lane from_ long)]) ∧ Below w.heap.size w w' := by
  cases e : ffO n F lane from_ long with
  | false => rw [(ff_none e).1, (ff_none e).2]; exact iFree_no a n c F lane from_ long w hn h e
  | true => exact iFree_in a n c F lane from_ long w hn h e
theorem sFree_all (a : Option Addr) (n c : Nat) (F : Nat → Int) (lane from_ long : Int) (w : World) (hn : n ≤ 1048576) (h : IL w a (n * 4) F) :
    Calls Try.prog 10 #[.slice a n c, .int .i64 lane, .int .i64 from_, .int .i64 long] w fun e w' => e = .returned (.tuple #[.int .i64 (ffV n F lane from_ long), .bool (ffQ n F lane from_ long)]) ∧ Below w.heap.size w w' := by
  cases e : ffO n F lane from_ long with
  | false => rw [(ff_none e).1, (ff_none e).2]; exact sFree_no a n c F lane from_ long w hn h e
  | true => exact sFree_in a n c F lane from_ long w hn h e
theorem bl_below {w w' : World} {a : Option Addr} {len : Nat} (h : BL w a len) (k : Below w.heap.size w w') : BL w' a len := fun h0 => by
  obtain ⟨b, off, e, hb, hv⟩ := h h0
  refine ⟨b, off, e, Nat.lt_of_lt_of_le hb k.size, fun i hi => ?_⟩
  obtain ⟨v, h1, h2⟩ := hv i hi
  exact ⟨v, (k.cell (p := ⟨b, _, none⟩) hb).trans h1, h2⟩
/-- what BookLane tells, by names -/
theorem bookBoth (p : Option Addr) (N c : Nat) (G : Nat → Int) (x y z u : Int) (hn : N ≤ 1048576) : ∃ (M : Nat) (R : Bool) (I : Nat → Int), R = bkR G N x y z u ∧ (R = true → M = N + 1 ∧ bsB N G = true ∧ bsB (N + 1) I = true) ∧
    (∀ w, InB w p N c G → Calls Try.prog 5 #[.slice p N c, bkv x y z u] w fun e w' => AnsBk w w' e M I R ∧ Below w.heap.size w w') ∧
    (∀ w, InB w p N c G → Calls Try.prog 6 #[.slice p N c, bkv x y z u] w fun e w' => AnsBk w w' e M I R ∧ Below w.heap.size w w') := by
  refine ⟨_, _, _, rfl, fun h => ?_, fun w h => iBook p N c G x y z u w hn h, fun w h => sBook p N c G x y z u w hn h⟩
  rw [if_pos h]
  unfold bkR at h
  simp only [Bool.and_eq_true] at h
  exact ⟨rfl, h⟩
/-- a list of bookings and the box of one more, kept -/
structure Kb (w0 w : World) (p : Option Addr) (N c : Nat) (G : Nat → Int) (bb : Nat) (x y z u : Int) : Prop where
  l : InB w p N c G
  b : Bx w bb [.int .i64 x, .int .i64 y, .int .i64 z, .int .i64 u]
  s : Below w0.heap.size w0 w
theorem Kb.step {w0 w w' : World} {p : Option Addr} {N c : Nat} {G : Nat → Int} {bb : Nat} {x y z u : Int} (h : Kb w0 w p N c G bb x y z u) (k : Below w.heap.size w w') : Kb w0 w' p N c G bb x y z u := ⟨h.l.below k, h.b.on k, stepA h.s k⟩
theorem ff_bounds {n : Nat} {F : Nat → Int} {a f l : Int} (h : ffQ n F a f l = true) : bsB n F = true ∧ (0 ≤ ffV n F a f l ∧ ffV n F a f l ≤ 10000) ∧ (1 ≤ l ∧ l ≤ 10000) := by
  have hv : ffV n F a f l = ffK F a f l n := if_pos h
  have h' := h
  unfold ffQ at h'
  simp only [Bool.and_eq_true, decide_eq_true_eq] at h'
  obtain ⟨e, q0, q1, q2⟩ := ffO_t h'.1
  have := ffK_in (lane := a) (long := l) (bsB_t e).2 q1 n (Nat.le_refl _)
  rw [hv]
  exact ⟨e, by omega, q2⟩
set_option maxRecDepth 20000 in
set_option maxHeartbeats 16000000 in
theorem booksFn (A B : Option Addr) (lA cA lB cB : Nat) (w : World) (hA : lA ≤ 1048576) (hB : lB ≤ 1048576) (hlA : BL w A lA) (hlB : BL w B lB) :
    Calls Try.prog 3 #[.slice A lA cA, .slice B lB cB] w fun e w' => e = .returned (.bool true) ∧ Below w.heap.size w w' := by
  have j1 : ¬ (1048576 : Int) < (lA : Int) := by omega
  have j2 : ¬ (1048576 : Int) < (lB : Int) := by omega
  have HA : Hid (lA ≤ 1048576) := hA
  have HB : Hid (lB ≤ 1048576) := hB
  clear hA hB
  go_enter Try.func3, Try.ntmps3
  go_wp2_with fail
  refine (drawBk A lA cA _ HA.out hlA).mono ?_
  rintro e w1 ⟨N, p, c, G, x, y, z, u, rfl, hN, hI, hB1⟩
  have hn1 : N ≤ 1048576 := by omega
  have HLB : Hid (BL w1 B lB) := bl_below hlB hB1
  clear hlA hlB
  have hBz : Below w1.heap.size w1 (w1.alloc (.cells #[.int .i64 x, .int .i64 y, .int .i64 z, .int .i64 u] 25)) := (Below.refl _ _).alloc (Nat.le_refl _) _
  have hk1 : Kb w (w1.alloc (.cells #[.int .i64 x, .int .i64 y, .int .i64 z, .int .i64 u] 25)) p N c G w1.heap.size x y z u := ⟨hI.below hBz, bk_box w1 x y z u 25, stepA hB1 hBz⟩
  have hlB1 := bl_below HLB.out hBz
  clear hI hB1 hBz HLB
  go_upto_region 4 with fail
  generalize w1.alloc (.cells #[.int .i64 x, .int .i64 y, .int .i64 z, .int .i64 u] 25) = w0 at *
  generalize w1.heap.size = bb at *
  obtain ⟨x0, x1, x2, x3⟩ := bx_four4 hk1.b
  obtain ⟨M, R, I, -, hR, kI, kS⟩ := bookBoth p N c G x y z u hn1
  have HR : Hid (R = true → M = N + 1 ∧ bsB N G = true ∧ bsB (N + 1) I = true) := hR
  clear hR
  go_wp2_with fail
  refine (kI _ hk1.l).mono ?_
  rintro e w2 ⟨⟨aX, cX, rfl, hX⟩, hb2⟩
  have hk2 := hk1.step hb2
  have hlB2 := bl_below hlB1 hb2
  clear hlB1
  clear kI x0 x1 x2 x3
  obtain ⟨x0, x1, x2, x3⟩ := bx_four4 hk2.b
  clear hk1 hb2
  go_wp2_with fail
  refine (kS _ hk2.l).mono ?_
  rintro e w3 ⟨⟨aY, cY, rfl, -⟩, hb3⟩
  have hk3 := hk2.step hb3
  have hlB3 := bl_below hlB2 hb3
  clear hlB2
  have hX2 := hX.on hb3
  clear hX kS x0 x1 x2 x3
  clear hk2 hb3
  cases R with
  | false =>
    clear hX2
    go_wp2_with fail
    refine (drawFf B lB cB _ HB.out hlB3).mono ?_
    rintro e w4 ⟨N2, p2, c2, X, Y, Z, rfl, hb4⟩
    have hk4 := hk3.step hb4
    clear hlB3
    clear hk3 hb4
    go_wp2_with fail
    refine (iFree_all p N c G X Y Z _ hn1 hk4.l.1).mono ?_
    rintro e w5 ⟨rfl, hb5⟩
    have hk5 := hk4.step hb5
    clear hk4 hb5
    go_wp2_with fail
    refine (sFree_all p N c G X Y Z _ hn1 hk5.l.1).mono ?_
    rintro e w6 ⟨rfl, hb6⟩
    have hk6 := hk5.step hb6
    clear hk5 hb6
    have HQ : Hid (ffQ N G X Y Z = true → bsB N G = true ∧ (0 ≤ ffV N G X Y Z ∧ ffV N G X Y Z ≤ 10000) ∧ (1 ≤ Z ∧ Z ≤ 10000)) := fun h => ff_bounds h
    have HC : Hid (ffQ N G X Y Z = true → N < 40 → bkR G N X (ffV N G X Y Z) (ffV N G X Y Z + Z) 0 = true) := fun h hn => ff_can hn h
    have HD : Hid (ffQ N G X Y Z = true → Y < ffV N G X Y Z → bkR G N X (ffV N G X Y Z - 1) (ffV N G X Y Z - 1 + Z) 0 = false) := fun h hg => ff_cannot h hg
    generalize ffQ N G X Y Z = Q at *
    generalize ffV N G X Y Z = V at *
    have j3 : (V != V) = false := by simp
    cases Q with
    | false =>
      clear HQ HC HD
      clear HR
      cases hgd : bsB N G with
      | false =>
        obtain ⟨x0, x1, x2, x3⟩ := bx_four4 hk6.b
        go_wp2_with fail
        refine (iGive_no p N c G u y _ hn1 hk6.l.1 hgd).mono ?_
        rintro e w7 ⟨⟨aZ, cZ, rfl, -⟩, hb7⟩
        have hk7 := hk6.step hb7
        clear x0 x1 x2 x3
        clear hk6 hb7
        go_wp2_with fail
        refine ((hgd ▸ sBooks p N c G _ hn1 hk7.l.1 : Calls Try.prog 12 #[.slice p N c] _ fun e w' => e = .returned (.bool false) ∧ Below _ _ w')).mono ?_
        rintro e w8 ⟨rfl, hb8⟩
        have hk8 := hk7.step hb8
        clear hk7 hb8
        go_wp2
        go_ret
        exact ⟨rfl, hk8.s⟩
      | true =>
        obtain ⟨x0, x1, x2, x3⟩ := bx_four4 hk6.b
        go_wp2_with fail
        refine (iGive_in p N c G u y _ hn1 hk6.l.1 hgd).mono ?_
        rintro e w9 ⟨⟨m, hm, hml, aZ, cZ, rfl, hZ⟩, hb9⟩
        have hk9 := hk6.step hb9
        clear x0 x1 x2 x3
        obtain ⟨m', hm', hgm⟩ := fr_all hgd u y
        have hmm : m' = m := by omega
        subst hmm
        have hm1 : m' ≤ 1048576 := by omega
        have HZl : Hid ((frL G u y N).length = m' * 4) := hml
        clear hml hm' hm
        clear hk6 hb9
        go_wp2_with fail
        refine ((hgd ▸ sBooks p N c G _ hn1 hk9.l.1 : Calls Try.prog 12 #[.slice p N c] _ fun e w' => e = .returned (.bool true) ∧ Below _ _ w')).mono ?_
        rintro e w10 ⟨rfl, hb10⟩
        have hk10 := hk9.step hb10
        have hZ2 := hZ.on hb10
        clear hZ
        clear hk9 hb10
        go_wp2_with fail
        refine ((hgm ▸ iBooks aZ m' cZ (fun i => (frL G u y N).getD i 0) _ hm1 hZ2.il : Calls Try.prog 7 #[.slice aZ m' cZ] _ fun e w' => e = .returned (.bool true) ∧ Below _ _ w')).mono ?_
        rintro e w11 ⟨rfl, hb11⟩
        have hk11 := hk10.step hb11
        have hZ3 := hZ2.on hb11
        clear hZ2 hgm
        obtain ⟨x0, x1, x2, x3⟩ := bx_four4 hk11.b
        clear hk10 hb11
        go_wp2_with fail
        refine (freedFine p aZ N c m' cZ G u y _ hn1 hk11.l.1 hm1 hZ3.il (bsB_t hgd).2 HZl.out).mono ?_
        rintro e w12 ⟨rfl, hb12⟩
        have hk12 := hk11.step hb12
        clear hZ3
        clear hk11 hb12
        go_wp2
        go_ret
        exact ⟨rfl, hk12.s⟩
    | true =>
      obtain ⟨hgd, ⟨v0, v1⟩, z0, z1⟩ := HQ.out rfl
      clear HQ HR
      by_cases h40 : N < 40
      · have q0 : (N : Int) < 40 := by omega
        obtain ⟨M3, R3, I3, hr3, -, kI3, -⟩ := bookBoth p N c G X V (V + Z) 0 hn1
        rw [HC.out rfl h40] at hr3
        subst hr3
        obtain ⟨M4, R4, I4, hr4, -, kI4, -⟩ := bookBoth p N c G X (V - 1) (V - 1 + Z) 0 hn1
        have HD2 : Hid (Y < V → R4 = false) := fun h => hr4.trans (HD.out rfl h)
        clear HC HD h40 hr4
        go_wp2_with fail
        refine (kI3 _ hk6.l).mono ?_
        rintro e w13 ⟨⟨aV, cV, rfl, -⟩, hb13⟩
        have hk13 := hk6.step hb13
        clear kI3
        clear hk6 hb13
        go_wp2_with fail
        refine (kI4 _ hk13.l).mono ?_
        rintro e w14 ⟨⟨aU, cU, rfl, -⟩, hb14⟩
        have hk14 := hk13.step hb14
        clear kI4
        clear hk13 hb14
        by_cases hg : Y < V
        · have hr4 := HD2.out hg
          subst hr4
          clear HD2
          obtain ⟨x0, x1, x2, x3⟩ := bx_four4 hk14.b
          go_wp2_with fail
          refine (iGive_in p N c G u y _ hn1 hk14.l.1 hgd).mono ?_
          rintro e w15 ⟨⟨m, hm, hml, aZ, cZ, rfl, hZ⟩, hb15⟩
          have hk15 := hk14.step hb15
          clear x0 x1 x2 x3
          obtain ⟨m', hm', hgm⟩ := fr_all hgd u y
          have hmm : m' = m := by omega
          subst hmm
          have hm1 : m' ≤ 1048576 := by omega
          have HZl : Hid ((frL G u y N).length = m' * 4) := hml
          clear hml hm' hm
          clear hk14 hb15
          go_wp2_with fail
          refine ((hgd ▸ sBooks p N c G _ hn1 hk15.l.1 : Calls Try.prog 12 #[.slice p N c] _ fun e w' => e = .returned (.bool true) ∧ Below _ _ w')).mono ?_
          rintro e w16 ⟨rfl, hb16⟩
          have hk16 := hk15.step hb16
          have hZ2 := hZ.on hb16
          clear hZ
          clear hk15 hb16
          go_wp2_with fail
          refine ((hgm ▸ iBooks aZ m' cZ (fun i => (frL G u y N).getD i 0) _ hm1 hZ2.il : Calls Try.prog 7 #[.slice aZ m' cZ] _ fun e w' => e = .returned (.bool true) ∧ Below _ _ w')).mono ?_
          rintro e w17 ⟨rfl, hb17⟩
          have hk17 := hk16.step hb17
          have hZ3 := hZ2.on hb17
          clear hZ2 hgm
          obtain ⟨x0, x1, x2, x3⟩ := bx_four4 hk17.b
          clear hk16 hb17
          go_wp2_with fail
          refine (freedFine p aZ N c m' cZ G u y _ hn1 hk17.l.1 hm1 hZ3.il (bsB_t hgd).2 HZl.out).mono ?_
          rintro e w18 ⟨rfl, hb18⟩
          have hk18 := hk17.step hb18
          clear hZ3
          clear hk17 hb18
          go_wp2
          go_ret
          exact ⟨rfl, hk18.s⟩
        · clear HD2
          obtain ⟨x0, x1, x2, x3⟩ := bx_four4 hk14.b
          go_wp2_with fail
          refine (iGive_in p N c G u y _ hn1 hk14.l.1 hgd).mono ?_
          rintro e w19 ⟨⟨m, hm, hml, aZ, cZ, rfl, hZ⟩, hb19⟩
          have hk19 := hk14.step hb19
          clear x0 x1 x2 x3
          obtain ⟨m', hm', hgm⟩ := fr_all hgd u y
          have hmm : m' = m := by omega
          subst hmm
          have hm1 : m' ≤ 1048576 := by omega
          have HZl : Hid ((frL G u y N).length = m' * 4) := hml
          clear hml hm' hm
          clear hk14 hb19
          go_wp2_with fail
          refine ((hgd ▸ sBooks p N c G _ hn1 hk19.l.1 : Calls Try.prog 12 #[.slice p N c] _ fun e w' => e = .returned (.bool true) ∧ Below _ _ w')).mono ?_
          rintro e w20 ⟨rfl, hb20⟩
          have hk20 := hk19.step hb20
          have hZ2 := hZ.on hb20
          clear hZ
          clear hk19 hb20
          go_wp2_with fail
          refine ((hgm ▸ iBooks aZ m' cZ (fun i => (frL G u y N).getD i 0) _ hm1 hZ2.il : Calls Try.prog 7 #[.slice aZ m' cZ] _ fun e w' => e = .returned (.bool true) ∧ Below _ _ w')).mono ?_
          rintro e w21 ⟨rfl, hb21⟩
          have hk21 := hk20.step hb21
          have hZ3 := hZ2.on hb21
          clear hZ2 hgm
          obtain ⟨x0, x1, x2, x3⟩ := bx_four4 hk21.b
          clear hk20 hb21
          go_wp2_with fail
          refine (freedFine p aZ N c m' cZ G u y _ hn1 hk21.l.1 hm1 hZ3.il (bsB_t hgd).2 HZl.out).mono ?_
          rintro e w22 ⟨rfl, hb22⟩
          have hk22 := hk21.step hb22
          clear hZ3
          clear hk21 hb22
          go_wp2
          go_ret
          exact ⟨rfl, hk22.s⟩
      · have q0 : ¬ (N : Int) < 40 := by omega
        clear HC HD h40
        obtain ⟨x0, x1, x2, x3⟩ := bx_four4 hk6.b
        go_wp2_with fail
        refine (iGive_in p N c G u y _ hn1 hk6.l.1 hgd).mono ?_
        rintro e w23 ⟨⟨m, hm, hml, aZ, cZ, rfl, hZ⟩, hb23⟩
        have hk23 := hk6.step hb23
        clear x0 x1 x2 x3
        obtain ⟨m', hm', hgm⟩ := fr_all hgd u y
        have hmm : m' = m := by omega
        subst hmm
        have hm1 : m' ≤ 1048576 := by omega
        have HZl : Hid ((frL G u y N).length = m' * 4) := hml
        clear hml hm' hm
        clear hk6 hb23
        go_wp2_with fail
        refine ((hgd ▸ sBooks p N c G _ hn1 hk23.l.1 : Calls Try.prog 12 #[.slice p N c] _ fun e w' => e = .returned (.bool true) ∧ Below _ _ w')).mono ?_
        rintro e w24 ⟨rfl, hb24⟩
        have hk24 := hk23.step hb24
        have hZ2 := hZ.on hb24
        clear hZ
        clear hk23 hb24
        go_wp2_with fail
        refine ((hgm ▸ iBooks aZ m' cZ (fun i => (frL G u y N).getD i 0) _ hm1 hZ2.il : Calls Try.prog 7 #[.slice aZ m' cZ] _ fun e w' => e = .returned (.bool true) ∧ Below _ _ w')).mono ?_
        rintro e w25 ⟨rfl, hb25⟩
        have hk25 := hk24.step hb25
        have hZ3 := hZ2.on hb25
        clear hZ2 hgm
        obtain ⟨x0, x1, x2, x3⟩ := bx_four4 hk25.b
        clear hk24 hb25
        go_wp2_with fail
        refine (freedFine p aZ N c m' cZ G u y _ hn1 hk25.l.1 hm1 hZ3.il (bsB_t hgd).2 HZl.out).mono ?_
        rintro e w26 ⟨rfl, hb26⟩
        have hk26 := hk25.step hb26
        clear hZ3
        clear hk25 hb26
        go_wp2
        go_ret
        exact ⟨rfl, hk26.s⟩
  | true =>
    obtain ⟨hM, hgd0, hin⟩ := HR.out rfl
    have HGD : Hid (bsB N G = true) := hgd0
    clear HR hgd0
    subst hM
    go_wp2_with fail
    refine ((hin ▸ iBooks aX (N + 1) cX I _ (by omega) hX2.il : Calls Try.prog 7 #[.slice aX (N + 1) cX] _ fun e w' => e = .returned (.bool true) ∧ Below _ _ w')).mono ?_
    rintro e w27 ⟨rfl, hb27⟩
    have hk27 := hk3.step hb27
    have hlB27 := bl_below hlB3 hb27
    clear hlB3
    clear hX2 hin
    clear hk3 hb27
    go_wp2_with fail
    refine (drawFf B lB cB _ HB.out hlB27).mono ?_
    rintro e w28 ⟨N2, p2, c2, X, Y, Z, rfl, hb28⟩
    have hk28 := hk27.step hb28
    clear hlB27
    clear hk27 hb28
    go_wp2_with fail
    refine (iFree_all p N c G X Y Z _ hn1 hk28.l.1).mono ?_
    rintro e w29 ⟨rfl, hb29⟩
    have hk29 := hk28.step hb29
    clear hk28 hb29
    go_wp2_with fail
    refine (sFree_all p N c G X Y Z _ hn1 hk29.l.1).mono ?_
    rintro e w30 ⟨rfl, hb30⟩
    have hk30 := hk29.step hb30
    clear hk29 hb30
    have HQ : Hid (ffQ N G X Y Z = true → bsB N G = true ∧ (0 ≤ ffV N G X Y Z ∧ ffV N G X Y Z ≤ 10000) ∧ (1 ≤ Z ∧ Z ≤ 10000)) := fun h => ff_bounds h
    have HC : Hid (ffQ N G X Y Z = true → N < 40 → bkR G N X (ffV N G X Y Z) (ffV N G X Y Z + Z) 0 = true) := fun h hn => ff_can hn h
    have HD : Hid (ffQ N G X Y Z = true → Y < ffV N G X Y Z → bkR G N X (ffV N G X Y Z - 1) (ffV N G X Y Z - 1 + Z) 0 = false) := fun h hg => ff_cannot h hg
    generalize ffQ N G X Y Z = Q at *
    generalize ffV N G X Y Z = V at *
    have j3 : (V != V) = false := by simp
    cases Q with
    | false =>
      clear HQ HC HD
      have hgd := HGD.out
      clear HGD
      obtain ⟨x0, x1, x2, x3⟩ := bx_four4 hk30.b
      go_wp2_with fail
      refine (iGive_in p N c G u y _ hn1 hk30.l.1 hgd).mono ?_
      rintro e w31 ⟨⟨m, hm, hml, aZ, cZ, rfl, hZ⟩, hb31⟩
      have hk31 := hk30.step hb31
      clear x0 x1 x2 x3
      obtain ⟨m', hm', hgm⟩ := fr_all hgd u y
      have hmm : m' = m := by omega
      subst hmm
      have hm1 : m' ≤ 1048576 := by omega
      have HZl : Hid ((frL G u y N).length = m' * 4) := hml
      clear hml hm' hm
      clear hk30 hb31
      go_wp2_with fail
      refine ((hgd ▸ sBooks p N c G _ hn1 hk31.l.1 : Calls Try.prog 12 #[.slice p N c] _ fun e w' => e = .returned (.bool true) ∧ Below _ _ w')).mono ?_
      rintro e w32 ⟨rfl, hb32⟩
      have hk32 := hk31.step hb32
      have hZ2 := hZ.on hb32
      clear hZ
      clear hk31 hb32
      go_wp2_with fail
      refine ((hgm ▸ iBooks aZ m' cZ (fun i => (frL G u y N).getD i 0) _ hm1 hZ2.il : Calls Try.prog 7 #[.slice aZ m' cZ] _ fun e w' => e = .returned (.bool true) ∧ Below _ _ w')).mono ?_
      rintro e w33 ⟨rfl, hb33⟩
      have hk33 := hk32.step hb33
      have hZ3 := hZ2.on hb33
      clear hZ2 hgm
      obtain ⟨x0, x1, x2, x3⟩ := bx_four4 hk33.b
      clear hk32 hb33
      go_wp2_with fail
      refine (freedFine p aZ N c m' cZ G u y _ hn1 hk33.l.1 hm1 hZ3.il (bsB_t hgd).2 HZl.out).mono ?_
      rintro e w34 ⟨rfl, hb34⟩
      have hk34 := hk33.step hb34
      clear hZ3
      clear hk33 hb34
      go_wp2
      go_ret
      exact ⟨rfl, hk34.s⟩
    | true =>
      obtain ⟨hgd, ⟨v0, v1⟩, z0, z1⟩ := HQ.out rfl
      clear HQ HGD
      by_cases h40 : N < 40
      · have q0 : (N : Int) < 40 := by omega
        obtain ⟨M3, R3, I3, hr3, -, kI3, -⟩ := bookBoth p N c G X V (V + Z) 0 hn1
        rw [HC.out rfl h40] at hr3
        subst hr3
        obtain ⟨M4, R4, I4, hr4, -, kI4, -⟩ := bookBoth p N c G X (V - 1) (V - 1 + Z) 0 hn1
        have HD2 : Hid (Y < V → R4 = false) := fun h => hr4.trans (HD.out rfl h)
        clear HC HD h40 hr4
        go_wp2_with fail
        refine (kI3 _ hk30.l).mono ?_
        rintro e w35 ⟨⟨aV, cV, rfl, -⟩, hb35⟩
        have hk35 := hk30.step hb35
        clear kI3
        clear hk30 hb35
        go_wp2_with fail
        refine (kI4 _ hk35.l).mono ?_
        rintro e w36 ⟨⟨aU, cU, rfl, -⟩, hb36⟩
        have hk36 := hk35.step hb36
        clear kI4
        clear hk35 hb36
        by_cases hg : Y < V
        · have hr4 := HD2.out hg
          subst hr4
          clear HD2
          obtain ⟨x0, x1, x2, x3⟩ := bx_four4 hk36.b
          go_wp2_with fail
          refine (iGive_in p N c G u y _ hn1 hk36.l.1 hgd).mono ?_
          rintro e w37 ⟨⟨m, hm, hml, aZ, cZ, rfl, hZ⟩, hb37⟩
          have hk37 := hk36.step hb37
          clear x0 x1 x2 x3
          obtain ⟨m', hm', hgm⟩ := fr_all hgd u y
          have hmm : m' = m := by omega
          subst hmm
          have hm1 : m' ≤ 1048576 := by omega
          have HZl : Hid ((frL G u y N).length = m' * 4) := hml
          clear hml hm' hm
          clear hk36 hb37
          go_wp2_with fail
          refine ((hgd ▸ sBooks p N c G _ hn1 hk37.l.1 : Calls Try.prog 12 #[.slice p N c] _ fun e w' => e = .returned (.bool true) ∧ Below _ _ w')).mono ?_
          rintro e w38 ⟨rfl, hb38⟩
          have hk38 := hk37.step hb38
          have hZ2 := hZ.on hb38
          clear hZ
          clear hk37 hb38
          go_wp2_with fail
          refine ((hgm ▸ iBooks aZ m' cZ (fun i => (frL G u y N).getD i 0) _ hm1 hZ2.il : Calls Try.prog 7 #[.slice aZ m' cZ] _ fun e w' => e = .returned (.bool true) ∧ Below _ _ w')).mono ?_
          rintro e w39 ⟨rfl, hb39⟩
          have hk39 := hk38.step hb39
          have hZ3 := hZ2.on hb39
          clear hZ2 hgm
          obtain ⟨x0, x1, x2, x3⟩ := bx_four4 hk39.b
          clear hk38 hb39
          go_wp2_with fail
          refine (freedFine p aZ N c m' cZ G u y _ hn1 hk39.l.1 hm1 hZ3.il (bsB_t hgd).2 HZl.out).mono ?_
          rintro e w40 ⟨rfl, hb40⟩
          have hk40 := hk39.step hb40
          clear hZ3
          clear hk39 hb40
          go_wp2
          go_ret
          exact ⟨rfl, hk40.s⟩
        · clear HD2
          obtain ⟨x0, x1, x2, x3⟩ := bx_four4 hk36.b
          go_wp2_with fail
          refine (iGive_in p N c G u y _ hn1 hk36.l.1 hgd).mono ?_
          rintro e w41 ⟨⟨m, hm, hml, aZ, cZ, rfl, hZ⟩, hb41⟩
          have hk41 := hk36.step hb41
          clear x0 x1 x2 x3
          obtain ⟨m', hm', hgm⟩ := fr_all hgd u y
          have hmm : m' = m := by omega
          subst hmm
          have hm1 : m' ≤ 1048576 := by omega
          have HZl : Hid ((frL G u y N).length = m' * 4) := hml
          clear hml hm' hm
          clear hk36 hb41
          go_wp2_with fail
          refine ((hgd ▸ sBooks p N c G _ hn1 hk41.l.1 : Calls Try.prog 12 #[.slice p N c] _ fun e w' => e = .returned (.bool true) ∧ Below _ _ w')).mono ?_
          rintro e w42 ⟨rfl, hb42⟩
          have hk42 := hk41.step hb42
          have hZ2 := hZ.on hb42
          clear hZ
          clear hk41 hb42
          go_wp2_with fail
          refine ((hgm ▸ iBooks aZ m' cZ (fun i => (frL G u y N).getD i 0) _ hm1 hZ2.il : Calls Try.prog 7 #[.slice aZ m' cZ] _ fun e w' => e = .returned (.bool true) ∧ Below _ _ w')).mono ?_
          rintro e w43 ⟨rfl, hb43⟩
          have hk43 := hk42.step hb43
          have hZ3 := hZ2.on hb43
          clear hZ2 hgm
          obtain ⟨x0, x1, x2, x3⟩ := bx_four4 hk43.b
          clear hk42 hb43
          go_wp2_with fail
          refine (freedFine p aZ N c m' cZ G u y _ hn1 hk43.l.1 hm1 hZ3.il (bsB_t hgd).2 HZl.out).mono ?_
          rintro e w44 ⟨rfl, hb44⟩
          have hk44 := hk43.step hb44
          clear hZ3
          clear hk43 hb44
          go_wp2
          go_ret
          exact ⟨rfl, hk44.s⟩
      · have q0 : ¬ (N : Int) < 40 := by omega
        clear HC HD h40
        obtain ⟨x0, x1, x2, x3⟩ := bx_four4 hk30.b
        go_wp2_with fail
        refine (iGive_in p N c G u y _ hn1 hk30.l.1 hgd).mono ?_
        rintro e w45 ⟨⟨m, hm, hml, aZ, cZ, rfl, hZ⟩, hb45⟩
        have hk45 := hk30.step hb45
        clear x0 x1 x2 x3
        obtain ⟨m', hm', hgm⟩ := fr_all hgd u y
        have hmm : m' = m := by omega
        subst hmm
        have hm1 : m' ≤ 1048576 := by omega
        have HZl : Hid ((frL G u y N).length = m' * 4) := hml
        clear hml hm' hm
        clear hk30 hb45
        go_wp2_with fail
        refine ((hgd ▸ sBooks p N c G _ hn1 hk45.l.1 : Calls Try.prog 12 #[.slice p N c] _ fun e w' => e = .returned (.bool true) ∧ Below _ _ w')).mono ?_
        rintro e w46 ⟨rfl, hb46⟩
        have hk46 := hk45.step hb46
        have hZ2 := hZ.on hb46
        clear hZ
        clear hk45 hb46
        go_wp2_with fail
        refine ((hgm ▸ iBooks aZ m' cZ (fun i => (frL G u y N).getD i 0) _ hm1 hZ2.il : Calls Try.prog 7 #[.slice aZ m' cZ] _ fun e w' => e = .returned (.bool true) ∧ Below _ _ w')).mono ?_
        rintro e w47 ⟨rfl, hb47⟩
        have hk47 := hk46.step hb47
        have hZ3 := hZ2.on hb47
        clear hZ2 hgm
        obtain ⟨x0, x1, x2, x3⟩ := bx_four4 hk47.b
        clear hk46 hb47
        go_wp2_with fail
        refine (freedFine p aZ N c m' cZ G u y _ hn1 hk47.l.1 hm1 hZ3.il (bsB_t hgd).2 HZl.out).mono ?_
        rintro e w48 ⟨rfl, hb48⟩
        have hk48 := hk47.step hb48
        clear hZ3
        clear hk47 hb48
        go_wp2
        go_ret
        exact ⟨rfl, hk48.s⟩
set_option maxRecDepth 20000 in
set_option maxHeartbeats 4000000 in
theorem booksAll (A B : Option Addr) (lA cA lB cB : Nat) (w : World) (hlA : BL w A lA) (hlB : BL w B lB) :
    Calls Try.prog 3 #[.slice A lA cA, .slice B lB cB] w fun e w' => e = .returned (.bool true) ∧ Below w.heap.size w w' := by
  by_cases h : lA ≤ 1048576
  · by_cases h2 : lB ≤ 1048576
    · exact booksFn A B lA cA lB cB w h h2 hlA hlB
    · have h1 : ¬ (1048576 : Int) < (lA : Int) := by omega
      have h3 : (1048576 : Int) < (lB : Int) := by omega
      go_enter Try.func3, Try.ntmps3
      go_wp2
      go_ret
      exact ⟨rfl, Below.refl _ _⟩
  · have h1 : (1048576 : Int) < (lA : Int) := by omega
    go_enter Try.func3, Try.ntmps3
    go_wp2
    go_ret
    exact ⟨rfl, Below.refl _ _⟩
end Go.Proofs.Ytdpblholoogikaa
