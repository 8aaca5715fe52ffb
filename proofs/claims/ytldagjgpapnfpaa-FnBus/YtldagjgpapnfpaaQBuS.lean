/- RunBus, as the model goes (tools/gen_bus.py). -/
import Derived.Test.YtldagjgpapnfpaaQBuSN
import Derived.Deep.CutRange
import Derived.Test.YtldagjgpapnfpaaQArS
import Derived.BigQuiet
import Derived.Deep.Cut
namespace Go.Proofs.Ytldagjgpapnfpaa
open Go.RowKit
/-- what the model's RunBus tells -/
def AnsSun (w' : World) (e : Ending) (n : Nat) (t : Tks) (S : Nat → Nat → Nat → Int) (s : BS) : Prop :=
  ∃ (sv : Value) (a : Option Addr) (c base : Nat) (QA : Nat → Option Addr) (QC : Nat → Nat) (AA : Nat → Nat → Option Addr) (CC : Nat → Nat → Nat), e = .returned (.tuple #[sv, .slice a n c, .bool true]) ∧ OwS w' base sv s.out ∧ TkF w' a n { nwT t s.LF s.EC with qa := QA, qc := QC, A := AA, C := CC } (nwS S s.LF)
theorem ip_made (w : World) (n : Nat) : IP (w.alloc (.cells (madeCells #[.int .i64 0] n) 3)) w.heap.size n (fun _ => 0) := row_ip ((World.rowIs_made w (.int .i64 0) n 3).congr fun _ _ => rfl)
theorem tw_none (w : World) (F G : Nat → Int) : Tw w w (.slice none 0 0) 0 F (.slice none 0 0) 0 G := ⟨World.ownsRow_nil _ _ _ _, World.ownsRow_nil _ _ _ _, fun q hq => (by cases hq), Below.refl _ _⟩
theorem fr_first {wM w : World} {g lo hi m : Nat} {a : Option Addr} {I : Nat → Int} {N : Nat → Nat} {S : Nat → Nat → Int} (h : FrR wM lo hi a m I N S) (k : Turns g (g + 1) wM w) (hd : hi ≤ g ∨ g < lo) (h0 : 0 < m) : ∃ b o, a = some ⟨b, o, none⟩ ∧ b < hi ∧ b < w.heap.size ∧ w.cell? ⟨b, o, none⟩ = some (.int .i64 (I 0)) := by
  obtain ⟨A, C, h1, _⟩ := h.turns k (by omega)
  obtain ⟨b, o, rfl, _, h4, h5, hc⟩ := h1 h0
  have := (hc 0 h0).1
  simp only [Nat.zero_mul, Nat.add_zero] at this
  exact ⟨b, o, rfl, h4, h5, this⟩
theorem NwP.first2 {wM w : World} {g n : Nat} {va : Option Addr} {t : Tks} {S : Nat → Nat → Nat → Int} {LF : Nat → Nat} {EC : Nat → Int} {OF : Nat → Bool} {LO HI : Nat → Nat} (h : NwP wM w g n va t S LF EC OF LO HI) {i : Nat} (hi : i < n) (hl : LF i < t.qm i) : ∃ b o c, w.cell? ⟨g, i * 4, none⟩ = some (.slice (some ⟨b, o, none⟩) (t.qm i - LF i) c) ∧ t.qm i - LF i ≤ c ∧ w.cell? ⟨g, i * 4 + 2, none⟩ = some (.int .i64 (EC i)) ∧ w.cell? ⟨g, i * 4 + 3, none⟩ = some (.bool (OF i)) := by
  obtain ⟨a, c, c0, _, c2, c3, hs, _⟩ := h.c i hi
  obtain ⟨b, o, c', e, _⟩ := h.first hi hl
  rw [c0] at e
  cases e
  exact ⟨b, o, c, c0, hs.1, c2, c3⟩
theorem grown_ip {w3 w5 : World} {o : Obj} {row : Option Nat} {b n : Nat} {F : Nat → Int} (h : IP w3 b n F) (hg : (w3.alloc o).grownBy w5 row) (hne : ∀ q, row = some q → q ≠ b) : IP w5 b n F := by
  have e := (hg.block b (by simp; have := h.lt; omega) (fun e => hne b e.symm rfl)).trans (((Below.refl w3.heap.size w3).alloc (Nat.le_refl _) o).block b h.lt)
  exact ⟨by have := hg.size; simp at this; have := h.lt; omega, fun i hi => (cell_same e i).trans (h.c i hi), fun j => (frozen_same e j).trans (h.fz j)⟩
theorem grown_cell {w3 w5 : World} {o : Obj} {row : Option Nat} {b j : Nat} (hg : (w3.alloc o).grownBy w5 row) (hb : b < w3.heap.size) (hne : ∀ q, row = some q → q ≠ b) : w5.cell? ⟨b, j, none⟩ = w3.cell? ⟨b, j, none⟩ :=
  cell_same ((hg.block b (by simp; omega) (fun e => hne b e.symm rfl)).trans (((Below.refl w3.heap.size w3).alloc (Nat.le_refl _) o).block b hb)) j
theorem grown_bx {w3 w5 : World} {o : Obj} {row : Option Nat} {b : Nat} {vs : List Value} (h : Bx w3 b vs) (hg : (w3.alloc o).grownBy w5 row) (hne : ∀ q, row = some q → q ≠ b) : Bx w5 b vs := by
  have e := (hg.block b (by simp; have := h.lt; omega) (fun e => hne b e.symm rfl)).trans (((Below.refl w3.heap.size w3).alloc (Nat.le_refl _) o).block b h.lt)
  exact ⟨by have := hg.size; simp at this; have := h.lt; omega, fun i hi => (cell_same e i).trans (h.c i hi), fun j => (frozen_same e j).trans (h.fz j)⟩
theorem sn_app4 {w6 : World} {base : Nat} {v' : Value} {l : List (Int × Int × Int × Bool)} {a b c : Int} {d : Bool} (ho : w6.ownsRow base 65 4 v' (l.length + 1) (snC l ++ [.int .i64 a, .int .i64 b, .int .i64 c, .bool d])) : OwS w6 base v' (l ++ [(a, b, c, d)]) := by
  unfold OwS; rw [snC_app, List.length_append]; exact ho
set_option maxRecDepth 20000 in
set_option maxHeartbeats 16000000 in
theorem sRunG (a : Option Addr) (n c : Nat) (t : Tks) (S : Nat → Nat → Nat → Int) (R : Nat) (W : Int) (sa : Option Addr) (sn sc : Nat) (sf : Nat → Int) (w : World) (hn : n ≤ 6) (hR : R ≤ 40) (hW : 1 ≤ W ∧ W ≤ 20) (hsn : sn ≤ 40) (hT : TkF w a n t S) (hq : ∀ i, i < n → t.qm i ≤ 1048576) (hN : ∀ i, i < n → ∀ j, j < t.qm i → t.N i j ≤ 1048576) (hS : IL w sa sn sf) :
    Calls Try.prog 7 #[.slice a n c, .int .i64 (R : Int), .int .i64 W, .slice sa sn sc] w fun e w' => ((tksB t n = false ∧ e = .returned (.tuple #[.slice none 0 0, .slice none 0 0, .bool false])) ∨ (tksB t n = true ∧ AnsSun w' e n t S (runS t n W (fun r => hsB sf sn (r : Int)) R))) ∧ Below w.heap.size w w' := by
  obtain ⟨iT, hiT, hzT⟩ := Option.map_eq_some_iff.1 infoTk
  simp only [Prod.mk.injEq] at hzT
  obtain ⟨hT0, hT1, hT2⟩ := hzT
  have HT : Hid (TkF w a n t S) := hT
  have HQ : Hid (∀ i, i < n → t.qm i ≤ 1048576) := hq
  have HN : Hid (∀ i, i < n → ∀ j, j < t.qm i → t.N i j ≤ 1048576) := hN
  have HSp : Hid (IL w sa sn sf) := hS
  have HNo : Hid (∀ k, k < n → tgB t k = false → tksB t n = false) := fun k hk h => tksB_no hk h
  have HS0 : Hid (NgP w.heap.size w (.slice none 0 0) 0 t S (fun _ => none) (fun _ => 0) (fun _ => 0) (fun _ => 0)) := ⟨World.ownsRow_nil _ _ _ _, fun j hj => absurd hj (Nat.not_lt_zero _)⟩
  have j1 : ¬ (R : Int) < 0 := by omega
  have j2 : ¬ (40 : Int) < (R : Int) := by omega
  have j3 : ¬ W < 1 := by omega
  have j4 : ¬ (20 : Int) < W := by omega
  have j5 : ¬ (40 : Int) < (sn : Int) := by omega
  have j6 : ¬ (6 : Int) < (n : Int) := by omega
  have hb0 := Below.refl w.heap.size w
  obtain ⟨sp, hsp⟩ : ∃ sp : Nat → Bool, (fun r : Nat => hsB sf sn (r : Int)) = sp := ⟨_, rfl⟩
  have HSP : Hid (∀ r : Nat, hsB sf sn (r : Int) = sp r) := fun r => congrFun hsp r
  rw [hsp]
  clear hsp
  clear hT hq hN hS
  go_enter Try.func7, Try.ntmps7
  go_wp2
  go_loopw [11, 55] (fun v i wr => ∃ (k : Nat), k ≤ n ∧ i = .int .i64 (k : Int) ∧ (∃ va vc, v = .slice va k vc) ∧ Hid (tksB t k = true) ∧ Hid (∃ QA QC LO HI, NgP w.heap.size wr v k t S QA QC LO HI) ∧ Below w.heap.size w wr) (fun _ i _ => n - (intOf i).toNat)
  case atStart => exact ⟨0, Nat.zero_le _, rfl, ⟨_, _, rfl⟩, (rfl : tksB t 0 = true), ⟨_, _, _, _, HS0.out⟩, hb0⟩
  case round =>
    obtain ⟨k, hk, rfl, ⟨va, vc, rfl⟩, HE, HG, hB⟩ := hrel
    clear HS0 hb0
    by_cases hlt : k < n
    · have hT2 := HT.out.below hB
      obtain ⟨b1, o1, rfl, l1, hc1⟩ := hT2.h.out (by omega)
      obtain ⟨y0, y1, y2, y3⟩ := hc1 k hlt
      have hFr := hT2.fr hlt
      have hqk := HQ.out k hlt
      have hNk := HN.out k hlt
      have i0 : (0 : Int) ≤ (k : Int) := by omega
      have i1 : (k : Int) < (n : Int) := by omega
      have HY : Hid (tgB t k = true → tksB t (k + 1) = true) := fun h => by rw [tksB, HE.out, h]; rfl
      have HN1 : Hid (tgB t k = false → tksB t n = false) := HNo.out k hlt
      obtain ⟨QA, QC, LO, HI, hG⟩ := HG.out
      have HGP : Hid (NgP w.heap.size wr (.slice va k vc) k t S QA QC LO HI) := hG
      have hbw : w.heap.size ≤ wr.heap.size := hB.size
      clear hc1 hT2 HG hG HE
      obtain ⟨X0, e0⟩ : ∃ X, X = t.qa k := ⟨_, rfl⟩
      obtain ⟨X1, e1⟩ : ∃ X, X = t.qm k := ⟨_, rfl⟩
      obtain ⟨X2, e2⟩ : ∃ X, X = t.qc k := ⟨_, rfl⟩
      obtain ⟨X3, e3⟩ : ∃ X, X = t.sh k := ⟨_, rfl⟩
      obtain ⟨X4, e4⟩ : ∃ X, X = t.er k := ⟨_, rfl⟩
      obtain ⟨X5, e5⟩ : ∃ X, X = t.of k := ⟨_, rfl⟩
      rw [← e0, ← e1, ← e2] at y0
      rw [← e3] at y1
      rw [← e4] at y2
      rw [← e5] at y3
      unfold tgB at HY HN1
      rw [← e1, ← e3, ← e4, ← e5] at HY HN1
      rw [← e0, ← e1] at hFr
      rw [← e1] at hqk hNk
      have HX : Hid (X1 = t.qm k ∧ X3 = t.sh k ∧ X4 = t.er k ∧ X5 = t.of k) := ⟨e1, e3, e4, e5⟩
      clear e0 e1 e2 e3 e4 e5
      have h1 : Below wr.heap.size wr (wr.alloc (tkO X0 X1 X2 X3 X4 X5 51)) := (Below.refl _ _).alloc (Nat.le_refl _) _
      have bT := bx_new (w := wr) (tkL X0 X1 X2 X3 X4 X5) 51 rfl
      have hFr2 := hFr.below h1
      go_upto_region 7 with fail
      generalize hW2 : wr.alloc (tkO X0 X1 X2 X3 X4 X5 51) = W2 at *
      clear hW2 hFr y0 y1 y2 y3
      have z0 := bT.c0
      have z1 := bT.c1
      have z2 := bT.c2
      have z3 := bT.c3
      have zl := bT.lt
      have kT := sTalker X0 X1 X2 (t.I k) (t.A k) (t.N k) (t.C k) X3 X4 X5 W2 hqk hFr2.h
      cases hg : tkB X1 (t.I k) (t.N k) X3 X4 X5 with
      | false =>
        rw [hg] at kT
        have HR : Hid (tksB t n = false) := HN1.out hg
        clear HY HN1 hg
        go_wp2_with fail
        refine kT.mono ?_
        rintro e w4 ⟨rfl, hb4⟩
        have hB4 := stepA (stepA hB h1) hb4
        clear kT hb4
        go_wp2
        go_ret3
        exact ⟨.inl ⟨HR.out, rfl⟩, hB4⟩
      | true =>
        rw [hg] at kT
        have HR : Hid (tksB t (k + 1) = true) := HY.out hg
        clear HY HN1 hg
        go_wp2_with fail
        refine kT.mono ?_
        rintro e w4 ⟨rfl, hb4⟩
        have h4 := stepA h1 hb4
        have bT4 := bT.on hb4
        have hFr4 := hFr2.below hb4
        clear kT hb4 bT hFr2 z0 z1 z2 z3 zl
        have z0 := bT4.c0
        have zf := bT4.fz 0
        have zl := bT4.lt
        go_wp2_with fail
        refine (l23Frs X0 X1 X2 (t.I k) (t.A k) (t.N k) (t.C k) (S k) w4 hqk hNk hFr4).mono ?_
        rintro e w5 ⟨a', c', rfl, hF5, hs5, hb5⟩
        have h5 := stepA h4 hb5
        have bT5 := bT4.on hb5
        have hO5 := (Only.refl wr.heap.size w5).set 0 (.slice a' X1 c')
        have bT6 := bT5.set 0 (by simp) (.slice a' X1 c')
        have hF6 := hF5.turns (OnlyIn.of hO5 (Nat.le_refl _) (Nat.lt_succ_self _)).turns (.inr (by omega))
        have h6 : Below wr.heap.size wr (w5.setCell ⟨wr.heap.size, 0, none⟩ (.slice a' X1 c')) := h5.trans hO5.below
        have hsw : wr.heap.size ≤ w4.heap.size := h4.size
        clear z0 zf zl hFr4 bT4 h4
        have z0 := bT5.c0
        have zf := bT5.fz 0
        have zl := bT5.lt
        have hs45 := hb5.size
        go_upto_region 10 with fail
        clear z0 zf zl bT5 hF5 h5 hb5
        have HZ6 : Hid ((w5.setCell ⟨wr.heap.size, 0, none⟩ (.slice a' X1 c')).heap.size = w5.heap.size) := hO5.size
        clear hO5
        generalize w5.setCell ⟨wr.heap.size, 0, none⟩ (.slice a' X1 c') = w6 at *
        have z0 := bT6.c0
        have z1 := bT6.c1
        have z2 := bT6.c2
        have z3 := bT6.c3
        have zl := bT6.lt
        have hG6 := HGP.out.on h6
        go_wp2_with (at_builtin; go_loud (refine wpList_append_own_at (P := Try.prog) _ rfl _ _ 23 rfl w.heap.size 51 iT (tkv none 0 0 0 0 false) 4 48 Try.underlying23 hiT hT0 hT1 hT2 rfl (by decide) (.slice va k vc) k (tkC t QA QC k) rfl (World.ownsRow.alloc hG6.own _) ⟨w6.heap.size, 0, none⟩ 1 1 [.slice a' X1 c', .int .i64 X3, .int .i64 X4, .bool X5] rfl rfl (four_new _ _ _ _ _ _) (fun u hu => by simp at hu; rcases hu with rfl | rfl | rfl | rfl <;> rfl) (by unfold maxLen; omega) (by omega) (by simp only [size_al]; have := h6.size; omega) ?_); intro v7 w7 hown7 hgr7 _ hat7)
        obtain ⟨q1, q3, q4, q5⟩ := HX.out
        have hG7 := HGP.out.app h6 hsw (Nat.le_trans hbw hsw) (Nat.le_of_eq HZ6.out.symm) (by rw [← q1]; exact hF6) (by rw [← q1]; exact hs5) (by rw [← q1, ← q3, ← q4, ← q5]; exact hown7) hgr7 hat7
        have hB7 : Below w.heap.size w w7 := (stepA hB h6).trans ((((Below.refl w6.heap.size w6).alloc (Nat.le_refl _) (tkO a' X1 c' X3 X4 X5 51)).mono (by have := h6.size; omega)).grown hgr7 (by simp only [size_al]; have := h6.size; omega) (fun q hq => (World.ownsRow.lt HGP.out.own q hq).1))
        obtain ⟨vb, vd, rfl⟩ : ∃ vb vd, v7 = .slice vb (k + 1) vd := by
          obtain ⟨_, ⟨_, h9⟩ | ⟨g, cap, cur, e9, _⟩⟩ := hown7
          · omega
          · exact ⟨_, _, e9⟩
        exact ⟨⟨k + 1, by omega, by go_num, ⟨_, _, rfl⟩, HR, ⟨_, _, _, _, hG7⟩, hB7⟩, by simp [intOf]; omega⟩
    · have hke : n = k := by omega
      subst hke
      obtain ⟨wM, rfl⟩ : ∃ x, x = wr := ⟨wr, rfl⟩
      have HTB : Hid (tksB t n = true) := HE
      obtain ⟨QA, QC, LO, HI, hG⟩ := HG.out
      obtain ⟨g, hg, hgw⟩ : ∃ g, (0 < n → va = some ⟨g, 0, none⟩) ∧ w.heap.size ≤ g := by
        obtain ⟨_, ⟨_, h1⟩ | ⟨g, cap, cur, h1, h2, _⟩⟩ := hG.own
        · exact ⟨w.heap.size, fun h => by omega, Nat.le_refl _⟩
        · cases h1; exact ⟨g, fun _ => rfl, h2⟩
      have HNW0 : Hid (NwP wM wM g n va t S (fun _ => 0) t.er (fun i => t.er i == 255) LO HI) := hG.nw hg HE.out
      have HVA : Hid (0 < n → va = some ⟨g, 0, none⟩) := hg
      have HQ8 : Hid (∀ i, i < n → t.qm i ≤ 8 ∧ (0 ≤ t.er i ∧ t.er i ≤ 255) ∧ ∀ j, j < t.qm i → 0 ≤ t.I i j ∧ t.I i j ≤ 2047) := fun i hi => tks_facts HE.out i hi
      have HOK : Hid (∀ r, BsOk t n r (runS t n W sp r)) := fun r => run_ok t n W _ (fun i hi => (HQ8.out i hi).2.1) r
      have hmk := run_make_row' (P := Try.prog) 24 3 (.int .i64 0) 8 Try.underlying24 infoI rfl .i64 .i64 n (by omega) (by omega)
      obtain ⟨iS, hiS, hzS⟩ := Option.map_eq_some_iff.1 infoSn
      simp only [Prod.mk.injEq] at hzS
      obtain ⟨hS0, hS1, hS2⟩ := hzS
      obtain ⟨iI, hiI, hzI⟩ := Option.map_eq_some_iff.1 infoI
      simp only [Prod.mk.injEq] at hzI
      obtain ⟨hI0, hI1, hI2⟩ := hzI
      have hbw : w.heap.size ≤ wM.heap.size := hB.size
      have HBM : Hid (Below w.heap.size w wM) := hB
      have hU : Below wM.heap.size wM (wM.alloc (.cells (madeCells #[.int .i64 0] n) 3)) := (Below.refl _ _).alloc (Nat.le_refl _) _
      have HU0 : Hid (IP (wM.alloc (.cells (madeCells #[.int .i64 0] n) 3)) wM.heap.size n (fun _ => 0)) := ip_made wM n
      have HNW1 : Hid (NwP wM (wM.alloc (.cells (madeCells #[.int .i64 0] n) 3)) g n va t S (runS t n W sp 0).LF (runS t n W sp 0).EC (fun i => (runS t n W sp 0).EC i == 255) LO HI) := HNW0.out.on hU
      have hz1 : wM.heap.size < (wM.alloc (.cells (madeCells #[.int .i64 0] n) 3)).heap.size := by simp only [size_al]; omega
      clear HE HG hG hU HNW0 hg HNo hB
      go_wp2
      clear hmk
      go_loopw [14, 15, 16] (fun v u i wx => ∃ (r : Nat) (l : List (Int × Int × Int × Bool)) (ug : Nat), r ≤ R ∧ i = .int .i64 (r : Int) ∧ u = .slice (some ⟨ug, 0, none⟩) n n ∧ l.length ≤ r ∧ (∃ y d, v = .slice y l.length d) ∧ Hid (l = (runS t n W sp r).out) ∧ Hid (OwS wx wM.heap.size v l) ∧ Hid (IP wx ug n (runS t n W sp r).SE) ∧ Hid (wM.heap.size ≤ ug ∧ v.ownBlock ≠ some ug) ∧ Hid (NwP wM wx g n va t S (runS t n W sp r).LF (runS t n W sp r).EC (fun i => (runS t n W sp r).EC i == 255) LO HI) ∧ wM.heap.size < wx.heap.size) (fun _ _ i _ => R - (intOf i).toNat)
      case atStart => exact ⟨0, [], wM.heap.size, Nat.zero_le _, rfl, rfl, Nat.le_refl _, ⟨_, _, rfl⟩, (rfl : [] = (runS t n W sp 0).out), World.ownsRow_nil _ _ _ _, HU0, ⟨Nat.le_refl _, fun h => by cases h⟩, HNW1, hz1⟩
      case round =>
        obtain ⟨wx, rfl⟩ : ∃ x, x = wr := ⟨wr, rfl⟩
        obtain ⟨r, l, ug, hr, rfl, rfl, hlr, ⟨y, d, rfl⟩, HL, HO, HU, HUG, HNW, hz⟩ := hrel
        clear HU0 HNW1 hz1
        by_cases hlt : r < R
        · have j6 : (r : Int) < (R : Int) := by omega
          have j7 : (0 : Int) ≤ (r : Int) := by omega
          have HRUN : Hid (runS t n W sp (r + 1) = stpS t n W sp r (runS t n W sp r)) := (rfl : runS t n W sp (r + 1) = _)
          have HBO : Hid (BsOk t n r (runS t n W sp r)) := HOK.out r
          generalize runS t n W sp r = s at *
          have hmk := run_make_row' (P := Try.prog) 24 3 (.int .i64 0) 8 Try.underlying24 infoI rfl .i64 .i64 n (by omega) (by omega)
          go_upto_if 82 with fail
          go_cut [15] from 74 to 216 (fun u wz => ∃ uq, u = .slice (some ⟨uq, 0, none⟩) n n ∧ Hid (IP wz uq n (wndS W r s)) ∧ Hid (NwP wM wz g n va t S s.LF s.EC (fun i => s.EC i == 255) LO HI) ∧ Hid (OwS wz wM.heap.size (.slice y l.length d) l) ∧ Hid (wM.heap.size ≤ uq ∧ (Value.slice y l.length d).ownBlock ≠ some uq) ∧ wM.heap.size < wz.heap.size)
          case first =>
            cases e0 : ((r : Int) % W == 0) with
            | true =>
              have hU : Below wx.heap.size wx (wx.alloc (.cells (madeCells #[.int .i64 0] n) 3)) := (Below.refl _ _).alloc (Nat.le_refl _) _
              have HU4 : Hid (IP (wx.alloc (.cells (madeCells #[.int .i64 0] n) 3)) wx.heap.size n (wndS W r s)) := by show IP _ _ _ _; unfold wndS; rw [if_pos (by simpa using e0)]; exact ip_made wx n
              have HNW4 : Hid (NwP wM (wx.alloc (.cells (madeCells #[.int .i64 0] n) 3)) g n va t S s.LF s.EC (fun i => s.EC i == 255) LO HI) := HNW.out.on hU
              have HO4 : Hid (OwS (wx.alloc (.cells (madeCells #[.int .i64 0] n) 3)) wM.heap.size (.slice y l.length d) l) := HO.out.on hU
              have HUG4 : Hid (wM.heap.size ≤ wx.heap.size ∧ (Value.slice y l.length d).ownBlock ≠ some wx.heap.size) := ⟨by omega, fun h => by have := (World.ownsRow.lt HO.out _ h).2; omega⟩
              have hz4 : wM.heap.size < (wx.alloc (.cells (madeCells #[.int .i64 0] n) 3)).heap.size := by simp only [size_al]; omega
              clear HU HNW HO HUG hz hU
              go_wp2_with fail
              go_meet
              case rel => exact ⟨_, rfl, HU4, HNW4, HO4, HUG4, hz4⟩
            | false =>
              have HU4 : Hid (IP wx ug n (wndS W r s)) := by show IP _ _ _ _; unfold wndS; rw [if_neg (by simpa using e0)]; exact HU.out
              clear hmk
              go_wp2_with fail
              go_meet
              case rel => exact ⟨_, rfl, HU4, HNW, HO, HUG, hz⟩
          case rest =>
            obtain ⟨uq, rfl, HU4, HNW4, HO4, HUG4, hz4⟩ := hcut
            clear HU HNW HO HUG hz hmk
            obtain ⟨w4, rfl⟩ : ∃ x, x = wc := ⟨wc, rfl⟩
            have HT0 : Hid (Tw w4 w4 (.slice none 0 0) 0 (gN []) (.slice none 0 0) 0 (ctF t s.LF [])) := tw_none _ _ _
            go_wp2
            go_loopw [17, 18, 88] (fun v1 v2 i wy => ∃ (k : Nat) (q : List Nat), k ≤ n ∧ i = .int .i64 (k : Int) ∧ q.length ≤ k ∧ (∃ a c, v1 = .slice a q.length c) ∧ (∃ a c, v2 = .slice a q.length c) ∧ Hid (q = ctL t s.LF (wndS W r s) s.EC k) ∧ Hid (Tw w4 wy v1 q.length (gN q) v2 q.length (ctF t s.LF q))) (fun _ _ i _ => n - (intOf i).toNat)
            case atStart => exact ⟨0, [], Nat.zero_le _, rfl, Nat.le_refl _, ⟨_, _, rfl⟩, ⟨_, _, rfl⟩, (rfl : [] = ctL t s.LF (wndS W r s) s.EC 0), HT0⟩
            case round =>
              obtain ⟨wy, rfl⟩ : ∃ x, x = wr := ⟨wr, rfl⟩
              obtain ⟨k, q, hk, rfl, hqk, ⟨a1, c1, rfl⟩, ⟨a2, c2, rfl⟩, HCL, HTw⟩ := hrel
              clear HT0
              by_cases hltk : k < n
              · have hBw := HTw.out.bel
                have hNy := HNW4.out.on hBw
                obtain ⟨qa', qc', y0, y1, y2, y3, hsh, hFR⟩ := hNy.c k hltk
                have hvk := HVA.out (by omega)
                have hgl : g < wy.heap.size := Nat.lt_of_lt_of_le (hNy.lt (by omega)) hNy.tr.size
                have hUy := (HU4.out.below hBw HU4.out.lt)
                have u0 := hUy.c k hltk
                have ul := hUy.lt
                have i0 : (0 : Int) ≤ (k : Int) := by omega
                have i1 : (k : Int) < (n : Int) := by omega
                have HFst : Hid (0 < t.qm k - s.LF k → ∃ b o, qa' = some ⟨b, o, none⟩ ∧ b < HI k ∧ b < wy.heap.size ∧ wy.cell? ⟨b, o, none⟩ = some (.int .i64 (t.I k (s.LF k)))) := fun h => fr_first hFR hNy.tr (hNy.ap k hltk).1 h
                have hsh1 := hsh.1
                have hapk := (hNy.ap k hltk).2
                have HCN : Hid (myB (t.qm k) (t.sh k) (s.LF k) (wndS W r s k) (s.EC k) = false → q = ctL t s.LF (wndS W r s) s.EC (k + 1)) := fun hh => by rw [ctL, if_neg (by rw [hh]; simp)]; exact HCL.out
                have HCY : Hid (myB (t.qm k) (t.sh k) (s.LF k) (wndS W r s k) (s.EC k) = true → q ++ [k] = ctL t s.LF (wndS W r s) s.EC (k + 1)) := fun hh => by rw [ctL, if_pos hh, ← HCL.out]
                have HLF := HBO.out.lf k hltk
                have hqm8 := (HQ8.out k hltk).1
                clear hNy hUy HCL hFR hsh
                subst hvk
                obtain ⟨X1, e1⟩ : ∃ X, X = t.qm k - s.LF k := ⟨_, rfl⟩
                obtain ⟨X3, e3⟩ : ∃ X, X = t.sh k := ⟨_, rfl⟩
                obtain ⟨X4, e4⟩ : ∃ X, X = s.EC k := ⟨_, rfl⟩
                obtain ⟨X5, e5⟩ : ∃ X, X = (s.EC k == 255) := ⟨_, rfl⟩
                obtain ⟨X6, e6⟩ : ∃ X, X = wndS W r s k := ⟨_, rfl⟩
                obtain ⟨X7, e7⟩ : ∃ X, X = t.I k (s.LF k) := ⟨_, rfl⟩
                rw [← e1] at y0
                rw [← e3] at y1
                rw [← e4] at y2
                rw [← e5] at y3
                rw [← e6] at u0
                rw [← e7, ← e1] at HFst
                rw [← e1] at hsh1
                rw [← e3, ← e4, ← e6] at HCN HCY
                have HM : Hid (myB (t.qm k) X3 (s.LF k) X6 X4 = (!X5 && (decide (0 < X1) && decide (X6 < X3)))) := by
                  show myB _ _ _ _ _ = _
                  unfold myB
                  rw [e5, ← e4, show decide (s.LF k < t.qm k) = decide (0 < X1) from decide_eq_decide.2 (by omega)]
                have HX1 : Hid (0 < X1 → s.LF k < t.qm k) := fun h => by omega
                have HX7 : Hid (X7 = t.I k (s.LF k)) := e7
                have hx8 : X1 ≤ 8 := by omega
                clear e1 e3 e4 e5 e6 e7
                have h1 : Below wy.heap.size wy (wy.alloc (tkO qa' X1 qc' X3 X4 X5 51)) := (Below.refl _ _).alloc (Nat.le_refl _) _
                have bT := bx_new (w := wy) (tkL qa' X1 qc' X3 X4 X5) 51 rfl
                go_upto_region 23 with fail
                have u1 := (h1.cell (p := ⟨uq, k, none⟩) ul).trans u0
                have ul1 := Nat.lt_of_lt_of_le ul h1.size
                generalize hW2 : wy.alloc (tkO qa' X1 qc' X3 X4 X5 51) = W2 at *
                clear hW2 y0 y1 y2 y3 u0
                have z0 := bT.c0
                have z1 := bT.c1
                have z2 := bT.c2
                have z3 := bT.c3
                have zl := bT.lt
                by_cases hm : X5 = false ∧ 0 < X1 ∧ X6 < X3
                · obtain ⟨m0, m1, m2⟩ := hm
                  subst m0
                  have d1 : decide ((0 : Int) < (X1 : Int)) = true := decide_eq_true (by omega)
                  have d2 : decide (X6 < X3) = true := decide_eq_true m2
                  have HMB : Hid (q ++ [k] = ctL t s.LF (wndS W r s) s.EC (k + 1)) := HCY.out (by rw [HM.out, decide_eq_true m1, decide_eq_true m2]; rfl)
                  obtain ⟨b9, o9, rfl, lh9, l9, x9⟩ := HFst.out m1
                  clear HFst HCN HCY HM
                  go_quiet (fail)
                  clear z0 z1 z2 z3 zl
                  have h3 : Below wy.heap.size wy (W2.drewN nq) := below_dr h1 _
                  have bT3 := bT.on (below_dr (Below.refl W2.heap.size W2) nq)
                  generalize W2.drewN nq = w3 at *
                  have HT3 := HTw.out.on h3
                  have x3 := (h3.cell (p := ⟨b9, o9, none⟩) l9).trans x9
                  have l3 := Nat.lt_of_lt_of_le l9 h3.size
                  have ho3 := HT3.o1
                  unfold Own at ho3
                  have hz3 := HT3.bel.size
                  have HX7' : Hid (X7 = t.I k (s.LF k)) := HX7
                  clear h1 bT x9 l9 u1 ul1
                  go_upto_region 25 with (at_builtin; go_loud (refine wpList_append_own_at (P := Try.prog) _ rfl _ _ 24 rfl w4.heap.size 3 iI (.int .i64 0) 1 8 Try.underlying24 hiI hI0 hI1 hI2 rfl (by decide) _ _ _ rfl (World.ownsRow.alloc ho3 _) ⟨w3.heap.size, 0, none⟩ 1 1 [.int .i64 (k : Int)] rfl rfl (cell_one_new _ _ _) (fun y hy => by simp at hy; subst hy; rfl) (by unfold maxLen; omega) (by omega) (by simp only [size_al]; omega) ?_); intro v' w5 ho' hg' _ hat')
                  have HT5 : Hid (Tw w4 w5 v' (q.length + 1) (put (gN q) q.length (k : Int)) (.slice a2 q.length c2) q.length (ctF t s.LF q)) := HT3.app1 ho' hg' hat'
                  obtain ⟨y1, f1, rfl⟩ := HT5.out.o1.shape
                  have hvb : ∀ b, (Value.slice a1 q.length c1).ownBlock = some b → w4.heap.size ≤ b ∧ b < wy.heap.size := fun b hb => World.ownsRow.lt HTw.out.o1 b hb
                  have hz3b := h3.size
                  have bT5 := grown_bx bT3 hg' (fun b hb => by have := (hvb b hb).2; omega)
                  have x5 := (grown_cell (j := o9) hg' l3 (fun b hb => by have := (hvb b hb).1; omega)).trans x3
                  have l5 : b9 < w5.heap.size := by have := hg'.size; simp only [size_al] at this; omega
                  clear bT3 x3 l3 ho' hg' hat' ho3 HT3 hvb
                  have z0 := bT5.c0
                  have zl := bT5.lt
                  have ho5 := HT5.out.o2
                  unfold Own at ho5
                  have hz5 := HT5.out.bel.size
                  have i2 : (0 : Int) < (X1 : Int) := by omega
                  go_wp2_with (at_builtin; go_loud (refine wpList_append_own_at (P := Try.prog) _ rfl _ _ 24 rfl w4.heap.size 3 iI (.int .i64 0) 1 8 Try.underlying24 hiI hI0 hI1 hI2 rfl (by decide) _ _ _ rfl (World.ownsRow.alloc ho5 _) ⟨w5.heap.size, 0, none⟩ 1 1 [.int .i64 X7] rfl rfl (cell_one_new _ _ _) (fun y hy => by simp at hy; subst hy; rfl) (by unfold maxLen; omega) (by omega) (by simp only [size_al]; omega) ?_); intro v2' w9 ho9 hg9 _ hat9)
                  have HT9 := HT5.out.app2 ho9 hg9 hat9
                  obtain ⟨y2, f2, rfl⟩ := HT9.o2.shape
                  have HT10 : Tw w4 w9 (.slice y1 (q.length + 1) f1) (q ++ [k]).length (gN (q ++ [k])) (.slice y2 (q.length + 1) f2) (q ++ [k]).length (ctF t s.LF (q ++ [k])) := by
                    rw [List.length_append]
                    refine HT9.congr (fun i hi => gN_put q k i hi) (fun i hi => ?_)
                    rw [HX7'.out]
                    exact ctF_put t s.LF q k i hi
                  exact ⟨⟨k + 1, q ++ [k], by omega, by go_num, by simp; omega, ⟨y1, f1, by simp⟩, ⟨y2, f2, by simp⟩, HMB, HT10⟩, by simp [intOf]; omega⟩
                · cases m5 : X5 with
                  | true =>
                    subst m5
                    clear hm
                    have HMB : Hid (q = ctL t s.LF (wndS W r s) s.EC (k + 1)) := HCN.out (by rw [HM.out]; rfl)
                    clear HFst HCN HCY HM HX1 HX7
                    (try clear m1)
                    (try clear m2)
                    go_quiet (fail)
                    have HT3 := HTw.out.on (below_dr h1 nq)
                    go_wp2
                    exact ⟨⟨k + 1, q, by omega, by go_num, by omega, ⟨_, _, rfl⟩, ⟨_, _, rfl⟩, HMB, HT3⟩, by simp [intOf]; omega⟩
                  | false =>
                    subst m5
                    by_cases m1 : 0 < X1
                    · have m2 : ¬ X6 < X3 := fun h => hm ⟨rfl, m1, h⟩
                      have d0 : decide (0 < X1) = true := decide_eq_true m1
                      have d1 : decide ((0 : Int) < (X1 : Int)) = true := decide_eq_true (by omega)
                      have d2 : decide (X6 < X3) = false := decide_eq_false m2
                      clear hm
                      have HMB : Hid (q = ctL t s.LF (wndS W r s) s.EC (k + 1)) := HCN.out (by rw [HM.out, decide_eq_true m1, decide_eq_false m2]; rfl)
                      clear HFst HCN HCY HM HX1 HX7
                      (try clear m1)
                      (try clear m2)
                      go_quiet (fail)
                      have HT3 := HTw.out.on (below_dr h1 nq)
                      go_wp2
                      exact ⟨⟨k + 1, q, by omega, by go_num, by omega, ⟨_, _, rfl⟩, ⟨_, _, rfl⟩, HMB, HT3⟩, by simp [intOf]; omega⟩
                    · have d0 : decide (0 < X1) = false := decide_eq_false m1
                      have d1 : decide ((0 : Int) < (X1 : Int)) = false := decide_eq_false (by omega)
                      clear hm
                      have HMB : Hid (q = ctL t s.LF (wndS W r s) s.EC (k + 1)) := HCN.out (by rw [HM.out, decide_eq_false m1]; rfl)
                      clear HFst HCN HCY HM HX1 HX7
                      (try clear m1)
                      (try clear m2)
                      go_quiet (fail)
                      have HT3 := HTw.out.on (below_dr h1 nq)
                      go_wp2
                      exact ⟨⟨k + 1, q, by omega, by go_num, by omega, ⟨_, _, rfl⟩, ⟨_, _, rfl⟩, HMB, HT3⟩, by simp [intOf]; omega⟩
              · have hke : n = k := by omega
                subst hke
                have hBw := HTw.out.bel
                have HNy : Hid (NwP wM wy g n va t S s.LF s.EC (fun i => s.EC i == 255) LO HI) := HNW4.out.on hBw
                have HOy : Hid (OwS wy wM.heap.size (.slice y l.length d) l) := HO4.out.on hBw
                have HUy : Hid (IP wy uq n (wndS W r s)) := HU4.out.below hBw HU4.out.lt
                have hzy : wM.heap.size < wy.heap.size := Nat.lt_of_lt_of_le hz4 hBw.size
                have i1 : ¬ (n : Int) < (n : Int) := by omega
                by_cases hl0 : q.length = 0
                · have hq0 : ctL t s.LF (wndS W r s) s.EC n = [] := by rw [← HCL.out]; exact List.eq_nil_of_length_eq_zero hl0
                  have HE : Hid (stpS t n W sp r s = { s with SE := wndS W r s }) := by show stpS t n W sp r s = _; unfold stpS conS; rw [if_pos hq0]
                  have hlz : (q.length : Int) = 0 := by omega
                  clear HTw HCL hq0 HNW4 HO4 HU4 hz4 hBw
                  generalize q.length = Lz at *
                  subst hl0
                  go_wp2_with fail
                  go_roundw
                  case rel => exact ⟨r + 1, l, uq, by omega, by go_num, rfl, by omega, ⟨_, _, rfl⟩, by show l = (runS t n W sp (r + 1)).out; rw [HRUN.out, HE.out]; exact HL.out, HOy.out, by show IP _ _ _ _; rw [HRUN.out, HE.out]; exact HUy.out, HUG4.out, by show NwP _ _ _ _ _ _ _ _ _ _ _ _; rw [HRUN.out, HE.out]; exact HNy.out, hzy⟩
                  case measure => simp [intOf]; omega
                · have hln : ((q.length : Int) == 0) = false := by simpa using hl0
                  have hqne : q ≠ [] := fun e => hl0 (by rw [e]; rfl)
                  obtain ⟨K, hK⟩ := Fst.some (lv_alive q.length (ctF t s.LF q) (by omega) 11)
                  have hmem : ∀ x, x ∈ q → x < n ∧ myB (t.qm x) (t.sh x) (s.LF x) (wndS W r s x) (s.EC x) = true := fun x hx => ctL_mem t s.LF (wndS W r s) s.EC n x (by rw [← HCL.out]; exact hx)
                  have hok : ∀ j, j < q.length → 0 ≤ ctF t s.LF q j ∧ ctF t s.LF q j ≤ 2047 := fun j hj => by
                    have hm : q.getD j 0 ∈ q := by simp [List.getD, List.getElem?_eq_getElem hj]
                    obtain ⟨m1, m2⟩ := hmem (q.getD j 0) hm
                    unfold myB at m2
                    simp only [Bool.and_eq_true, decide_eq_true_eq] at m2
                    exact (HQ8.out _ m1).2.2 _ m2.2.1
                  have kA := sArb a2 q.length c2 (ctF t s.LF q) K q.length (lv q.length (ctF t s.LF q) 11) true wy (by omega) (.inl ⟨⟨by omega, by omega, hok⟩, hK, rfl, rfl, rfl⟩) HTw.out.o2.il
                  have hnx : NxIs t s.LF (conS t n W r s) (gN q K) := by
                    show NxIs _ _ (ctL t s.LF (wndS W r s) s.EC n) _
                    rw [← HCL.out]
                    exact .inr ⟨hqne, K, hK, rfl⟩
                  have hcne : ¬ conS t n W r s = [] := by show ¬ ctL t s.LF (wndS W r s) s.EC n = []; rw [← HCL.out]; exact hqne
                  have hKl := hK.1
                  obtain ⟨D, hD⟩ : ∃ D, D = nxK t s.LF (conS t n W r s) := ⟨_, rfl⟩
                  have hgK : gN q K = (D : Int) := by rw [hnx.is, if_neg hcne, hD]
                  have hDm := ctL_mem t s.LF (wndS W r s) s.EC n D (by rw [hD]; exact nxK_mem t s.LF (conS t n W r s) hcne)
                  obtain ⟨hDn, hDb⟩ := hDm
                  unfold myB at hDb
                  simp only [Bool.and_eq_true, decide_eq_true_eq, Bool.not_eq_true', beq_eq_false_iff_ne] at hDb
                  obtain ⟨hD0, hD1, hD2⟩ := hDb
                  have HE : Hid (stpS t n W sp r s = { LF := fun j => if j = D then snL (!(sp r)) (s.LF j) else s.LF j, SE := fun j => if j = D then wndS W r s j + 1 else wndS W r s j, EC := fun j => if j = D then snE (!(sp r)) (s.EC j) else s.EC j, out := s.out ++ [((r : Int), (D : Int), t.I D (s.LF D), !(sp r))] }) := by
                    show stpS t n W sp r s = _
                    rw [hD]
                    unfold stpS
                    rw [if_neg hcne]
                  have hwb := wnd_bd HBO.out W D hDn
                  have hec := HBO.out.ec D hDn
                  have HOw : Hid (Own wy w4.heap.size (.slice a1 q.length c1) q.length (gN q)) := HTw.out.o1
                  have hgp : ∀ b, (Value.slice y l.length d).ownBlock = some b → wM.heap.size ≤ b := fun b hb => (World.ownsRow.lt HOy.out b hb).1
                  have HGP2 : Hid (∀ b, (Value.slice y l.length d).ownBlock = some b → wM.heap.size ≤ b) := hgp
                  clear hok hK HCL hmem hqne hnx hcne hD HTw HNW4 HO4 HU4 hz4 hBw hgp
                  generalize lv q.length (ctF t s.LF q) 11 = GG at *
                  go_wp2_with fail
                  refine kA.mono ?_
                  rintro e w5 ⟨⟨p4, q4, rfl, -⟩, hb5⟩
                  have hO5 := HOw.out.below hb5
                  obtain ⟨g1, cap1, e1, hg1, hP1⟩ := hO5.some (by omega)
                  cases e1
                  have y0 := hP1.c K hKl
                  rw [hgK] at y0
                  have yl := hP1.lt
                  have jK : (0 : Int) ≤ (K : Int) := by omega
                  have jK2 : (K : Int) < (q.length : Int) := by omega
                  have HN5 : Hid (NwP wM w5 g n va t S s.LF s.EC (fun i => s.EC i == 255) LO HI) := HNy.out.on hb5
                  have HO5 : Hid (OwS w5 wM.heap.size (.slice y l.length d) l) := HOy.out.on hb5
                  have HU5 : Hid (IP w5 uq n (wndS W r s)) := HUy.out.below hb5 HUy.out.lt
                  have hz5 : wM.heap.size < w5.heap.size := Nat.lt_of_lt_of_le hzy hb5.size
                  clear hP1 hO5 HOw kA hb5 hgK HNy HOy HUy hzy
                  have u0 := HU5.out.c D hDn
                  have uf := HU5.out.fz D
                  have ul := HU5.out.lt
                  have d0 : (0 : Int) ≤ (D : Int) := by omega
                  have d1 : (D : Int) < (n : Int) := by omega
                  have HU6 : Hid (IP (w5.setCell ⟨uq, D, none⟩ (.int .i64 (wndS W r s D + 1))) uq n (put (wndS W r s) D (wndS W r s D + 1))) := HU5.out.set hDn _
                  have hOu := (Only.refl uq w5).set D (.int .i64 (wndS W r s D + 1))
                  have HN6 : Hid (NwP wM (w5.setCell ⟨uq, D, none⟩ (.int .i64 (wndS W r s D + 1))) g n va t S s.LF s.EC (fun i => s.EC i == 255) LO HI) := HN5.out.low (hOu.below.mono HUG4.out.1)
                  have HO6 : Hid (OwS (w5.setCell ⟨uq, D, none⟩ (.int .i64 (wndS W r s D + 1))) wM.heap.size (.slice y l.length d) l) := HO5.out.same fun b hb => hOu.block b (fun e => HUG4.out.2 (by rw [hb, e]))
                  have hz6 : wM.heap.size < (w5.setCell ⟨uq, D, none⟩ (.int .i64 (wndS W r s D + 1))).heap.size := by simp only [size_set]; exact hz5
                  go_upto_region 31 with fail
                  clear HN5 HO5 HU5 hz5 u0 uf ul y0 yl hOu jK jK2
                  generalize w5.setCell ⟨uq, D, none⟩ (.int .i64 (wndS W r s D + 1)) = w6 at *
                  obtain ⟨b9, o9, c9, z0, l9, x9⟩ := HN6.out.first hDn hD1
                  have hva := HVA.out (by omega)
                  subst hva
                  have gl : g < w6.heap.size := Nat.lt_trans (HN6.out.lt (by omega)) hz6
                  have d2 : (0 : Int) < ((t.qm D - s.LF D : Nat) : Int) := by omega
                  have d3 : 0 < t.qm D - s.LF D := by omega
                  obtain ⟨X, hX⟩ : ∃ X, X = t.I D (s.LF D) := ⟨_, rfl⟩
                  rw [← hX] at x9 HE
                  clear hX
                  have h7 : Below w6.heap.size w6 (w6.alloc (.cells #[.int .i64 (r : Int), .int .i64 (D : Int), .int .i64 X, .bool true] 65)) := (Below.refl _ _).alloc (Nat.le_refl _) _
                  have bS := bx_new (w := w6) [.int .i64 (r : Int), .int .i64 (D : Int), .int .i64 X, .bool true] 65 rfl
                  have HN7 : Hid (NwP wM _ g n (some ⟨g, 0, none⟩) t S s.LF s.EC (fun i => s.EC i == 255) LO HI) := HN6.out.on h7
                  have HO7 : Hid (OwS _ wM.heap.size (.slice y l.length d) l) := HO6.out.on h7
                  have HU7 : Hid (IP _ uq n _) := HU6.out.below h7 HU6.out.lt
                  have HS7 : Hid (IL _ sa sn sf) := HSp.out.below (HBM.out.trans (HN7.out.tr.below hgw hbw))
                  have hz7 : wM.heap.size < (w6.alloc (.cells #[.int .i64 (r : Int), .int .i64 (D : Int), .int .i64 X, .bool true] 65)).heap.size := Nat.lt_of_lt_of_le hz6 h7.size
                  have hob : ∀ b, (Value.slice y l.length d).ownBlock = some b → b < w6.heap.size := fun b hb => (World.ownsRow.lt HO6.out b hb).2
                  have hub := HU6.out.lt
                  have HW7 : Hid (Below w.heap.size w _) := HBM.out.trans (HN7.out.tr.below hgw hbw)
                  go_upto_region 32 with fail
                  clear z0 x9 l9 gl HN6 HO6 HU6
                  generalize hw7 : w6.alloc (.cells #[.int .i64 (r : Int), .int .i64 (D : Int), .int .i64 X, .bool true] 65) = w7 at *
                  clear hw7
                  have HB6 : Hid (wM.heap.size < w6.heap.size) := hz6
                  have HOB : Hid (∀ b, (Value.slice y l.length d).ownBlock = some b → b < w6.heap.size) := hob
                  have HUB : Hid (uq < w6.heap.size) := hub
                  clear hob hub
                  generalize hB6 : w6.heap.size = B at *
                  clear hB6 h7 hz6
                  have hbx0 : Bx w7 B [.int .i64 (r : Int), .int .i64 (D : Int), .int .i64 X, .bool (!(hsB sf 0 (r : Int)))] := by rw [hsB_zero]; exact bS
                  clear bS
                  have HBX0 : Hid (Bx w7 B [.int .i64 (r : Int), .int .i64 (D : Int), .int .i64 X, .bool (!(hsB sf 0 (r : Int)))]) := hbx0
                  clear hbx0
                  go_wp2
                  go_loopw [156] (fun i wz => ∃ j : Nat, j ≤ sn ∧ i = .int .i64 (j : Int) ∧ Hid (Bx wz B [.int .i64 (r : Int), .int .i64 (D : Int), .int .i64 X, .bool (!(hsB sf j (r : Int)))]) ∧ Only B w7 wz) (fun i _ => sn - (intOf i).toNat)
                  case atStart => exact ⟨0, Nat.zero_le _, rfl, HBX0, Only.refl _ _⟩
                  case round =>
                    obtain ⟨wz, rfl⟩ : ∃ x, x = wr := ⟨wr, rfl⟩
                    obtain ⟨j, hj, rfl, HBX, hOz⟩ := hrel
                    clear HBX0
                    by_cases hltj : j < sn
                    · have hSz := HSp.out.below (HW7.out.trans (hOz.below.mono (show w.heap.size ≤ B by have := HB6.out; omega)))
                      obtain ⟨sb, so, rfl, sl, sc⟩ := hSz (by omega)
                      have y0 := sc j hltj
                      have k0 : (0 : Int) ≤ (j : Int) := by omega
                      have k1 : (j : Int) < (sn : Int) := by omega
                      have HST := hsB_step sf j (r : Int)
                      obtain ⟨Y, hY⟩ : ∃ Y, Y = sf j := ⟨_, rfl⟩
                      rw [← hY] at y0 HST
                      have HST2 : Hid (hsB sf (j + 1) (r : Int) = (hsB sf j (r : Int) || decide (Y = (r : Int)))) := HST
                      clear sc hSz hY HST
                      cases hc : (Y == (r : Int)) with
                      | true =>
                        have HV : Hid (hsB sf (j + 1) (r : Int) = true) := by show _ = true; rw [HST2.out, decide_eq_true (by simpa using hc), Bool.or_true]
                        have b3 := HBX.out.c3
                        have f3 := HBX.out.fz 3
                        have bl := HBX.out.lt
                        have HBX2 : Hid (Bx (wz.setCell ⟨B, 3, none⟩ (.bool false)) B [.int .i64 (r : Int), .int .i64 (D : Int), .int .i64 X, .bool (!(hsB sf (j + 1) (r : Int)))]) := by show Bx _ _ _; rw [HV.out]; exact HBX.out.set 3 (by simp) (.bool false)
                        have hO2 := hOz.set 3 (.bool false)
                        clear HST2 HV HBX hOz
                        go_wp2
                        exact ⟨⟨j + 1, by omega, by go_num, HBX2, hO2⟩, by simp [intOf]; omega⟩
                      | false =>
                        have HBX2 : Hid (Bx wz B [.int .i64 (r : Int), .int .i64 (D : Int), .int .i64 X, .bool (!(hsB sf (j + 1) (r : Int)))]) := by show Bx _ _ _; rw [HST2.out, decide_eq_false (by simpa using hc), Bool.or_false]; exact HBX.out
                        clear HST2 HBX
                        go_wp2
                        exact ⟨⟨j + 1, by omega, by go_num, HBX2, hOz⟩, by simp [intOf]; omega⟩
                    · have hje : j = sn := by omega
                      subst hje
                      have HBX2 : Hid (Bx wz B [.int .i64 (r : Int), .int .i64 (D : Int), .int .i64 X, .bool (!(sp r))]) := by show Bx _ _ _; rw [← HSP.out r]; exact HBX.out
                      have HNz : Hid (NwP wM wz g n (some ⟨g, 0, none⟩) t S s.LF s.EC (fun i => s.EC i == 255) LO HI) := HN7.out.low (hOz.below.mono (Nat.le_of_lt HB6.out))
                      have HOz : Hid (OwS wz wM.heap.size (.slice y l.length d) l) := HO7.out.same fun b hb => hOz.block b (fun e => by have := HOB.out b hb; omega)
                      have HUz : Hid (IP wz uq n _) := HU7.out.only hOz (by have := HUB.out; omega)
                      have hzz : wM.heap.size < wz.heap.size := by rw [hOz.size]; exact hz7
                      clear HBX HN7 HO7 HU7 HS7 hz7 hOz HW7
                      obtain ⟨gd, hgd⟩ : ∃ gd, gd = !(sp r) := ⟨_, rfl⟩
                      rw [← hgd] at HE HBX2
                      clear hgd
                      have b0 := HBX2.out.c0
                      have b1 := HBX2.out.c1
                      have b2 := HBX2.out.c2
                      have b3 := HBX2.out.c3
                      have bl := HBX2.out.lt
                      have hOz := HOz.out
                      unfold OwS at hOz
                      go_upto_region 39 with (at_builtin; go_loud (refine wpList_append_own_at (P := Try.prog) _ rfl _ _ 27 rfl wM.heap.size 65 iS (.agg #[.int .i64 0, .int .i64 0, .int .i64 0, .bool false]) 4 32 Try.underlying27 hiS hS0 hS1 hS2 rfl (by decide) _ _ _ rfl (World.ownsRow.alloc hOz _) ⟨wz.heap.size, 0, none⟩ 1 1 [.int .i64 (r : Int), .int .i64 (D : Int), .int .i64 X, .bool gd] rfl rfl (four_new _ _ _ _ _ _) (fun x hx => by simp at hx; rcases hx with rfl | rfl | rfl | rfl <;> rfl) (by unfold maxLen; omega) (by omega) (by simp only [size_al]; omega) ?_); intro vN w10 hown hgr _ hat)
                      have hgr : (wz.alloc (.cells #[.int .i64 (r : Int), .int .i64 (D : Int), .int .i64 X, .bool gd] 65)).grownBy w10 (Value.slice y l.length d).ownBlock := hgr
                      have hat : vN.ownBlock = (Value.slice y l.length d).ownBlock ∨ vN.ownBlock = some (wz.alloc (.cells #[.int .i64 (r : Int), .int .i64 (D : Int), .int .i64 X, .bool gd] 65)).heap.size := hat
                      have HO10 : Hid (OwS w10 wM.heap.size vN (l ++ [((r : Int), (D : Int), X, gd)])) := sn_app4 hown
                      have hB10 : Below wM.heap.size wz w10 := ((Below.refl wM.heap.size wz).alloc (Nat.le_of_lt hzz) _).grown hgr (by simp only [size_al]; omega) (fun b hb => HGP2.out b hb)
                      have HN10 : Hid (NwP wM w10 g n (some ⟨g, 0, none⟩) t S s.LF s.EC (fun i => s.EC i == 255) LO HI) := HNz.out.low hB10
                      have hugne : (Value.slice y l.length d).ownBlock ≠ some uq := HUG4.out.2
                      have HU10 : Hid (IP w10 uq n _) := grown_ip HUz.out hgr (fun b hb e => hugne (by rw [hb, e]))
                      have HV10 : Hid (vN.ownBlock ≠ some uq) := fun e => by
                        rcases hat with h1 | h1
                        · exact hugne (h1.symm.trans e)
                        · rw [h1] at e
                          have e2 := Option.some.inj e
                          simp only [size_al] at e2
                          have := HUz.out.lt
                          omega
                      have bx10 := grown_bx HBX2.out hgr (fun b hb => by have := HOB.out b hb; omega)
                      have hz10 : wM.heap.size < w10.heap.size := Nat.lt_of_lt_of_le hzz hB10.size
                      have HLN : Hid ((l ++ [((r : Int), (D : Int), X, gd)]).length = l.length + 1) := List.length_append
                      obtain ⟨ya, yc, rfl⟩ := HO10.out.shape
                      clear b0 b1 b2 b3 bl HBX2 HNz HOz HUz hOz hown hgr hat hzz hB10 hugne
                      have b3 := bx10.c3
                      have bl := bx10.lt
                      obtain ⟨b9, o9, c9, z0, zc, z2, z3⟩ := HN10.out.first2 hDn hD1
                      have hgl : g < w10.heap.size := Nat.lt_trans (HN10.out.lt (by omega)) hz10
                      have f0 := HN10.out.fz (by omega) (D * 4)
                      have f2 := HN10.out.fz (by omega) (D * 4 + 2)
                      have f3 := HN10.out.fz (by omega) (D * 4 + 3)
                      have HUg : Hid (g ≠ uq) := by have h1 := HUG4.out.1; have h2 := HN10.out.lt (by omega); show g ≠ uq; omega
                      have HVg : Hid (∀ b, (Value.slice ya (l ++ [((r : Int), (D : Int), X, gd)]).length yc).ownBlock = some b → b ≠ g) := fun b hb e => by have h1 := (World.ownsRow.lt HO10.out b hb).1; have h2 := HN10.out.lt (by omega); omega
                      clear bx10
                      obtain ⟨E, hE0⟩ : ∃ E, E = s.EC D := ⟨_, rfl⟩
                      rw [← hE0] at z2 hec
                      have HE0 : Hid (E = s.EC D) := hE0
                      have hE255 : E ≠ 255 := by rw [hE0]; exact hD0
                      have z3' : w10.cell? ⟨g, D * 4 + 3, none⟩ = some (.bool false) := by rw [z3, ← hE0]; congr 2; simpa using hE255
                      clear hE0 z3 hD0
                      cases gd with
                      | true =>
                        clear z3' f3
                        by_cases hc9 : c9 = 1
                        · subst hc9
                          have hm1 : t.qm D - s.LF D = 1 := by omega
                          have hsubA : subA (some ⟨b9, o9, none⟩) 1 1 = some ⟨b9, o9, none⟩ := rfl
                          have g1 : (1 : Int) ≤ ((t.qm D - s.LF D : Nat) : Int) := by omega
                          have HM1 : Hid (t.qm D - s.LF D = 1) := hm1
                          clear hm1
                          have HNx0 : Hid (NwP wM (w10.setCell ⟨g, D * 4, none⟩ (.slice (some ⟨b9, o9, none⟩) 0 (0))) g n (some ⟨g, 0, none⟩) t S (fun j => if j = D then s.LF j + 1 else s.LF j) s.EC (fun i => s.EC i == 255) LO HI) := by have h9 := HN10.out.s0 hDn hD1 z0; rw [hsubA, HM1.out] at h9; exact h9
                          have hOg0 := (Only.refl g w10).set (D * 4) (.slice (some ⟨b9, o9, none⟩) 0 (0))
                          clear hsubA
                          have z2' := (cell_oth (v := .slice (some ⟨b9, o9, none⟩) 0 (0)) (show D * 4 + 2 ≠ D * 4 by omega)).trans z2
                          have f2' : (w10.setCell ⟨g, D * 4, none⟩ (.slice (some ⟨b9, o9, none⟩) 0 (0))).frozen? ⟨g, D * 4 + 2, none⟩ = false := by simpa using f2
                          by_cases hE : 0 < E
                          · have HNx : Hid (NwP wM ((w10.setCell ⟨g, D * 4, none⟩ (.slice (some ⟨b9, o9, none⟩) 0 (0))).setCell ⟨g, D * 4 + 2, none⟩ (.int .i64 (E - 1))) g n (some ⟨g, 0, none⟩) t S _ _ _ LO HI) := HNx0.out.s2 hDn (E - 1)
                            have hOg := hOg0.set (D * 4 + 2) (.int .i64 (E - 1))
                            have HNf : Hid (NwP wM ((w10.setCell ⟨g, D * 4, none⟩ (.slice (some ⟨b9, o9, none⟩) 0 (0))).setCell ⟨g, D * 4 + 2, none⟩ (.int .i64 (E - 1))) g n (some ⟨g, 0, none⟩) t S (runS t n W sp (r + 1)).LF (runS t n W sp (r + 1)).EC (fun i => (runS t n W sp (r + 1)).EC i == 255) LO HI) := by
                              show NwP _ _ _ _ _ _ _ _ _ _ _ _
                              rw [HRUN.out, HE.out]
                              refine HNx.out.congr (fun i => ?_) (fun i hi => ?_) (fun i hi => ?_)
                              · simp only [snL]; by_cases c : i = D <;> simp [c]
                              · simp only []
                                by_cases c : i = D
                                · subst c; simp only [if_true]; rw [snE_good (by rw [← HE0.out]; exact hec), ← HE0.out, if_pos hE]
                                · simp only [if_neg c]
                              · simp only []
                                by_cases c : i = D
                                · subst c; simp only [if_true]; rw [snE_good (by rw [← HE0.out]; exact hec), ← HE0.out, if_pos hE, (show (E == 255) = false by simpa using hE255)]; symm; simp; omega
                                · simp only [if_neg c]
                            have HOf : Hid (OwS ((w10.setCell ⟨g, D * 4, none⟩ (.slice (some ⟨b9, o9, none⟩) 0 (0))).setCell ⟨g, D * 4 + 2, none⟩ (.int .i64 (E - 1))) wM.heap.size (.slice ya (l ++ [((r : Int), (D : Int), X, true)]).length yc) (l ++ [((r : Int), (D : Int), X, true)])) := HO10.out.same (fun b hb => hOg.block b (HVg.out b hb))
                            have HUf : Hid (IP ((w10.setCell ⟨g, D * 4, none⟩ (.slice (some ⟨b9, o9, none⟩) 0 (0))).setCell ⟨g, D * 4 + 2, none⟩ (.int .i64 (E - 1))) uq n (runS t n W sp (r + 1)).SE) := by
                              show IP _ _ _ _
                              rw [HRUN.out, HE.out]
                              refine (HU10.out.only hOg (fun e => HUg.out e.symm)).congr fun i hi => ?_
                              unfold put
                              simp only []
                              by_cases c : i = D
                              · subst c; simp
                              · simp [c]
                            have hzf : wM.heap.size < (((w10.setCell ⟨g, D * 4, none⟩ (.slice (some ⟨b9, o9, none⟩) 0 (0))).setCell ⟨g, D * 4 + 2, none⟩ (.int .i64 (E - 1)))).heap.size := by rw [hOg.size]; exact hz10
                            have HVf : Hid (wM.heap.size ≤ uq ∧ (Value.slice ya (l ++ [((r : Int), (D : Int), X, true)]).length yc).ownBlock ≠ some uq) := ⟨HUG4.out.1, HV10.out⟩
                            clear HNx HNx0 HN10 HO10 HU10 hOg hOg0 HVg HUg HV10
                            go_wp2_with fail
                            go_roundw
                            case rel => exact ⟨r + 1, l ++ [((r : Int), (D : Int), X, true)], uq, by omega, by go_num, rfl, by rw [HLN.out]; omega, ⟨_, _, rfl⟩, by show _ = (runS t n W sp (r + 1)).out; rw [HRUN.out, HE.out, HL.out], HOf, HUf, HVf, HNf, hzf⟩
                            case measure => simp [intOf]; omega
                          · have HNx := HNx0
                            have hOg := hOg0
                            have HNf : Hid (NwP wM (w10.setCell ⟨g, D * 4, none⟩ (.slice (some ⟨b9, o9, none⟩) 0 (0))) g n (some ⟨g, 0, none⟩) t S (runS t n W sp (r + 1)).LF (runS t n W sp (r + 1)).EC (fun i => (runS t n W sp (r + 1)).EC i == 255) LO HI) := by
                              show NwP _ _ _ _ _ _ _ _ _ _ _ _
                              rw [HRUN.out, HE.out]
                              refine HNx.out.congr (fun i => ?_) (fun i hi => ?_) (fun i hi => ?_)
                              · simp only [snL]; by_cases c : i = D <;> simp [c]
                              · simp only []
                                by_cases c : i = D
                                · subst c; simp only [if_true]; rw [snE_good (by rw [← HE0.out]; exact hec), ← HE0.out, if_neg hE]
                                · simp only [if_neg c]
                              · simp only []
                                by_cases c : i = D
                                · subst c; simp only [if_true]; rw [snE_good (by rw [← HE0.out]; exact hec), ← HE0.out, if_neg hE]
                                · simp only [if_neg c]
                            have HOf : Hid (OwS (w10.setCell ⟨g, D * 4, none⟩ (.slice (some ⟨b9, o9, none⟩) 0 (0))) wM.heap.size (.slice ya (l ++ [((r : Int), (D : Int), X, true)]).length yc) (l ++ [((r : Int), (D : Int), X, true)])) := HO10.out.same (fun b hb => hOg.block b (HVg.out b hb))
                            have HUf : Hid (IP (w10.setCell ⟨g, D * 4, none⟩ (.slice (some ⟨b9, o9, none⟩) 0 (0))) uq n (runS t n W sp (r + 1)).SE) := by
                              show IP _ _ _ _
                              rw [HRUN.out, HE.out]
                              refine (HU10.out.only hOg (fun e => HUg.out e.symm)).congr fun i hi => ?_
                              unfold put
                              simp only []
                              by_cases c : i = D
                              · subst c; simp
                              · simp [c]
                            have hzf : wM.heap.size < ((w10.setCell ⟨g, D * 4, none⟩ (.slice (some ⟨b9, o9, none⟩) 0 (0)))).heap.size := by rw [hOg.size]; exact hz10
                            have HVf : Hid (wM.heap.size ≤ uq ∧ (Value.slice ya (l ++ [((r : Int), (D : Int), X, true)]).length yc).ownBlock ≠ some uq) := ⟨HUG4.out.1, HV10.out⟩
                            clear HNx HNx0 HN10 HO10 HU10 hOg hOg0 HVg HUg HV10
                            go_wp2_with fail
                            go_roundw
                            case rel => exact ⟨r + 1, l ++ [((r : Int), (D : Int), X, true)], uq, by omega, by go_num, rfl, by rw [HLN.out]; omega, ⟨_, _, rfl⟩, by show _ = (runS t n W sp (r + 1)).out; rw [HRUN.out, HE.out, HL.out], HOf, HUf, HVf, HNf, hzf⟩
                            case measure => simp [intOf]; omega
                        · have hsubA : subA (some ⟨b9, o9, none⟩) c9 1 = some ⟨b9, o9 + 2, none⟩ := by unfold subA; rw [if_neg hc9, Option.map_some, Addr.add_lit]
                          have g1 : (1 : Int) ≤ ((t.qm D - s.LF D : Nat) : Int) := by omega
                          have g2 : ((t.qm D - s.LF D : Nat) : Int) ≤ (c9 : Int) := by omega
                          have HNx0 : Hid (NwP wM (w10.setCell ⟨g, D * 4, none⟩ (.slice (some ⟨b9, o9 + 2, none⟩) (t.qm D - s.LF D - 1) (c9 - 1))) g n (some ⟨g, 0, none⟩) t S (fun j => if j = D then s.LF j + 1 else s.LF j) s.EC (fun i => s.EC i == 255) LO HI) := by have h9 := HN10.out.s0 hDn hD1 z0; rw [hsubA] at h9; exact h9
                          have hOg0 := (Only.refl g w10).set (D * 4) (.slice (some ⟨b9, o9 + 2, none⟩) (t.qm D - s.LF D - 1) (c9 - 1))
                          clear hsubA
                          have z2' := (cell_oth (v := .slice (some ⟨b9, o9 + 2, none⟩) (t.qm D - s.LF D - 1) (c9 - 1)) (show D * 4 + 2 ≠ D * 4 by omega)).trans z2
                          have f2' : (w10.setCell ⟨g, D * 4, none⟩ (.slice (some ⟨b9, o9 + 2, none⟩) (t.qm D - s.LF D - 1) (c9 - 1))).frozen? ⟨g, D * 4 + 2, none⟩ = false := by simpa using f2
                          by_cases hE : 0 < E
                          · have HNx : Hid (NwP wM ((w10.setCell ⟨g, D * 4, none⟩ (.slice (some ⟨b9, o9 + 2, none⟩) (t.qm D - s.LF D - 1) (c9 - 1))).setCell ⟨g, D * 4 + 2, none⟩ (.int .i64 (E - 1))) g n (some ⟨g, 0, none⟩) t S _ _ _ LO HI) := HNx0.out.s2 hDn (E - 1)
                            have hOg := hOg0.set (D * 4 + 2) (.int .i64 (E - 1))
                            have HNf : Hid (NwP wM ((w10.setCell ⟨g, D * 4, none⟩ (.slice (some ⟨b9, o9 + 2, none⟩) (t.qm D - s.LF D - 1) (c9 - 1))).setCell ⟨g, D * 4 + 2, none⟩ (.int .i64 (E - 1))) g n (some ⟨g, 0, none⟩) t S (runS t n W sp (r + 1)).LF (runS t n W sp (r + 1)).EC (fun i => (runS t n W sp (r + 1)).EC i == 255) LO HI) := by
                              show NwP _ _ _ _ _ _ _ _ _ _ _ _
                              rw [HRUN.out, HE.out]
                              refine HNx.out.congr (fun i => ?_) (fun i hi => ?_) (fun i hi => ?_)
                              · simp only [snL]; by_cases c : i = D <;> simp [c]
                              · simp only []
                                by_cases c : i = D
                                · subst c; simp only [if_true]; rw [snE_good (by rw [← HE0.out]; exact hec), ← HE0.out, if_pos hE]
                                · simp only [if_neg c]
                              · simp only []
                                by_cases c : i = D
                                · subst c; simp only [if_true]; rw [snE_good (by rw [← HE0.out]; exact hec), ← HE0.out, if_pos hE, (show (E == 255) = false by simpa using hE255)]; symm; simp; omega
                                · simp only [if_neg c]
                            have HOf : Hid (OwS ((w10.setCell ⟨g, D * 4, none⟩ (.slice (some ⟨b9, o9 + 2, none⟩) (t.qm D - s.LF D - 1) (c9 - 1))).setCell ⟨g, D * 4 + 2, none⟩ (.int .i64 (E - 1))) wM.heap.size (.slice ya (l ++ [((r : Int), (D : Int), X, true)]).length yc) (l ++ [((r : Int), (D : Int), X, true)])) := HO10.out.same (fun b hb => hOg.block b (HVg.out b hb))
                            have HUf : Hid (IP ((w10.setCell ⟨g, D * 4, none⟩ (.slice (some ⟨b9, o9 + 2, none⟩) (t.qm D - s.LF D - 1) (c9 - 1))).setCell ⟨g, D * 4 + 2, none⟩ (.int .i64 (E - 1))) uq n (runS t n W sp (r + 1)).SE) := by
                              show IP _ _ _ _
                              rw [HRUN.out, HE.out]
                              refine (HU10.out.only hOg (fun e => HUg.out e.symm)).congr fun i hi => ?_
                              unfold put
                              simp only []
                              by_cases c : i = D
                              · subst c; simp
                              · simp [c]
                            have hzf : wM.heap.size < (((w10.setCell ⟨g, D * 4, none⟩ (.slice (some ⟨b9, o9 + 2, none⟩) (t.qm D - s.LF D - 1) (c9 - 1))).setCell ⟨g, D * 4 + 2, none⟩ (.int .i64 (E - 1)))).heap.size := by rw [hOg.size]; exact hz10
                            have HVf : Hid (wM.heap.size ≤ uq ∧ (Value.slice ya (l ++ [((r : Int), (D : Int), X, true)]).length yc).ownBlock ≠ some uq) := ⟨HUG4.out.1, HV10.out⟩
                            clear HNx HNx0 HN10 HO10 HU10 hOg hOg0 HVg HUg HV10
                            go_wp2_with fail
                            go_roundw
                            case rel => exact ⟨r + 1, l ++ [((r : Int), (D : Int), X, true)], uq, by omega, by go_num, rfl, by rw [HLN.out]; omega, ⟨_, _, rfl⟩, by show _ = (runS t n W sp (r + 1)).out; rw [HRUN.out, HE.out, HL.out], HOf, HUf, HVf, HNf, hzf⟩
                            case measure => simp [intOf]; omega
                          · have HNx := HNx0
                            have hOg := hOg0
                            have HNf : Hid (NwP wM (w10.setCell ⟨g, D * 4, none⟩ (.slice (some ⟨b9, o9 + 2, none⟩) (t.qm D - s.LF D - 1) (c9 - 1))) g n (some ⟨g, 0, none⟩) t S (runS t n W sp (r + 1)).LF (runS t n W sp (r + 1)).EC (fun i => (runS t n W sp (r + 1)).EC i == 255) LO HI) := by
                              show NwP _ _ _ _ _ _ _ _ _ _ _ _
                              rw [HRUN.out, HE.out]
                              refine HNx.out.congr (fun i => ?_) (fun i hi => ?_) (fun i hi => ?_)
                              · simp only [snL]; by_cases c : i = D <;> simp [c]
                              · simp only []
                                by_cases c : i = D
                                · subst c; simp only [if_true]; rw [snE_good (by rw [← HE0.out]; exact hec), ← HE0.out, if_neg hE]
                                · simp only [if_neg c]
                              · simp only []
                                by_cases c : i = D
                                · subst c; simp only [if_true]; rw [snE_good (by rw [← HE0.out]; exact hec), ← HE0.out, if_neg hE]
                                · simp only [if_neg c]
                            have HOf : Hid (OwS (w10.setCell ⟨g, D * 4, none⟩ (.slice (some ⟨b9, o9 + 2, none⟩) (t.qm D - s.LF D - 1) (c9 - 1))) wM.heap.size (.slice ya (l ++ [((r : Int), (D : Int), X, true)]).length yc) (l ++ [((r : Int), (D : Int), X, true)])) := HO10.out.same (fun b hb => hOg.block b (HVg.out b hb))
                            have HUf : Hid (IP (w10.setCell ⟨g, D * 4, none⟩ (.slice (some ⟨b9, o9 + 2, none⟩) (t.qm D - s.LF D - 1) (c9 - 1))) uq n (runS t n W sp (r + 1)).SE) := by
                              show IP _ _ _ _
                              rw [HRUN.out, HE.out]
                              refine (HU10.out.only hOg (fun e => HUg.out e.symm)).congr fun i hi => ?_
                              unfold put
                              simp only []
                              by_cases c : i = D
                              · subst c; simp
                              · simp [c]
                            have hzf : wM.heap.size < ((w10.setCell ⟨g, D * 4, none⟩ (.slice (some ⟨b9, o9 + 2, none⟩) (t.qm D - s.LF D - 1) (c9 - 1)))).heap.size := by rw [hOg.size]; exact hz10
                            have HVf : Hid (wM.heap.size ≤ uq ∧ (Value.slice ya (l ++ [((r : Int), (D : Int), X, true)]).length yc).ownBlock ≠ some uq) := ⟨HUG4.out.1, HV10.out⟩
                            clear HNx HNx0 HN10 HO10 HU10 hOg hOg0 HVg HUg HV10
                            go_wp2_with fail
                            go_roundw
                            case rel => exact ⟨r + 1, l ++ [((r : Int), (D : Int), X, true)], uq, by omega, by go_num, rfl, by rw [HLN.out]; omega, ⟨_, _, rfl⟩, by show _ = (runS t n W sp (r + 1)).out; rw [HRUN.out, HE.out, HL.out], HOf, HUf, HVf, HNf, hzf⟩
                            case measure => simp [intOf]; omega
                      | false =>
                        clear z0 f0
                        have HNa : Hid (NwP wM (w10.setCell ⟨g, D * 4 + 2, none⟩ (.int .i64 (E + 8))) g n (some ⟨g, 0, none⟩) t S _ _ _ LO HI) := HN10.out.s2 hDn (E + 8)
                        have hOa := (Only.refl g w10).set (D * 4 + 2) (.int .i64 (E + 8))
                        have z2a := cell_put (v := .int .i64 (E + 8)) z2
                        have z3a := (cell_oth (v := .int .i64 (E + 8)) (show D * 4 + 3 ≠ D * 4 + 2 by omega)).trans z3'
                        by_cases hE : 255 ≤ E + 8
                        · have HNx : Hid (NwP wM (((w10.setCell ⟨g, D * 4 + 2, none⟩ (.int .i64 (E + 8))).setCell ⟨g, D * 4 + 2, none⟩ (.int .i64 255)).setCell ⟨g, D * 4 + 3, none⟩ (.bool true)) g n (some ⟨g, 0, none⟩) t S _ _ _ LO HI) := (HNa.out.s2 hDn 255).s3 hDn true
                          have hOg := (hOa.set (D * 4 + 2) (.int .i64 255)).set (D * 4 + 3) (.bool true)
                          have HNf : Hid (NwP wM (((w10.setCell ⟨g, D * 4 + 2, none⟩ (.int .i64 (E + 8))).setCell ⟨g, D * 4 + 2, none⟩ (.int .i64 255)).setCell ⟨g, D * 4 + 3, none⟩ (.bool true)) g n (some ⟨g, 0, none⟩) t S (runS t n W sp (r + 1)).LF (runS t n W sp (r + 1)).EC (fun i => (runS t n W sp (r + 1)).EC i == 255) LO HI) := by
                            show NwP _ _ _ _ _ _ _ _ _ _ _ _
                            rw [HRUN.out, HE.out]
                            refine HNx.out.congr (fun i => ?_) (fun i hi => ?_) (fun i hi => ?_)
                            · simp only [snL]; by_cases c : i = D <;> simp [c]
                            · simp only []
                              by_cases c : i = D
                              · subst c; simp only [if_true]; rw [snE_bad (by rw [← HE0.out]; exact hec), ← HE0.out, if_pos hE]
                              · simp only [if_neg c]
                            · simp only []
                              by_cases c : i = D
                              · subst c; simp only [if_true]; rw [snE_bad (by rw [← HE0.out]; exact hec), ← HE0.out, if_pos hE]; rfl
                              · simp only [if_neg c]
                          have HOf : Hid (OwS (((w10.setCell ⟨g, D * 4 + 2, none⟩ (.int .i64 (E + 8))).setCell ⟨g, D * 4 + 2, none⟩ (.int .i64 255)).setCell ⟨g, D * 4 + 3, none⟩ (.bool true)) wM.heap.size (.slice ya (l ++ [((r : Int), (D : Int), X, false)]).length yc) (l ++ [((r : Int), (D : Int), X, false)])) := HO10.out.same (fun b hb => hOg.block b (HVg.out b hb))
                          have HUf : Hid (IP (((w10.setCell ⟨g, D * 4 + 2, none⟩ (.int .i64 (E + 8))).setCell ⟨g, D * 4 + 2, none⟩ (.int .i64 255)).setCell ⟨g, D * 4 + 3, none⟩ (.bool true)) uq n (runS t n W sp (r + 1)).SE) := by
                            show IP _ _ _ _
                            rw [HRUN.out, HE.out]
                            refine (HU10.out.only hOg (fun e => HUg.out e.symm)).congr fun i hi => ?_
                            unfold put
                            simp only []
                            by_cases c : i = D
                            · subst c; simp
                            · simp [c]
                          have hzf : wM.heap.size < ((((w10.setCell ⟨g, D * 4 + 2, none⟩ (.int .i64 (E + 8))).setCell ⟨g, D * 4 + 2, none⟩ (.int .i64 255)).setCell ⟨g, D * 4 + 3, none⟩ (.bool true))).heap.size := by rw [hOg.size]; exact hz10
                          have HVf : Hid (wM.heap.size ≤ uq ∧ (Value.slice ya (l ++ [((r : Int), (D : Int), X, false)]).length yc).ownBlock ≠ some uq) := ⟨HUG4.out.1, HV10.out⟩
                          clear HNx HNa HN10 HO10 HU10 hOg hOa HVg HUg HV10
                          go_wp2_with fail
                          go_roundw
                          case rel => exact ⟨r + 1, l ++ [((r : Int), (D : Int), X, false)], uq, by omega, by go_num, rfl, by rw [HLN.out]; omega, ⟨_, _, rfl⟩, by show _ = (runS t n W sp (r + 1)).out; rw [HRUN.out, HE.out, HL.out], HOf, HUf, HVf, HNf, hzf⟩
                          case measure => simp [intOf]; omega
                        · have HNx := HNa
                          have hOg := hOa
                          have HNf : Hid (NwP wM (w10.setCell ⟨g, D * 4 + 2, none⟩ (.int .i64 (E + 8))) g n (some ⟨g, 0, none⟩) t S (runS t n W sp (r + 1)).LF (runS t n W sp (r + 1)).EC (fun i => (runS t n W sp (r + 1)).EC i == 255) LO HI) := by
                            show NwP _ _ _ _ _ _ _ _ _ _ _ _
                            rw [HRUN.out, HE.out]
                            refine HNx.out.congr (fun i => ?_) (fun i hi => ?_) (fun i hi => ?_)
                            · simp only [snL]; by_cases c : i = D <;> simp [c]
                            · simp only []
                              by_cases c : i = D
                              · subst c; simp only [if_true]; rw [snE_bad (by rw [← HE0.out]; exact hec), ← HE0.out, if_neg hE]
                              · simp only [if_neg c]
                            · simp only []
                              by_cases c : i = D
                              · subst c; simp only [if_true]; rw [snE_bad (by rw [← HE0.out]; exact hec), ← HE0.out, if_neg hE, (show (E == 255) = false by simpa using hE255)]; symm; simp; omega
                              · simp only [if_neg c]
                          have HOf : Hid (OwS (w10.setCell ⟨g, D * 4 + 2, none⟩ (.int .i64 (E + 8))) wM.heap.size (.slice ya (l ++ [((r : Int), (D : Int), X, false)]).length yc) (l ++ [((r : Int), (D : Int), X, false)])) := HO10.out.same (fun b hb => hOg.block b (HVg.out b hb))
                          have HUf : Hid (IP (w10.setCell ⟨g, D * 4 + 2, none⟩ (.int .i64 (E + 8))) uq n (runS t n W sp (r + 1)).SE) := by
                            show IP _ _ _ _
                            rw [HRUN.out, HE.out]
                            refine (HU10.out.only hOg (fun e => HUg.out e.symm)).congr fun i hi => ?_
                            unfold put
                            simp only []
                            by_cases c : i = D
                            · subst c; simp
                            · simp [c]
                          have hzf : wM.heap.size < ((w10.setCell ⟨g, D * 4 + 2, none⟩ (.int .i64 (E + 8)))).heap.size := by rw [hOg.size]; exact hz10
                          have HVf : Hid (wM.heap.size ≤ uq ∧ (Value.slice ya (l ++ [((r : Int), (D : Int), X, false)]).length yc).ownBlock ≠ some uq) := ⟨HUG4.out.1, HV10.out⟩
                          clear HNx HNa HN10 HO10 HU10 hOg hOa HVg HUg HV10
                          go_wp2_with fail
                          go_roundw
                          case rel => exact ⟨r + 1, l ++ [((r : Int), (D : Int), X, false)], uq, by omega, by go_num, rfl, by rw [HLN.out]; omega, ⟨_, _, rfl⟩, by show _ = (runS t n W sp (r + 1)).out; rw [HRUN.out, HE.out, HL.out], HOf, HUf, HVf, HNf, hzf⟩
                          case measure => simp [intOf]; omega
        · have hre : r = R := by omega
          subst hre
          have HNQ : Hid (NqP wx g n (nwT t (runS t n W sp r).LF (runS t n W sp r).EC) (nwS S (runS t n W sp r).LF)) := HNW.out.nq
          have HNt : Hid (∀ i, i < n → ∀ j, j < (nwT t (runS t n W sp r).LF (runS t n W sp r).EC).qm i → (nwT t (runS t n W sp r).LF (runS t n W sp r).EC).N i j ≤ 1048576) := fun i hi j hj => HN.out i hi _ (by have h9 : j < t.qm i - (runS t n W sp r).LF i := hj; omega)
          have HNm : Hid (∀ i, i < n → (nwT t (runS t n W sp r).LF (runS t n W sp r).EC).qm i ≤ 1048576) := fun i hi => by have h9 := HQ.out i hi; show t.qm i - (runS t n W sp r).LF i ≤ 1048576; omega
          have HBx : Hid (Below w.heap.size w wx) := HBM.out.trans (HNW.out.tr.below hgw hbw)
          have HGw : Hid (∀ b, (Value.slice y l.length d).ownBlock = some b → 0 < n → b ≠ g) := fun b hb h0 e => by have h1 := (World.ownsRow.lt HO.out b hb).1; have h2 := HNW.out.lt h0; omega
          have HOR : Hid (OwS wx wM.heap.size (.slice y l.length d) (runS t n W sp r).out) := by show OwS _ _ _ _; rw [← HL.out]; exact HO.out
          have HLL : Hid (l = (runS t n W sp r).out) := HL
          clear HNW HO HU HUG hz HL HOK HSP HQ8 HN HQ
          generalize hnt : nwT t (runS t n W sp r).LF (runS t n W sp r).EC = t2 at *
          generalize hns : nwS S (runS t n W sp r).LF = S2 at *
          have HN2 : Hid (nwT t (runS t n W sp r).LF (runS t n W sp r).EC = t2 ∧ nwS S (runS t n W sp r).LF = S2) := ⟨hnt, hns⟩
          clear hnt hns
          have i1 : ¬ (r : Int) < (r : Int) := by omega
          go_wp2
          go_loopw [219] (fun i wz => ∃ k : Nat, k ≤ n ∧ i = .int .i64 (k : Int) ∧ Hid (NqP wz g n t2 S2) ∧ Hid (OwS wz wM.heap.size (.slice y l.length d) (runS t n W sp r).out) ∧ Below w.heap.size w wz) (fun i _ => n - (intOf i).toNat)
          case atStart => exact ⟨0, Nat.zero_le _, rfl, HNQ, HOR, HBx.out⟩
          case round =>
            obtain ⟨wz, rfl⟩ : ∃ x, x = wr := ⟨wr, rfl⟩
            obtain ⟨k, hk, rfl, HNz, HOz, hBz⟩ := hrel
            clear HNQ HOR HBx
            by_cases hltk : k < n
            · have hva := HVA.out (by omega)
              subst hva
              obtain ⟨qa, qc, z0, z1, z2, z3, hs, lo, hi, hF, hd⟩ := HNz.out.c k hltk
              have hgl := HNz.out.lt (by omega)
              have f0 := HNz.out.fz (by omega) (k * 4)
              obtain ⟨AA, CC, hFF⟩ := hF.ff
              have kF := l23Frs qa (t2.qm k) qc (t2.I k) AA (t2.N k) CC (S2 k) wz (HNm.out k hltk) (HNt.out k hltk) hFF
              have i0 : (0 : Int) ≤ (k : Int) := by omega
              have i2 : (k : Int) < (n : Int) := by omega
              clear z1 z2 z3 hF hFF hd hs
              obtain ⟨m, hm⟩ : ∃ m, m = t2.qm k := ⟨_, rfl⟩
              rw [← hm] at z0 kF
              have HM : Hid (m = t2.qm k) := hm
              clear hm
              go_wp2_with fail
              refine kF.mono ?_
              rintro e w5 ⟨a', c', rfl, hF5, hs5, hb5⟩
              have hN5 := HNz.out.on hb5
              have HN6 : Hid (NqP (w5.setCell ⟨g, k * 4, none⟩ (.slice a' m c')) g n t2 S2) := by
                have h9 := hN5.set hltk (a' := a') (c' := c') (by rw [← HM.out]; exact hs5) (by rw [← HM.out]; exact hF5) (.inr hgl)
                rw [← HM.out] at h9
                exact h9
              have hO5 := (Only.refl g w5).set (k * 4) (.slice a' m c')
              have HO6 : Hid (OwS (w5.setCell ⟨g, k * 4, none⟩ (.slice a' m c')) wM.heap.size (.slice y l.length d) (runS t n W sp r).out) := (HOz.out.on hb5).same fun b hb => hO5.block b (HGw.out b hb (by omega))
              have hB6 : Below w.heap.size w (w5.setCell ⟨g, k * 4, none⟩ (.slice a' m c')) := (stepA hBz hb5).trans (hO5.below.mono hgw)
              have f5 := (hb5.frozen (p := ⟨g, k * 4, none⟩) hgl).trans f0
              have z5 := (hb5.cell (p := ⟨g, k * 4, none⟩) hgl).trans z0
              have gl5 := Nat.lt_of_lt_of_le hgl hb5.size
              clear hN5 HNz HOz hBz hO5 hF5 hs5 kF hb5 z0 f0 hgl
              go_wp2
              exact ⟨⟨k + 1, by omega, by go_num, HN6, HO6, hB6⟩, by simp [intOf]; omega⟩
            · have hke : n = k := by omega
              subst hke
              have i3 : ¬ (n : Int) < (n : Int) := by omega
              go_wp2
              go_ret3
              obtain ⟨QA, QC, AA, CC, hTF⟩ := HNz.out.tf HVA.out
              obtain ⟨h1, h2⟩ := HN2.out
              subst h1 h2
              exact ⟨.inr ⟨HTB.out, _, _, _, _, QA, QC, AA, CC, rfl, HOz.out, hTF⟩, hBz⟩
end Go.Proofs.Ytldagjgpapnfpaa
