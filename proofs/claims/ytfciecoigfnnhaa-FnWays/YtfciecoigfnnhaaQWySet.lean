/- An opening is settled: its place is done, and what lies around it is opened. -/
import Derived.Test.YtfciecoigfnnhaaQWyCutT
import Derived.Test.YtfciecoigfnnhaaQClSFree
import Derived.BigRegion
import Derived.Deep.RegionHeld
import Derived.Deep.RegionHeld3
import Derived.Deep.RegionLaw
import Derived.Deep.CutRange
import Derived.Deep.Cut
namespace Go.Proofs.Ytfciecoigfnnhaa
open Go.RowKit

theorem below_u {w wx : World} {o : Obj} (h : wx = (w.drew.alloc o) ∨ wx = (w.alloc o).drew) : Below w.heap.size w wx := by
  rcases h with rfl | rfl
  · exact (Below.refl _ _).drew.alloc (Nat.le_refl _) o
  · exact ((Below.refl _ _).alloc (Nat.le_refl _) o).drew

set_option maxHeartbeats 4000000 in
set_option maxRecDepth 20000 in
theorem settle_no (base Sb Tb Mb : Nat) (W H : Int) (q : Option Addr) (n c m : Nat) (E : Nat → Og) (A B : Nat → Int) (L : Int → Bool) (y : Og) (w : World) (h : Sr w base Sb Tb Mb W H q n c m E A B L) (hx : (Lit.int .i64 y.p).wf = true) (hL : L y.p = false) :
    Calls Try.prog 80 #[.pointer (some ⟨Sb, 0, none⟩), ov y] w fun e w' => e = .returned (.tuple #[]) ∧ Below w.heap.size w w' := by
  have hb0 : Below w.heap.size w (w.alloc (.cells #[.int .i64 y.p, .int .i64 y.a, .int .i64 y.b] 117)) := (Below.refl _ _).alloc (Nat.le_refl _) _
  have bX := bx_new (w := w) (ovL y) 117 rfl
  have S1 := h.on hb0
  clear h
  go_enter Try.func80, Try.ntmps80
  go_upto_region 1 with fail
  generalize w.alloc (.cells #[.int .i64 y.p, .int .i64 y.a, .int .i64 y.b] 117) = w1 at bX S1 hb0 ⊢
  have hl1 := S1.drew.mb.look hx
  have hl2 := (S1.on (w' := (w1.alloc (.cells #[] 85)).drew) (below_u (.inr rfl))).mb.look hx
  rw [hL] at hl1 hl2
  have s4 := S1.s4
  have x0 := bX.c0
  have LX := bX.lt
  have LS : Sb < w1.heap.size := Nat.lt_of_lt_of_le S1.hs.sb S1.hs.le
  go_cut [4, 5] from 10 to 20 (fun _ s5 wx => s5 = .bool false ∧ Below w1.heap.size w1 wx)
  case first =>
    clear S1 bX
    go_region
    all_goals
      go_wp2_with fail
      go_meet
      case rel => exact ⟨rfl, by first | exact below_u (.inl rfl) | exact below_u (.inr rfl)⟩
  case rest =>
    obtain ⟨rfl, hbc⟩ := hcut
    have hB := stepA hb0 hbc
    clear hl1 hl2 s4 x0
    go_wp2
    first | go_end0 | refine bodyPost_ret (results_none rfl _ _ _) rfl ?_
    exact ⟨rfl, hB⟩

/-- the answer of settle where the place was not done yet -/
def AnsSe (w w' : World) (base Sb Tb Mb : Nat) (W H : Int) (q : Option Addr) (n c m : Nat) (A B TA TB : Nat → Int) (D : Nat → Bool) (L : Int → Bool) (st : Nat → Nat → Int) (tt : Nat) : Prop :=
  ∃ m' E' A' B', Sr w' base Sb Tb Mb W H q n c m' E' TA TB L ∧ HpOk m' E' ∧ m' ≤ m + 9 ∧ Dj st n tt A' B' D ∧ Op n A' B' D m' E' ∧ (∀ j, D j = true → A' j = A j ∧ B' j = B j) ∧ Sq Sb Tb Mb w w'
/-- what stands while the places around are opened -/
def LpS (w w1 wr : World) (base Sb Tb Mb : Nat) (W H : Int) (q : Option Addr) (n c m : Nat) (A B TA TB : Nat → Int) (D : Nat → Bool) (L : Int → Bool) (st : Nat → Nat → Int) (tt u0 : Nat) (l : List Int) (ya yb : Int) (X : Nat) (la : Option Addr) (j : Nat) : Prop :=
  ∃ m' E' A' B', Sr wr base Sb Tb Mb W H q n c m' E' TA TB L ∧ HpOk m' E' ∧ m' ≤ m + j ∧ Rx st n tt A' B' D u0 (fun k => ∃ t, t < j ∧ gl l t = (k : Int)) ∧ Op n A' B' D m' E' ∧ (∀ j, D j = true → A' j = A j ∧ B' j = B j) ∧ Sq Sb Tb Mb w wr ∧ Bx wr X [.int .i64 (u0 : Int), .int .i64 ya, .int .i64 yb] ∧ some X ≠ hO wr Sb ∧ (0 < l.length → ∃ b, la = some ⟨b, 0, none⟩ ∧ w1.heap.size ≤ b ∧ IP wr b l.length (gl l) ∧ some b ≠ hO wr Sb)
theorem gl_mem2 {l : List Int} {i : Nat} (h : i < l.length) : gl l i ∈ l := by
  unfold gl
  rw [List.getD_eq_getElem?_getD, List.getElem?_eq_getElem h]
  exact List.getElem_mem h
theorem mem_gl {l : List Int} {v : Int} (h : v ∈ l) : ∃ t, t < l.length ∧ gl l t = v := by
  obtain ⟨t, ht, e⟩ := List.getElem_of_mem h
  exact ⟨t, ht, by unfold gl; rw [List.getD_eq_getElem?_getD, List.getElem?_eq_getElem ht]; exact e⟩
theorem IP.sq {w w' : World} {Sb Tb Mb b n : Nat} {F : Nat → Int} (h : IP w b n F) (q : Sq Sb Tb Mb w w') (h1 : b ≠ Sb) (h2 : b ≠ Tb) (h3 : b ≠ Mb) (hn : some b ≠ hO w Sb) : IP w' b n F := by
  have e := q.keep b h.lt h1 h2 h3 hn
  exact ⟨Nat.lt_of_lt_of_le h.lt q.size, fun i hi => (cell_same e i).trans (h.c i hi), fun j => (frozen_same e j).trans (h.fz j)⟩

set_option maxHeartbeats 8000000 in
set_option maxRecDepth 20000 in
theorem settle_yes (base Sb Tb Mb B0 : Nat) (W H : Int) (q : Option Addr) (n c m : Nat) (E : Nat → Og) (A B TA TB TA2 TB2 : Nat → Int) (D : Nat → Bool) (L L2 : Int → Bool) (f : Nat → Int) (st : Nat → Nat → Int) (tt i : Nat) (ya yb : Int) (w : World) (hsz : sizedB W n = true) (hHe : H = hgt W n) (hTA : TA2 = put TA i ya) (hTB : TB2 = put TB i yb) (hL2 : ∀ z, L2 z = (L z && decide (z ≠ (i : Int)))) (hst0 : st = stN W n f) (h : Sr w base Sb Tb Mb W H q n c m E TA TB L) (hk : HpOk m E) (hmb : m ≤ 100000)
    (hf : IL w q n f) (hq : 0 < n → ∃ x o, q = some ⟨x, o, none⟩ ∧ x < B0) (g1 : B0 ≤ Sb) (g2 : B0 ≤ Tb) (g3 : B0 ≤ Mb) (hin : i < n) (hL : L (i : Int) = true) (hR : Rx st n tt A B D i (fun _ => False)) (hOp : Op n A B D m E) (ha : ya = A i) (hb : yb = B i) :
    Calls Try.prog 80 #[.pointer (some ⟨Sb, 0, none⟩), ov ⟨(i : Int), ya, yb⟩] w fun e w' => e = .returned (.tuple #[]) ∧ AnsSe w w' base Sb Tb Mb W H q n c m A B TA2 TB2 D L2 st tt := by
  have HHe : Hid (H = hgt W n) := hHe
  have HTA : Hid (TA2 = put TA i ya) := hTA
  have HTB : Hid (TB2 = put TB i yb) := hTB
  have HL3 : Hid (∀ z, L2 z = (L z && decide (z ≠ (i : Int)))) := hL2
  have HST0 : Hid (st = stN W n f) := hst0
  clear hHe hTA hTB hL2 hst0
  have hn2 := sized_le hsz
  have hx : (Lit.int .i64 (i : Int)).wf = true := wf_small (by omega) (by omega)
  have hb0 : Below w.heap.size w (w.alloc (.cells #[.int .i64 (i : Int), .int .i64 ya, .int .i64 yb] 117)) := (Below.refl _ _).alloc (Nat.le_refl _) _
  have bX := bx_new (w := w) [.int .i64 (i : Int), .int .i64 ya, .int .i64 yb] 117 rfl
  have S1 := h.on hb0
  have hsw : Sb < w.heap.size := Nat.lt_of_lt_of_le h.hs.sb h.hs.le
  have hXo : some w.heap.size ≠ hO w Sb := fun e => by have := (h.hs.own e).2; omega
  have hblt : base ≤ w.heap.size := h.hs.le
  have hsb := h.hs.sb
  have htb := h.t1
  have hmb1 := h.m1
  have hX1 : some w.heap.size ≠ hO (w.alloc (.cells #[.int .i64 (i : Int), .int .i64 ya, .int .i64 yb] 117)) Sb := by rw [hO_same (hb0.cell (p := ⟨Sb, 5, none⟩) hsw)]; exact hXo
  have Q1 : Sq Sb Tb Mb w (w.alloc (.cells #[.int .i64 (i : Int), .int .i64 ya, .int .i64 yb] 117)) := sq_below hb0 hsw
  have X1 := Q1.own
  have HS : Hid (Sr w base Sb Tb Mb W H q n c m E TA TB L) := h
  have HF : Hid (IL w q n f) := hf
  have HRX : Hid _ := hR
  have HOP : Hid (Op n A B D m E) := hOp
  have HK : Hid (HpOk m E) := hk
  have HA : Hid (ya = A i) := ha
  have HB : Hid (yb = B i) := hb
  clear h hf hR hOp hk ha hb
  go_enter Try.func80, Try.ntmps80
  go_upto_region 1 with fail
  generalize w.alloc (.cells #[.int .i64 (i : Int), .int .i64 ya, .int .i64 yb] 117) = w1 at bX S1 hb0 Q1 hX1 ⊢
  have hl1 := S1.drew.mb.look hx
  have hl2 := (S1.on (w' := (w1.alloc (.cells #[] 85)).drew) (below_u (.inr rfl))).mb.look hx
  rw [hL] at hl1 hl2
  have s4 := S1.s4
  have x0 := bX.c0
  have LX := bX.lt
  have LS : Sb < w1.heap.size := Nat.lt_of_lt_of_le S1.hs.sb S1.hs.le
  have HS1 : Hid _ := S1
  have HBX : Hid _ := bX
  clear S1 bX
  go_cut [4, 5] from 10 to 20 (fun _ s5 wx => s5 = .bool true ∧ Below w1.heap.size w1 wx)
  case first =>
    go_region
    all_goals
      go_wp2_with fail
      go_meet
      case rel => exact ⟨rfl, by first | exact below_u (.inl rfl) | exact below_u (.inr rfl)⟩
  case rest =>
  obtain ⟨rfl, hbc⟩ := hcut
  have S2 := HS1.out.on hbc
  have b2 := HBX.out.on hbc
  have Q2 := Q1.trans (sq_below hbc (Nat.lt_of_lt_of_le hsw hb0.size))
  have hX2 : some w.heap.size ≠ hO wc Sb := (sq_below (Tb := Tb) (Mb := Mb) hbc (Nat.lt_of_lt_of_le hsw hb0.size)).apart LX hX1
  clear hl1 hl2 s4 x0 HS1 HBX Q1 hbc hb0 LX LS
  rename_i u4
  generalize wc = w2 at *
  have s4 := S2.s4
  have x0 := b2.c0
  have LX := b2.lt
  have LS : Sb < w2.heap.size := Nat.lt_of_lt_of_le S2.hs.sb S2.hs.le
  have HS2 : Hid _ := S2
  have HB2 : Hid _ := b2
  have HQ2 : Hid _ := Q2
  clear S2 b2 Q2
  go_upto_region 3 with fail
  go_cut [0] from 22 to 28 (fun s wx => s = .pointer (some ⟨Sb, 0, none⟩) ∧ w2.drew.grownBy wx (some Mb) ∧ LM wx Mb n L2)
  case first =>
    go_region_law (obtain ⟨w3, hdel, hLM, hturn⟩ := (Sr.drew HS2.out).mb.drop hx 0; refine step_delete rfl (.tmp 25) (.tmp 27) rfl (by simp [Act.eval]) (by simp [Act.eval]) hdel ?_)
    all_goals
      go_wp2_with fail
      go_meet
      case rel => exact ⟨rfl, hturn.grown, hLM.congr (fun z => (HL3.out z).symm)⟩
  case rest =>
  obtain ⟨rfl, hgr, hLM⟩ := hcut
  clear s4 x0
  obtain ⟨S3, Q3'⟩ := (Sr.drew HS2.out).left hgr hLM
  have Q3 := (Sq.drew HQ2.out).trans Q3'
  have b3 := Bx.sq (bx_drew HB2.out) Q3' (by omega) (by omega) (by omega) hX2
  have hX3 : some w.heap.size ≠ hO wc Sb := Q3'.apart LX hX2
  generalize wc = w3 at *
  clear hgr hLM Q3' LX LS HS2 HB2 HQ2 hX2
  have s3 := S3.s3
  have x0 := b3.c0
  have x1 := b3.c1
  have x2 := b3.c2
  have t0 := S3.tb.c (i * 2) (by omega)
  have t1 := S3.tb.c (i * 2 + 1) (by omega)
  have f0 := S3.tb.fz (i * 2)
  have f1 := S3.tb.fz (i * 2 + 1)
  have j0 : (0 : Int) ≤ (i : Int) := by omega
  have j1 : (i : Int) < (n : Int) := by omega
  have HS3 : Hid _ := S3
  have LT := S3.tb.lt
  have LX := b3.lt
  have LS : Sb < w3.heap.size := Nat.lt_of_lt_of_le S3.hs.sb S3.hs.le
  have HB3 : Hid _ := b3
  have HQ3 : Hid _ := Q3
  clear S3 b3 Q3
  go_upto_region 4 with fail
  go_cut [0] from 28 to 37 (fun s wx => s = .pointer (some ⟨Sb, 0, none⟩) ∧ Sr wx base Sb Tb Mb W H q n c m E TA2 TB2 L2 ∧ Sq Sb Tb Mb w3 wx)
  case first =>
    go_region
    go_wp2_with fail
    go_meet
    case rel => exact ⟨rfl, by rw [HTA.out, HTB.out]; exact Sr.drew (Sr.toll HS3.out hin ya yb).1, Sq.drew (Sr.toll HS3.out hin ya yb).2⟩
  case rest =>
  obtain ⟨rfl, S4, Q4'⟩ := hcut
  have b4 := Bx.sq HB3.out Q4' (by omega) (by omega) (by omega) hX3
  have hX4 : some w.heap.size ≠ hO wc Sb := Q4'.apart LX hX3
  have Q4 := Sq.trans HQ3.out Q4'
  generalize wc = w4 at *
  clear s3 x0 x1 x2 t0 t1 f0 f1 HS3 HB3 HQ3 Q4' hX3 LT LX LS
  have ka := fun w => around_any W q n c (i : Int) w hsz (by omega) j1
  rw [← HHe.out] at ka
  have HL1 : Hid (∀ v, v ∈ aqK W n (i : Int) 9 → 0 ≤ v ∧ v < (n : Int)) := fun v hv => aq_all hsz hv
  have HL2 : Hid (∀ k : Nat, k < n → st i k ≠ 0 → (k : Int) ∈ aqK W n (i : Int) 9) := fun k _ hs => aq_step hsz (by rw [HST0.out] at hs; exact hs)
  have hl9 := aqK_len W n (i : Int) 9
  generalize aqK W n (i : Int) 9 = l at *
  have s0 := S4.s0
  have s1 := S4.s1
  have s2 := S4.s2
  have x0 := b4.c0
  have LX := b4.lt
  have LS : Sb < w4.heap.size := Nat.lt_of_lt_of_le S4.hs.sb S4.hs.le
  have HS4 : Hid (Sr w4 base Sb Tb Mb W H q n c m E TA2 TB2 L2) := S4
  have HB4 : Hid _ := b4
  have HQ4 : Hid (Sq Sb Tb Mb w w4) := Q4
  clear S4 b4 Q4
  have ks0 := fun a b w h => stepToll_any W q n c f a b w hsz h
  rw [← HHe.out] at ks0
  have hst : Hid (∀ k : Nat, stepV W n f (k : Int) (i : Int) = st i k) := fun k => (by rw [HST0.out]; exact stN_sy W n f k i : _ = _)
  have hst2 : Hid (∀ k, st i k = 0 ∨ st i k = 1 ∨ st i k = 2) := fun k => (by rw [HST0.out]; exact stN_in W n f i k : _ ∨ _ ∨ _)
  have hsy : Hid (∀ a b, st a b = st b a) := fun a b => (by rw [HST0.out]; exact stN_sy W n f a b : _ = _)
  have hw0 := Below.refl w4.heap.size w4
  go_upto_region 5 with fail
  refine wp_region_held (S := fun w' => w'.cell? ⟨Sb, 0, none⟩ = some (.int .i64 W) ∧ w'.cell? ⟨Sb, 1, none⟩ = some (.int .i64 H) ∧ w'.cell? ⟨Sb, 2, none⟩ = some (.slice q n c) ∧ w'.cell? ⟨w.heap.size, 0, none⟩ = some (.int .i64 (i : Int))) (by kernel_rfl) ?_
  change wpAnyH _ _ _ _ _ _ _ _ (World.drew _)
  have hSw := (⟨(Below.cell (p := ⟨Sb, 0, none⟩) hw0.drew LS).trans s0, (Below.cell (p := ⟨Sb, 1, none⟩) hw0.drew LS).trans s1, (Below.cell (p := ⟨Sb, 2, none⟩) hw0.drew LS).trans s2, (Below.cell (p := ⟨w.heap.size, 0, none⟩) hw0.drew LX).trans x0⟩ : _ ∧ _ ∧ _ ∧ _)
  refine wpAnyH_take (i := 0) (v := .pointer (some ⟨Sb, 0, none⟩)) rfl (by kernel_rfl) (by kernel_rfl) (by kernel_rfl) (fun _ _ _ h => h) (Or.inl ⟨by rfl, ?_⟩) hSw ?_
  · intro wz hsz
    obtain ⟨z0, z1, z2, z3⟩ := hsz
    go_simp
  try simp [Act.put]
  refine wpAnyH_take (i := 1) (v := .pointer (some ⟨Sb, 0, none⟩)) rfl (by kernel_rfl) (by kernel_rfl) (by kernel_rfl) (fun _ _ _ h => h) (Or.inl ⟨by rfl, ?_⟩) hSw ?_
  · intro wz hsz
    obtain ⟨z0, z1, z2, z3⟩ := hsz
    go_simp
  try simp [Act.put]
  refine wpAnyH_take (i := 2) (v := .pointer (some ⟨Sb, 0, none⟩)) rfl (by kernel_rfl) (by kernel_rfl) (by kernel_rfl) (fun _ _ _ h => h) (Or.inl ⟨by rfl, ?_⟩) hSw ?_
  · intro wz hsz
    obtain ⟨z0, z1, z2, z3⟩ := hsz
    go_simp
  try simp [Act.put]
  refine wpAnyH_take (i := 3) (v := gr W H q n c) rfl (by kernel_rfl) (by kernel_rfl) (by kernel_rfl) (fun _ _ _ h => h) (Or.inl ⟨by rfl, ?_⟩) hSw ?_
  · intro wz hsz
    obtain ⟨z0, z1, z2, z3⟩ := hsz
    go_simp
  try simp [Act.put]
  refine wpAnyH_take (i := 4) (v := .pointer (some ⟨w.heap.size, 0, none⟩)) rfl (by kernel_rfl) (by kernel_rfl) (by kernel_rfl) (fun _ _ _ h => h) (Or.inl ⟨by rfl, ?_⟩) hSw ?_
  · intro wz hsz
    obtain ⟨z0, z1, z2, z3⟩ := hsz
    go_simp
  try simp [Act.put]
  refine wpAnyH_take (i := 5) (v := .int .i64 (i : Int)) rfl (by kernel_rfl) (by kernel_rfl) (by kernel_rfl) (fun _ _ _ h => h) (Or.inl ⟨by rfl, ?_⟩) hSw ?_
  · intro wz hsz
    obtain ⟨z0, z1, z2, z3⟩ := hsz
    go_simp
  try simp [Act.put]
  refine wpAnyH_take (i := 8) (v := .int .i64 0) rfl (by kernel_rfl) (by kernel_rfl) (by kernel_rfl) (fun _ _ _ h => h) (Or.inl ⟨by rfl, ?_⟩) hSw ?_
  · intro wz hsz
    obtain ⟨z0, z1, z2, z3⟩ := hsz
    go_simp
  try simp [Act.put]
  refine wpAnyH_ready (rs := [6]) (by kernel_rfl) (by simp) ?_
  refine AllReadyH.cons rfl (fun K hK => ?_) AllReadyH.nil
  go_simp
  go_wp2_with (first | (go_at_call 102; refine (ka _).mono ?_; rintro e9 w6 ⟨⟨la, lc, rfl, hLQ⟩, hb6⟩; have hw1 := stepA hw0.drew hb6; clear hb6) | (fail))
  refine hK.out _ _ (⟨(Below.cell (p := ⟨Sb, 0, none⟩) hw1 LS).trans s0, (Below.cell (p := ⟨Sb, 1, none⟩) hw1 LS).trans s1, (Below.cell (p := ⟨Sb, 2, none⟩) hw1 LS).trans s2, (Below.cell (p := ⟨w.heap.size, 0, none⟩) hw1 LX).trans x0⟩) (fun hSn => ?_)
  clear hK K hSw
  have hSw := hSn
  clear hSn
  try simp [Act.put]
  refine wpAnyH_take (i := 7) (v := .int .i64 (l.length : Int)) rfl (by kernel_rfl) (by kernel_rfl) (by kernel_rfl) (fun _ _ _ h => h) (Or.inl ⟨by rfl, ?_⟩) hSw ?_
  · intro wz hsz
    obtain ⟨z0, z1, z2, z3⟩ := hsz
    go_simp
  try simp [Act.put]
  refine wpAnyH_done (by kernel_rfl) ?_ _
  have S6 := Sr.on HS4.out hw1
  have b6 := Bx.on HB4.out hw1
  have hX6 : some w.heap.size ≠ hO w6 Sb := (sq_below (Tb := Tb) (Mb := Mb) hw1 LS).apart LX hX4
  have Q6 := Sq.trans HQ4.out (sq_below hw1 LS)
  have hl6 : 0 < l.length → ∃ b, la = some ⟨b, 0, none⟩ ∧ w4.heap.size ≤ b ∧ IP w6 b l.length (gl l) ∧ some b ≠ hO w6 Sb := fun h0 => by
    obtain ⟨b, e1, e2, _, e4⟩ := hLQ h0
    refine ⟨b, e1, e2, e4, fun e => ?_⟩
    have e5 : hO w6 Sb = hO w4 Sb := hO_same (hw1.cell (p := ⟨Sb, 5, none⟩) LS)
    rw [e5] at e
    have := (Sr.hs HS4.out).own e
    have e6 : w4.drew.heap.size = w4.heap.size := rfl
    omega
  have HLP : Hid (LpS w w4 w6 base Sb Tb Mb W H q n c m A B TA2 TB2 D L2 st tt i l ya yb w.heap.size la 0) := (⟨m, E, A, B, S6, HK.out, by omega, Rx.weak HRX.out (fun k ⟨t, ht, _⟩ => by omega), HOP.out, fun _ _ => ⟨rfl, rfl⟩, Q6, b6, hX6, hl6⟩ : LpS _ _ _ _ _ _ _ _ _ _ _ _ _ _ _ _ _ _ _ _ _ _ _ _ _ _ _ _)
  have hbw4 : base ≤ w4.heap.size := Nat.le_trans hblt (Sq.size HQ4.out)
  have HBa : Hid (0 ≤ A i ∧ A i ≤ 256 ∧ 0 ≤ B i ∧ B i ≤ 256) := (by
    have r := HRX.out
    have d0 := r.d0
    have a0 := (r.rel i d0.2 d0.1).1
    have b0 := r.bnd i d0.2 a0
    have := cntD_le D n
    omega : _ ∧ _ ∧ _ ∧ _)
  have HD0 : Hid (D i = true) := (Rx.d0 HRX.out).1
  clear hLQ S6 b6 hX6 Q6 hl6 s0 s1 s2 x0 LX LS HS4 HB4 hX4 hw0 ka
  go_wp2
  go_loopw [45] (fun s wr => ∃ j : Nat, j ≤ l.length ∧ s = .int .i64 (j : Int) ∧ LpS w w4 wr base Sb Tb Mb W H q n c m A B TA2 TB2 D L2 st tt i l ya yb w.heap.size la j) (fun s _ => l.length - (intOf s).toNat)
  case atStart => exact ⟨0, by omega, rfl, HLP.out⟩
  case round =>
    obtain ⟨j, hj, rfl, hlp⟩ := hrel
    clear HLP HRX HOP HK
    obtain ⟨m', E', A', B', S, hok, hm9, hR, hOp, hag, hQ, bX, hXo2, hli⟩ := hlp
    by_cases hlt : j < l.length
    · obtain ⟨lb, rfl, hlb, hPl, hlo⟩ := hli (by omega)
      have hv := HL1.out (gl l j) (gl_mem2 hlt)
      obtain ⟨k, hkv⟩ := Int.eq_ofNat_of_zero_le hv.1
      have hkn : k < n := by omega
      have g0 := hPl.c j hlt
      rw [hkv] at g0
      have j9 : (j : Int) < (l.length : Int) := by omega
      have j8 : (0 : Int) ≤ (j : Int) := by omega
      have s0 := S.s0
      have s1 := S.s1
      have s2 := S.s2
      have x0 := bX.c0
      have LX := bX.lt
      have LP := hPl.lt
      have LS : Sb < wr.heap.size := Nat.lt_of_lt_of_le S.hs.sb S.hs.le
      have hFr := il_b0 HF.out hq (hQ.below (HS.out : Sr w base Sb Tb Mb W H q n c m E TA TB L).hs g1 g2 g3)
      have ks := fun w h => ks0 (k : Int) (i : Int) w h
      rw [hst.out k] at ks
      have hin3 := hst2.out k
      have HSX : Hid (Sr wr base Sb Tb Mb W H q n c m' E' TA2 TB2 L2) := S
      have HBX : Hid (Bx wr w.heap.size [.int .i64 (i : Int), .int .i64 ya, .int .i64 yb]) := bX
      have HPL : Hid (IP wr lb l.length (gl l)) := hPl
      have HOK : Hid (HpOk m' E') := hok
      have HRX : Hid (Rx st n tt A' B' D i (fun k => ∃ t, t < j ∧ gl l t = (k : Int))) := hR
      have HOP : Hid (Op n A' B' D m' E') := hOp
      have HAG : Hid (∀ j, D j = true → A' j = A j ∧ B' j = B j) := hag
      have HQW : Hid (Sq Sb Tb Mb w wr) := hQ
      have HKV : Hid (gl l j = (k : Int)) := hkv
      have HSN : Hid (∀ (A9 B9 : Nat → Int), Rx st n tt A9 B9 D i (fun x => (∃ t, t < j ∧ gl l t = (x : Int)) ∨ x = k) → Rx st n tt A9 B9 D i (fun x => ∃ t, t < j + 1 ∧ gl l t = (x : Int))) := fun A9 B9 h => (h.weak (fun x ⟨t, ht, e⟩ => by
        by_cases e1 : t < j
        · exact .inl ⟨t, e1, e⟩
        · have e2 : t = j := by omega
          subst e2
          rw [HKV.out] at e
          exact .inr (by omega)) : Rx _ _ _ _ _ _ _ _)
      clear S bX hPl hok hR hOp hag hQ hli hkv ks0 hv
      generalize hvv : st i k = v at ks hin3
      have HVV : Hid (st i k = v) := hvv
      clear hvv
      have hv1 : 0 ≤ stA v ∧ stA v ≤ 1 := by unfold stA; split <;> omega
      have hv2 : 0 ≤ stC v ∧ stC v ≤ 1 := by unfold stC; split <;> omega
      have hvq : Hid (decide (v ≠ 0) = true → v ≠ 0) := fun h => of_decide_eq_true h
      have hvr : Hid (decide (v ≠ 0) = false → v = 0) := fun h => (by simpa using h : v = 0)
      have HVA : Hid (v ≠ 0 → ∀ a, a + stA v = nxA v a) := fun h a => (by unfold stA nxA; split <;> omega : _ = _)
      have HVB : Hid (v ≠ 0 → ∀ b, b + stC v = nxB v b) := fun h b => (by rcases hin3 with e | e | e <;> subst e <;> simp [stC, nxB] at * : _ = _)
      generalize stA v = va at *
      generalize stC v = vb at *
      generalize decide (v ≠ 0) = vq at *
      have hw0 := Below.refl wr.heap.size wr
      go_upto_region 8 with fail
      go_cut [8, 9] from 49 to 60 (fun s1 s2 wx => CutT wr wx va vb vq s1 s2)
      case first =>
        go_region_held3 (fun w' => w'.cell? ⟨Sb, 0, none⟩ = some (.int .i64 W) ∧ w'.cell? ⟨Sb, 1, none⟩ = some (.int .i64 H) ∧ w'.cell? ⟨Sb, 2, none⟩ = some (.slice q n c) ∧ w'.cell? ⟨w.heap.size, 0, none⟩ = some (.int .i64 (i : Int)))
          (first | (exact ⟨(Below.cell (p := ⟨Sb, 0, none⟩) hw0.drew LS).trans s0, (Below.cell (p := ⟨Sb, 1, none⟩) hw0.drew LS).trans s1, (Below.cell (p := ⟨Sb, 2, none⟩) hw0.drew LS).trans s2, (Below.cell (p := ⟨w.heap.size, 0, none⟩) hw0.drew LX).trans x0⟩) | (exact ⟨(Below.cell (p := ⟨Sb, 0, none⟩) hw1 LS).trans s0, (Below.cell (p := ⟨Sb, 1, none⟩) hw1 LS).trans s1, (Below.cell (p := ⟨Sb, 2, none⟩) hw1 LS).trans s2, (Below.cell (p := ⟨w.heap.size, 0, none⟩) hw1 LX).trans x0⟩) | (exact ⟨(Below.cell (p := ⟨Sb, 0, none⟩) ((hw0.alloc (Nat.le_refl _) _).drew) LS).trans s0, (Below.cell (p := ⟨Sb, 1, none⟩) ((hw0.alloc (Nat.le_refl _) _).drew) LS).trans s1, (Below.cell (p := ⟨Sb, 2, none⟩) ((hw0.alloc (Nat.le_refl _) _).drew) LS).trans s2, (Below.cell (p := ⟨w.heap.size, 0, none⟩) ((hw0.alloc (Nat.le_refl _) _).drew) LX).trans x0⟩) | (exact ⟨(Below.cell (p := ⟨Sb, 0, none⟩) (hw1.alloc hw1.size _) LS).trans s0, (Below.cell (p := ⟨Sb, 1, none⟩) (hw1.alloc hw1.size _) LS).trans s1, (Below.cell (p := ⟨Sb, 2, none⟩) (hw1.alloc hw1.size _) LS).trans s2, (Below.cell (p := ⟨w.heap.size, 0, none⟩) (hw1.alloc hw1.size _) LX).trans x0⟩) | (exact ⟨(Below.cell (p := ⟨Sb, 0, none⟩) (bSt hw1 (Nat.le_refl _)) LS).trans s0, (Below.cell (p := ⟨Sb, 1, none⟩) (bSt hw1 (Nat.le_refl _)) LS).trans s1, (Below.cell (p := ⟨Sb, 2, none⟩) (bSt hw1 (Nat.le_refl _)) LS).trans s2, (Below.cell (p := ⟨w.heap.size, 0, none⟩) (bSt hw1 (Nat.le_refl _)) LX).trans x0⟩) | (fail))
          (first | (go_at_call 51; refine (ks _ (hFr.below (by first | exact hw0.drew | exact (hw0.alloc (Nat.le_refl _) _).drew))).mono ?_; rintro e9 w5 ⟨rfl, hbn⟩; (first | (have hw1 := stepA hw0.drew hbn; have tk := hbn) | (have tk := below_al ((Below.refl _ _).drew.trans hbn); have hw1 := stepA hw0 tk; have nb := (bx_new (b := wr.heap.size) (w := wr) [.int .i64 0, .int .i64 0] 88 rfl).on ((Below.refl _ _).drew.trans hbn))); clear hbn; (try (have p0 := nb.c0; have p1 := nb.c1; have q0 := nb.fz 0; have q1 := nb.fz 1))) | (fail))
        all_goals
          go_wp2_with fail
          go_meet
          case rel =>
            first
            | exact ⟨_, rfl, rfl, hw1.size, bx_new _ _ rfl, hw1.alloc hw1.size _⟩
            | exact ⟨_, rfl, rfl, Nat.le_refl _, (nb.set 0 (by simp) _).set 1 (by simp) _, bSt hw1 (Nat.le_refl _)⟩
      case rest =>
        obtain ⟨tb, rfl, rfl, htb2, bT, hbs⟩ := hcut
        have S9 := Sr.on HSX.out hbs
        have b9 := Bx.on HBX.out hbs
        have p9 := IP.below HPL.out hbs LP
        have q9 := sq_below (Tb := Tb) (Mb := Mb) hbs LS
        have hX9 : some w.heap.size ≠ hO wc Sb := q9.apart LX hXo2
        have hl9' : some lb ≠ hO wc Sb := q9.apart LP hlo
        have Q9 := Sq.trans HQW.out q9
        have htO : some tb ≠ hO wc Sb := fun e => by
          rw [hO_same (hbs.cell (p := ⟨Sb, 5, none⟩) LS)] at e
          have := ((HSX.out : Sr wr base Sb Tb Mb W H q n c m' E' TA2 TB2 L2).hs.own e).2
          omega
        have hwb : base ≤ wr.heap.size := (HSX.out : Sr wr base Sb Tb Mb W H q n c m' E' TA2 TB2 L2).hs.le
        clear s0 s1 s2 x0 g0 ks hFr hw0 HSX HBX HPL HQW q9
        cases vq with
        | false =>
          have v0 := hvr.out rfl
          have HLP : Hid (LpS w w4 wc base Sb Tb Mb W H q n c m A B TA2 TB2 D L2 st tt i l ya yb w.heap.size (some ⟨lb, 0, none⟩) (j + 1)) := (⟨m', E', A', B', S9, HOK.out, by omega, HSN.out A' B' (Rx.skip HRX.out (fun _ hs => absurd (HVV.out.trans v0) hs)), HOP.out, HAG.out, Q9, b9, hX9, fun _ => ⟨lb, rfl, hlb, p9, hl9'⟩⟩ : LpS _ _ _ _ _ _ _ _ _ _ _ _ _ _ _ _ _ _ _ _ _ _ _ _ _ _ _ _)
          clear S9 b9 p9 Q9 hX9 hl9' HOK HRX HOP HAG bT hvq hvr HVA HVB v0 HSN HVV
          go_wp2
          exact ⟨⟨j + 1, by omega, by go_num, HLP.out⟩, by simp [intOf]; omega⟩
        | true =>
          have v0 := hvq.out rfl
          have hBa := HBa.out
          have hya := HA.out
          have hyb := HB.out
          have kpl := fun w => tplus_any ya yb va vb w (by omega) (by omega) (by omega) (by omega)
          have kput := fun w h => put_any base Sb m' E' ⟨(k : Int), ya + va, yb + vb⟩ w h HOK.out ⟨by simp only; omega, by simp only; omega, by simp only; omega, by simp only; omega⟩ (by omega)
          have x1 := b9.c1
          have x2 := b9.c2
          have t0 := bT.c0
          have t1 := bT.c1
          have LX9 := b9.lt
          have LT9 := bT.lt
          have LP9 := p9.lt
          have LS9 : Sb < wc.heap.size := Nat.lt_of_lt_of_le S9.hs.sb S9.hs.le
          clear hBa hya hyb hvq hvr
          have HS9 : Hid (Sr wc base Sb Tb Mb W H q n c m' E' TA2 TB2 L2) := S9
          have HB9 : Hid (Bx wc w.heap.size [.int .i64 (i : Int), .int .i64 ya, .int .i64 yb]) := b9
          have HT9 : Hid (Bx wc tb [.int .i64 va, .int .i64 vb]) := bT
          have HP9 : Hid (IP wc lb l.length (gl l)) := p9
          have HQ9 : Hid (Sq Sb Tb Mb w wc) := Q9
          clear S9 b9 bT p9 Q9
          have hw0 := Below.refl wc.heap.size wc
          go_upto_region 10 with fail
          refine wp_region_held (S := fun w' => w'.cell? ⟨w.heap.size, 1, none⟩ = some (.int .i64 ya) ∧ w'.cell? ⟨w.heap.size, 2, none⟩ = some (.int .i64 yb) ∧ w'.cell? ⟨tb, 0, none⟩ = some (.int .i64 va) ∧ w'.cell? ⟨tb, 1, none⟩ = some (.int .i64 vb)) (by kernel_rfl) ?_
          change wpAnyH _ _ _ _ _ _ _ _ (World.drew _)
          have hSw := (⟨(Below.cell (p := ⟨w.heap.size, 1, none⟩) hw0.drew LX9).trans x1, (Below.cell (p := ⟨w.heap.size, 2, none⟩) hw0.drew LX9).trans x2, (Below.cell (p := ⟨tb, 0, none⟩) hw0.drew LT9).trans t0, (Below.cell (p := ⟨tb, 1, none⟩) hw0.drew LT9).trans t1⟩ : _ ∧ _ ∧ _ ∧ _)
          refine wpAnyH_take (i := 0) (v := .pointer (some ⟨Sb, 0, none⟩)) rfl (by kernel_rfl) (by kernel_rfl) (by kernel_rfl) (fun _ _ _ h => h) (Or.inl ⟨by rfl, ?_⟩) hSw ?_
          · intro wz hsz
            obtain ⟨z0, z1, z2, z3⟩ := hsz
            go_simp
          try simp [Act.put]
          refine wpAnyH_take (i := 1) (v := .pointer (some ⟨Sb, 0, none⟩)) rfl (by kernel_rfl) (by kernel_rfl) (by kernel_rfl) (fun _ _ _ h => h) (Or.inl ⟨by rfl, ?_⟩) hSw ?_
          · intro wz hsz
            obtain ⟨z0, z1, z2, z3⟩ := hsz
            go_simp
          try simp [Act.put]
          refine wpAnyH_take (i := 2) (v := .pointer (some ⟨Sb, 5, none⟩)) rfl (by kernel_rfl) (by kernel_rfl) (by kernel_rfl) (fun _ _ _ h => h) (Or.inl ⟨by rfl, ?_⟩) hSw ?_
          · intro wz hsz
            obtain ⟨z0, z1, z2, z3⟩ := hsz
            go_simp
          try simp [Act.put]
          refine wpAnyH_take (i := 3) (v := .int .i64 (k : Int)) rfl (by kernel_rfl) (by kernel_rfl) (by kernel_rfl) (fun _ _ _ h => h) (Or.inl ⟨by rfl, ?_⟩) hSw ?_
          · intro wz hsz
            obtain ⟨z0, z1, z2, z3⟩ := hsz
            go_simp
          try simp [Act.put]
          refine wpAnyH_take (i := 4) (v := .pointer (some ⟨w.heap.size, 1, none⟩)) rfl (by kernel_rfl) (by kernel_rfl) (by kernel_rfl) (fun _ _ _ h => h) (Or.inl ⟨by rfl, ?_⟩) hSw ?_
          · intro wz hsz
            obtain ⟨z0, z1, z2, z3⟩ := hsz
            go_simp
          try simp [Act.put]
          refine wpAnyH_take (i := 5) (v := tl ya yb) rfl (by kernel_rfl) (by kernel_rfl) (by kernel_rfl) (fun _ _ _ h => h) (Or.inl ⟨by rfl, ?_⟩) hSw ?_
          · intro wz hsz
            obtain ⟨z0, z1, z2, z3⟩ := hsz
            go_simp
          try simp [Act.put]
          refine wpAnyH_take (i := 6) (v := tl va vb) rfl (by kernel_rfl) (by kernel_rfl) (by kernel_rfl) (fun _ _ _ h => h) (Or.inl ⟨by rfl, ?_⟩) hSw ?_
          · intro wz hsz
            obtain ⟨z0, z1, z2, z3⟩ := hsz
            go_simp
          try simp [Act.put]
          refine wpAnyH_ready (rs := [7]) (by kernel_rfl) (by simp) ?_
          refine AllReadyH.cons rfl (fun K hK => ?_) AllReadyH.nil
          go_simp
          go_wp2_with (first | (go_at_call 52; refine (kpl _).mono ?_; rintro e9 w10 ⟨rfl, hb10⟩; have hwA := stepA hw0.drew hb10; clear hb10) | (fail))
          refine hK.out _ _ (⟨(Below.cell (p := ⟨w.heap.size, 1, none⟩) hwA LX9).trans x1, (Below.cell (p := ⟨w.heap.size, 2, none⟩) hwA LX9).trans x2, (Below.cell (p := ⟨tb, 0, none⟩) hwA LT9).trans t0, (Below.cell (p := ⟨tb, 1, none⟩) hwA LT9).trans t1⟩) (fun hSn => ?_)
          clear hK K hSw
          have hSw := hSn
          clear hSn
          try simp [Act.put]
          refine wpAnyH_take (i := 8) (v := .agg #[.int .i64 (k : Int), .int .i64 (ya + va), .int .i64 (yb + vb)]) rfl (by kernel_rfl) (by kernel_rfl) (by kernel_rfl) (fun _ _ _ h => h) (Or.inl ⟨by rfl, ?_⟩) hSw ?_
          · intro wz hsz
            obtain ⟨z0, z1, z2, z3⟩ := hsz
            go_simp
          try simp [Act.put]
          have hX10 : some w.heap.size ≠ hO w10 Sb := (sq_below (Tb := Tb) (Mb := Mb) hwA LS9).apart LX9 hX9
          have hT10 : some tb ≠ hO w10 Sb := (sq_below (Tb := Tb) (Mb := Mb) hwA LS9).apart LT9 htO
          refine wpAnyH_ready (rs := [9]) (by kernel_rfl) (by simp) ?_
          refine AllReadyH.cons rfl (fun K hK => ?_) AllReadyH.nil
          go_simp
          go_wp2_with (first | (go_at_call 78; refine (kput _ (Sr.hs (Sr.on HS9.out hwA))).mono ?_; rintro e9 w11 ⟨rfl, E2, hS2, hok2, hmem, hT2, hQ2⟩) | (fail))
          have bX11 := (Bx.on HB9.out hwA).hq hQ2 (by omega) hX10 hT2.size
          have bT11 := (Bx.on HT9.out hwA).hq hQ2 (by omega) hT10 hT2.size
          refine hK.out _ _ (⟨bX11.c1, bX11.c2, bT11.c0, bT11.c1⟩) (fun hSn => ?_)
          clear hK K hSw
          have hSw := hSn
          clear hSn
          try simp [Act.put]
          refine wpAnyH_done (by kernel_rfl) ?_ _
          have R0 := HRX.out
          have O0 := HOP.out
          have d0 := HD0.out
          have ag := HAG.out
          have v12 : st i k = 1 ∨ st i k = 2 := by have := HVV.out; omega
          have ea : ya + va = nxA (st i k) (A' i) := by rw [HVV.out, (ag i d0).1, ← HA.out]; exact HVA.out v0 ya
          have eb : yb + vb = nxB (st i k) (B' i) := by rw [HVV.out, (ag i d0).2, ← HB.out]; exact HVB.out v0 yb
          rw [ea, eb] at hmem
          obtain ⟨A9, B9, r1, r2, r3⟩ := op_put R0 O0 hkn v12 hsy.out hmem
          have S11 := (Sr.on HS9.out hwA).ht hT2 hS2
          have qA := sq_below (Tb := Tb) (Mb := Mb) hwA LS9
          have qB : Sq Sb Tb Mb w10 w11 := sq_of hT2 hQ2
          have HLP : Hid (LpS w w4 w11 base Sb Tb Mb W H q n c m A B TA2 TB2 D L2 st tt i l ya yb w.heap.size (some ⟨lb, 0, none⟩) (j + 1)) := (⟨m' + 1, E2, A9, B9, S11, hok2, by omega, HSN.out A9 B9 r1, r2, fun x hx => ⟨(r3 x hx).1.trans (ag x hx).1, (r3 x hx).2.trans (ag x hx).2⟩, Sq.trans HQ9.out (qA.trans qB), bX11, qB.apart (Nat.lt_of_lt_of_le LX9 hwA.size) hX10, fun _ => ⟨lb, rfl, hlb, (IP.below HP9.out hwA LP9).sq qB (by omega) (by omega) (by omega) (qA.apart LP9 hl9'), qB.apart (Nat.lt_of_lt_of_le LP9 hwA.size) (qA.apart LP9 hl9')⟩⟩ : LpS _ _ _ _ _ _ _ _ _ _ _ _ _ _ _ _ _ _ _ _ _ _ _ _ _ _ _ _)
          clear HS9 HB9 HT9 HP9 HQ9 HOK HRX HOP HAG HVA HVB v0 HSN HVV R0 O0 ag v12 ea eb hmem r1 r2 r3 S11 qA qB bX11 bT11 hS2 hok2 hT2 hQ2 x1 x2 t0 t1
          go_wp2
          exact ⟨⟨j + 1, by omega, by go_num, HLP.out⟩, by simp [intOf]; omega⟩
    · have hje : j = l.length := by omega
      have j9 : ¬ (j : Int) < (l.length : Int) := by omega
      have HE : Hid (AnsSe w wr base Sb Tb Mb W H q n c m A B TA2 TB2 D L2 st tt) := (⟨m', E', A', B', S, hok, by omega, hR.all (fun k hk hs => by
        obtain ⟨t, ht, e⟩ := mem_gl (HL2.out k hk hs)
        exact ⟨t, by omega, e⟩), hOp, hag, hQ⟩ : AnsSe _ _ _ _ _ _ _ _ _ _ _ _ _ _ _ _ _ _ _ _)
      clear S hok hR hOp hag hQ bX hli hje
      go_wp2
      first | go_end0 | refine bodyPost_ret (results_none rfl _ _ _) rfl ?_
      exact ⟨rfl, HE.out⟩
end Go.Proofs.Ytfciecoigfnnhaa
