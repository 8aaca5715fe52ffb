/- Two openings are changed with one another if the first one comes ahead. -/
import Derived.Test.YtfciecoigfnnhaaQWyHs
import Derived.Test.YtfciecoigfnnhaaQWyTlC
import Derived.BigRegion
import Derived.Deep.RegionHeld
import Derived.Deep.RegionHeld3
import Derived.Deep.CutRange
import Derived.Deep.Cut
namespace Go.Proofs.Ytfciecoigfnnhaa
open Go.RowKit

theorem sw_pt2 (E : Nat → Og) {i j : Nat} (h : i ≠ j) : swO E i j = ptO (ptO E i (E j)) j (E i) := by
  funext k
  unfold swO ptO
  by_cases e : k = i
  · subst e
    simp [h]
  · simp [e]
/-- an opening is stored -/
abbrev st3 (w : World) (g i : Nat) (x : Og) : World := ((w.setCell ⟨g, i * 3, none⟩ (.int .i64 x.p)).setCell ⟨g, i * 3 + 1, none⟩ (.int .i64 x.a)).setCell ⟨g, i * 3 + 2, none⟩ (.int .i64 x.b)
theorem st3_other (w : World) (g i k : Nat) (x : Og) (h : k ≠ g) : (st3 w g i x).heap[k]? = w.heap[k]? :=
  (Below.heap_setCell _ ⟨g, _, none⟩ _ k h).trans ((Below.heap_setCell _ ⟨g, _, none⟩ _ k h).trans (Below.heap_setCell _ ⟨g, _, none⟩ _ k h))
theorem st3_size (w : World) (g i : Nat) (x : Og) : (st3 w g i x).heap.size = w.heap.size := by simp
theorem hs_st3 {w : World} {base Sb m g cap i : Nat} {E : Nat → Og} {x : Og} (h : Hs w base Sb m E) (c5 : w.cell? ⟨Sb, 5, none⟩ = some (.slice (some ⟨g, 0, none⟩) m cap)) (hO : OwO w base (.slice (some ⟨g, 0, none⟩) m cap) m E) (hg : base ≤ g) (hx : BdO x) :
    Hs (st3 w g i x) base Sb m (ptO E i x) ∧ Ht base Sb w (st3 w g i x) ∧ (st3 w g i x).cell? ⟨Sb, 5, none⟩ = some (.slice (some ⟨g, 0, none⟩) m cap) ∧ OwO (st3 w g i x) base (.slice (some ⟨g, 0, none⟩) m cap) m (ptO E i x) := by
  have hsb := h.sb
  have e := st3_other w g i Sb x (by omega)
  have q := OwO.set hO i x
  have c := (cell_same e 5).trans c5
  refine ⟨⟨h.sb, by rw [st3_size]; exact h.le, ⟨_, c, q⟩, (frozen_same e 5).trans h.fz, fun k hk => ?_, h.ok⟩, ⟨rfl, rfl, rfl, by rw [st3_size]; exact Nat.le_refl _, fun k h1 _ => st3_other w g i k x (by omega), fun j _ => cell_same e j, fun j => frozen_same e j⟩, c, q⟩
  by_cases e1 : k = i
  · subst e1; rw [ptO_i]; exact hx
  · rw [ptO_o E x e1]; exact h.all k hk
theorem Hs.drew {w : World} {base Sb m : Nat} {E : Nat → Og} (h : Hs w base Sb m E) : Hs w.drew base Sb m E := h.on (Below.refl _ _).drew
theorem Ht.drew {base Sb : Nat} {w w' : World} (h : Ht base Sb w w') : Ht base Sb w w'.drew := ⟨h.os, h.tape, h.output, h.size, h.block, h.sbc, h.sbf⟩
theorem heap_drew (w : World) : w.drew.heap = w.heap := rfl
theorem sw_cell {w w' : World} {a : Addr} {v : Value} (h : w.cell? a = some v) (h' : w'.cell? a = some v) : w'.drew.cell? a = w.cell? a := by
  rw [h]; exact h'
theorem sw_heap {w wc : World} {g i j : Nat} {X Y : Og} (h : Below w.heap.size w wc) : ∀ k, k < w.heap.size → k ≠ g → (st3 (st3 wc g i Y) g j X).drew.heap[k]? = w.heap[k]? := fun k hk hn => by
  rw [heap_drew, st3_other _ g j k X hn, st3_other _ g i k Y hn]
  exact h.block k hk
/-- the answer of swapIfAhead -/
def AnsS (w : World) (base Sb m i j : Nat) (E : Nat → Og) (e : Ending) (w' : World) : Prop := e = .returned (.bool (decide (ko (E i) < ko (E j)))) ∧ Hs w' base Sb m (if ko (E i) < ko (E j) then swO E i j else E) ∧ Ht base Sb w w'
/-- and that nothing but the openings' own block g has turned -/
def AnsG (w : World) (base Sb m i j g : Nat) (E : Nat → Og) (e : Ending) (w' : World) : Prop := AnsS w base Sb m i j E e w' ∧ w'.cell? ⟨Sb, 5, none⟩ = w.cell? ⟨Sb, 5, none⟩ ∧ ∀ k, k < w.heap.size → k ≠ g → w'.heap[k]? = w.heap[k]?

set_option maxHeartbeats 4000000 in
set_option maxRecDepth 20000 in
theorem swap_g (base Sb m i j g cap : Nat) (E : Nat → Og) (w : World) (h : Hs w base Sb m E) (c5 : w.cell? ⟨Sb, 5, none⟩ = some (.slice (some ⟨g, 0, none⟩) m cap)) (hi : i < m) (hj : j < m) (hij : i ≠ j) :
    Calls Try.prog 100 #[.pointer (some ⟨Sb, 5, none⟩), .int .i64 (i : Int), .int .i64 (j : Int)] w fun e w' => AnsG w base Sb m i j g E e w' := by
  obtain ⟨v, c5', hO⟩ := h.v
  have hv : v = .slice (some ⟨g, 0, none⟩) m cap := by rw [c5] at c5'; exact (Option.some.inj c5').symm
  subst hv
  clear c5'
  obtain ⟨g', cap', hgg, hg0, hcap, hP⟩ := hO.get (by omega)
  cases hgg
  have hx := h.all i hi
  have hy := h.all j hj
  have hm := h.ok
  have kc0 := fun w => tcmp_any (E i).a (E i).b (E j).a (E j).b w ⟨hx.1, by have := hx.2.1; omega⟩ ⟨hx.2.2.1, by have := hx.2.2.2; omega⟩ ⟨hy.1, by have := hy.2.1; omega⟩ ⟨hy.2.2.1, by have := hy.2.2.2; omega⟩
  have ka := fun w => ahead_any (E i) (E j) w hx hy kc0
  have x0 := hP.c (i * 3) (by omega)
  have x1 := hP.c (i * 3 + 1) (by omega)
  have x2 := hP.c (i * 3 + 2) (by omega)
  have y0 := hP.c (j * 3) (by omega)
  have y1 := hP.c (j * 3 + 1) (by omega)
  have y2 := hP.c (j * 3 + 2) (by omega)
  rw [f3_0] at x0 y0
  rw [f3_1] at x1 y1
  rw [f3_2] at x2 y2
  have hmt := mtO (E i)
  have hs : Sb < w.heap.size := Nat.lt_of_lt_of_le h.sb h.le
  have i0 : (0 : Int) ≤ (i : Int) := by omega
  have i1 : (i : Int) < (m : Int) := by omega
  have j0 : (0 : Int) ≤ (j : Int) := by omega
  have j1 : (j : Int) < (m : Int) := by omega
  have HX : Hid (OwO w base (.slice (some ⟨g, 0, none⟩) m cap) m E) := hO
  have hPl := hP.lt
  have HF : Hid (∀ k, w.frozen? ⟨g, k, none⟩ = false) := hP.fz
  have ES : Hid (swO E i j = ptO (ptO E i (E j)) j (E i)) := (sw_pt2 E hij : _ = _)
  have HB : Hid (Hs w base Sb m E) := h
  have HBx : Hid (BdO (E i)) := hx
  have HBy : Hid (BdO (E j)) := hy
  clear kc0 hP hO h hx hy
  generalize hb : decide (ko (E i) < ko (E j)) = b at ka
  have hb2 : Hid (decide (ko (E i) < ko (E j)) = b) := hb
  clear hb
  generalize hEi : E i = X at *
  generalize hEj : E j = Y at *
  have HEi : Hid (E i = X) := hEi
  have HEj : Hid (E j = Y) := hEj
  clear hEi hEj
  have hw0 := Below.refl w.heap.size w
  go_enter Try.func100, Try.ntmps100
  go_upto_region 1 with fail
  go_cut [23] from 7 to 23 (fun s wx => s = .bool (!b) ∧ Below w.heap.size w wx)
  case first =>
    refine wp_region_held (S := fun w' => w'.cell? ⟨Sb, 5, none⟩ = some (.slice (some ⟨g, 0, none⟩) m cap) ∧ w'.cell? ⟨g, i * 3, none⟩ = some (.int .i64 X.p) ∧ w'.cell? ⟨g, i * 3 + 1, none⟩ = some (.int .i64 X.a) ∧ w'.cell? ⟨g, i * 3 + 2, none⟩ = some (.int .i64 X.b) ∧ w'.cell? ⟨g, j * 3, none⟩ = some (.int .i64 Y.p) ∧ w'.cell? ⟨g, j * 3 + 1, none⟩ = some (.int .i64 Y.a) ∧ w'.cell? ⟨g, j * 3 + 2, none⟩ = some (.int .i64 Y.b)) (by kernel_rfl) ?_
    change wpAnyH _ _ _ _ _ _ _ _ (World.drew _)
    have hSw := (⟨(Below.cell (p := ⟨Sb, 5, none⟩) hw0.drew hs).trans c5, (Below.cell (p := ⟨g, i * 3, none⟩) hw0.drew hPl).trans x0, (Below.cell (p := ⟨g, i * 3 + 1, none⟩) hw0.drew hPl).trans x1, (Below.cell (p := ⟨g, i * 3 + 2, none⟩) hw0.drew hPl).trans x2, (Below.cell (p := ⟨g, j * 3, none⟩) hw0.drew hPl).trans y0, (Below.cell (p := ⟨g, j * 3 + 1, none⟩) hw0.drew hPl).trans y1, (Below.cell (p := ⟨g, j * 3 + 2, none⟩) hw0.drew hPl).trans y2⟩ : _ ∧ _ ∧ _ ∧ _ ∧ _ ∧ _ ∧ _)
    refine wpAnyH_take (i := 0) (v := .pointer (some ⟨Sb, 5, none⟩)) rfl (by kernel_rfl) (by kernel_rfl) (by kernel_rfl) (fun _ _ _ h => h) (Or.inl ⟨by rfl, ?_⟩) hSw ?_
    · intro wz hsz
      obtain ⟨z0, z1, z2, z3, z4, z5, z6⟩ := hsz
      go_simp
    try simp [Act.put]
    refine wpAnyH_take (i := 1) (v := .pointer (some ⟨Sb, 5, none⟩)) rfl (by kernel_rfl) (by kernel_rfl) (by kernel_rfl) (fun _ _ _ h => h) (Or.inl ⟨by rfl, ?_⟩) hSw ?_
    · intro wz hsz
      obtain ⟨z0, z1, z2, z3, z4, z5, z6⟩ := hsz
      go_simp
    try simp [Act.put]
    refine wpAnyH_take (i := 2) (v := .pointer (some ⟨Sb, 5, none⟩)) rfl (by kernel_rfl) (by kernel_rfl) (by kernel_rfl) (fun _ _ _ h => h) (Or.inl ⟨by rfl, ?_⟩) hSw ?_
    · intro wz hsz
      obtain ⟨z0, z1, z2, z3, z4, z5, z6⟩ := hsz
      go_simp
    try simp [Act.put]
    refine wpAnyH_take (i := 3) (v := .slice (some ⟨g, 0, none⟩) m cap) rfl (by kernel_rfl) (by kernel_rfl) (by kernel_rfl) (fun _ _ _ h => h) (Or.inl ⟨by rfl, ?_⟩) hSw ?_
    · intro wz hsz
      obtain ⟨z0, z1, z2, z3, z4, z5, z6⟩ := hsz
      go_simp
    try simp [Act.put]
    refine wpAnyH_take (i := 4) (v := .int .i64 (i : Int)) rfl (by kernel_rfl) (by kernel_rfl) (by kernel_rfl) (fun _ _ _ h => h) (Or.inl ⟨by rfl, ?_⟩) hSw ?_
    · intro wz hsz
      obtain ⟨z0, z1, z2, z3, z4, z5, z6⟩ := hsz
      go_simp
    try simp [Act.put]
    refine wpAnyH_take (i := 5) (v := .pointer (some ⟨g, i * 3, none⟩)) rfl (by kernel_rfl) (by kernel_rfl) (by kernel_rfl) (fun _ _ _ h => h) (Or.inl ⟨by rfl, ?_⟩) hSw ?_
    · intro wz hsz
      obtain ⟨z0, z1, z2, z3, z4, z5, z6⟩ := hsz
      go_simp
      try (intro h9; omega)
    try simp [Act.put]
    refine wpAnyH_take (i := 6) (v := ov X) rfl (by kernel_rfl) (by kernel_rfl) (by kernel_rfl) (fun _ _ _ h => h) (Or.inl ⟨by rfl, ?_⟩) hSw ?_
    · intro wz hsz
      obtain ⟨z0, z1, z2, z3, z4, z5, z6⟩ := hsz
      go_simp
    try simp [Act.put]
    refine wpAnyH_take (i := 7) (v := .iface 117 (ov X)) rfl (by kernel_rfl) (by kernel_rfl) (by kernel_rfl) (fun _ _ _ h => h) (Or.inl ⟨by rfl, ?_⟩) hSw ?_
    · intro wz hsz
      obtain ⟨z0, z1, z2, z3, z4, z5, z6⟩ := hsz
      go_simp
    try simp [Act.put]
    refine wpAnyH_take (i := 8) (v := .pointer (some ⟨Sb, 5, none⟩)) rfl (by kernel_rfl) (by kernel_rfl) (by kernel_rfl) (fun _ _ _ h => h) (Or.inl ⟨by rfl, ?_⟩) hSw ?_
    · intro wz hsz
      obtain ⟨z0, z1, z2, z3, z4, z5, z6⟩ := hsz
      go_simp
    try simp [Act.put]
    refine wpAnyH_take (i := 9) (v := .pointer (some ⟨Sb, 5, none⟩)) rfl (by kernel_rfl) (by kernel_rfl) (by kernel_rfl) (fun _ _ _ h => h) (Or.inl ⟨by rfl, ?_⟩) hSw ?_
    · intro wz hsz
      obtain ⟨z0, z1, z2, z3, z4, z5, z6⟩ := hsz
      go_simp
    try simp [Act.put]
    refine wpAnyH_take (i := 10) (v := .pointer (some ⟨Sb, 5, none⟩)) rfl (by kernel_rfl) (by kernel_rfl) (by kernel_rfl) (fun _ _ _ h => h) (Or.inl ⟨by rfl, ?_⟩) hSw ?_
    · intro wz hsz
      obtain ⟨z0, z1, z2, z3, z4, z5, z6⟩ := hsz
      go_simp
    try simp [Act.put]
    refine wpAnyH_take (i := 11) (v := .slice (some ⟨g, 0, none⟩) m cap) rfl (by kernel_rfl) (by kernel_rfl) (by kernel_rfl) (fun _ _ _ h => h) (Or.inl ⟨by rfl, ?_⟩) hSw ?_
    · intro wz hsz
      obtain ⟨z0, z1, z2, z3, z4, z5, z6⟩ := hsz
      go_simp
    try simp [Act.put]
    refine wpAnyH_take (i := 12) (v := .int .i64 (j : Int)) rfl (by kernel_rfl) (by kernel_rfl) (by kernel_rfl) (fun _ _ _ h => h) (Or.inl ⟨by rfl, ?_⟩) hSw ?_
    · intro wz hsz
      obtain ⟨z0, z1, z2, z3, z4, z5, z6⟩ := hsz
      go_simp
    try simp [Act.put]
    refine wpAnyH_take (i := 13) (v := .pointer (some ⟨g, j * 3, none⟩)) rfl (by kernel_rfl) (by kernel_rfl) (by kernel_rfl) (fun _ _ _ h => h) (Or.inl ⟨by rfl, ?_⟩) hSw ?_
    · intro wz hsz
      obtain ⟨z0, z1, z2, z3, z4, z5, z6⟩ := hsz
      go_simp
      try (intro h9; omega)
    try simp [Act.put]
    refine wpAnyH_take (i := 14) (v := ov Y) rfl (by kernel_rfl) (by kernel_rfl) (by kernel_rfl) (fun _ _ _ h => h) (Or.inl ⟨by rfl, ?_⟩) hSw ?_
    · intro wz hsz
      obtain ⟨z0, z1, z2, z3, z4, z5, z6⟩ := hsz
      go_simp
    try simp [Act.put]
    refine wpAnyH_ready (rs := [15]) (by kernel_rfl) (by simp) ?_
    refine AllReadyH.cons rfl (fun K hK => ?_) AllReadyH.nil
    go_simp
    go_wp2_with (first | (go_at_call 132; refine (ka _).mono ?_; rintro e9 w6 ⟨rfl, hb6⟩; have hw1 := stepA hw0.drew hb6; clear hb6) | (fail))
    refine hK.out _ _ (⟨(Below.cell (p := ⟨Sb, 5, none⟩) hw1 hs).trans c5, (Below.cell (p := ⟨g, i * 3, none⟩) hw1 hPl).trans x0, (Below.cell (p := ⟨g, i * 3 + 1, none⟩) hw1 hPl).trans x1, (Below.cell (p := ⟨g, i * 3 + 2, none⟩) hw1 hPl).trans x2, (Below.cell (p := ⟨g, j * 3, none⟩) hw1 hPl).trans y0, (Below.cell (p := ⟨g, j * 3 + 1, none⟩) hw1 hPl).trans y1, (Below.cell (p := ⟨g, j * 3 + 2, none⟩) hw1 hPl).trans y2⟩) (fun hSn => ?_)
    clear hK K hSw
    have hSw := hSn
    clear hSn
    try simp [Act.put]
    refine wpAnyH_take (i := 16) (v := .bool (!b)) rfl (by kernel_rfl) (by kernel_rfl) (by kernel_rfl) (fun _ _ _ h => h) (Or.inl ⟨by rfl, ?_⟩) hSw ?_
    · intro wz hsz
      obtain ⟨z0, z1, z2, z3, z4, z5, z6⟩ := hsz
      go_simp
    try simp [Act.put]
    refine wpAnyH_done (by kernel_rfl) ?_ _
    go_wp2_with fail
    go_meet
    case rel => exact ⟨rfl, hw1⟩
  case rest =>
    obtain ⟨rfl, hbc⟩ := hcut
    have HC := HB.out.on hbc
    have hle := HC.le
    have hT := ht_below (base := base) (Sb := Sb) hbc HB.out.le HB.out.sb
    cases b with
    | false =>
      clear ka x0 x1 x2 y0 y1 y2
      have Hk : Hid (¬ ko X < ko Y) := (of_decide_eq_false hb2.out : ¬ ko X < ko Y)
      go_wp2
      go_ret
      unfold AnsG AnsS
      rw [HEi.out, HEj.out, hb2.out, if_neg (by have := Hk.out; omega)]
      exact ⟨⟨rfl, HC, hT⟩, hbc.cell (p := ⟨Sb, 5, none⟩) hs, fun k hk _ => hbc.block k hk⟩
    | true =>
      have Hk : Hid (ko X < ko Y) := (of_decide_eq_true hb2.out : ko X < ko Y)
      have c5' := (hbc.cell (p := ⟨Sb, 5, none⟩) hs).trans c5
      have u0 := (hbc.cell (p := ⟨g, i * 3, none⟩) hPl).trans x0
      have u1 := (hbc.cell (p := ⟨g, i * 3 + 1, none⟩) hPl).trans x1
      have u2 := (hbc.cell (p := ⟨g, i * 3 + 2, none⟩) hPl).trans x2
      have v0 := (hbc.cell (p := ⟨g, j * 3, none⟩) hPl).trans y0
      have v1 := (hbc.cell (p := ⟨g, j * 3 + 1, none⟩) hPl).trans y1
      have v2 := (hbc.cell (p := ⟨g, j * 3 + 2, none⟩) hPl).trans y2
      have f0 : wc.frozen? ⟨g, i * 3, none⟩ = false := (hbc.frozen (p := ⟨g, i * 3, none⟩) hPl).trans (HF.out _)
      have f1 : wc.frozen? ⟨g, i * 3 + 1, none⟩ = false := (hbc.frozen (p := ⟨g, i * 3 + 1, none⟩) hPl).trans (HF.out _)
      have f2 : wc.frozen? ⟨g, i * 3 + 2, none⟩ = false := (hbc.frozen (p := ⟨g, i * 3 + 2, none⟩) hPl).trans (HF.out _)
      have f3' : wc.frozen? ⟨g, j * 3, none⟩ = false := (hbc.frozen (p := ⟨g, j * 3, none⟩) hPl).trans (HF.out _)
      have f4 : wc.frozen? ⟨g, j * 3 + 1, none⟩ = false := (hbc.frozen (p := ⟨g, j * 3 + 1, none⟩) hPl).trans (HF.out _)
      have f5 : wc.frozen? ⟨g, j * 3 + 2, none⟩ = false := (hbc.frozen (p := ⟨g, j * 3 + 2, none⟩) hPl).trans (HF.out _)
      have hO2 := HX.out.below hbc
      have HO2 : Hid (OwO wc base (.slice (some ⟨g, 0, none⟩) m cap) m E) := hO2
      have HC5 : Hid (wc.cell? ⟨Sb, 5, none⟩ = some (.slice (some ⟨g, 0, none⟩) m cap)) := c5'
      have HBC : Hid (Below w.heap.size w wc) := hbc
      have HW5 : Hid (w.cell? ⟨Sb, 5, none⟩ = some (.slice (some ⟨g, 0, none⟩) m cap)) := c5
      clear ka x0 x1 x2 y0 y1 y2 c5 hbc hO2 hmt hw0
      go_upto_region 3 with fail
      go_region
      go_wp2
      go_ret
      obtain ⟨r1, r2, r3, r4⟩ := hs_st3 (i := i) (x := Y) HC HC5.out HO2.out hg0 HBy.out
      obtain ⟨s1, s2, s3, _⟩ := hs_st3 (i := j) (x := X) r1 r3 r4 hg0 HBx.out
      unfold AnsG AnsS
      rw [HEi.out, HEj.out, hb2.out, if_pos Hk.out, ES.out]
      have t1 := sw_cell HW5.out s3
      have t2 := sw_heap (i := i) (j := j) (X := X) (Y := Y) (g := g) HBC.out
      exact ⟨⟨rfl, s1.drew, ((hT.trans r2).trans s2).drew⟩, t1, t2⟩
theorem swap_any (base Sb m i j : Nat) (E : Nat → Og) (w : World) (h : Hs w base Sb m E) (hi : i < m) (hj : j < m) (hij : i ≠ j) :
    Calls Try.prog 100 #[.pointer (some ⟨Sb, 5, none⟩), .int .i64 (i : Int), .int .i64 (j : Int)] w fun e w' => AnsS w base Sb m i j E e w' ∧ Hq Sb w w' := by
  obtain ⟨v, c5, hO⟩ := h.v
  obtain ⟨g, cap, rfl, _, _, _⟩ := hO.get (by omega)
  exact (swap_g base Sb m i j g cap E w h c5 hi hj hij).mono fun _ _ q => ⟨q.1, hq_row c5 q.2.1 q.2.2⟩
end Go.Proofs.Ytfciecoigfnnhaa
