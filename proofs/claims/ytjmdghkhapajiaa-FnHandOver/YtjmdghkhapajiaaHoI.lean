/- HandOver, as the program goes (tools/gen_ho.py). -/
import Derived.Test.YtjmdghkhapajiaaHoO
import Derived.Test.YtjmdghkhapajiaaHoB
import Derived.Test.YtjmdghkhapajiaaAsWho
import Derived.Test.YtjmdghkhapajiaaStPut
import Derived.Deep.RegionHeld
namespace Go.Proofs.Ytjmdghkhapajiaa
open Go.RowKit Go.Sort
theorem put_other {w : World} {b : Nat} (z : List Int) (q : Nat) (os : Array Obj) (k : Nat) (hk : k < w.heap.size) (hkb : k ≠ b) : (grow (putRow (Value.int .i64) (Sort.ahead w q) b 0 z.toArray) os).heap[k]? = w.heap[k]? := by
  have hb : k < (putRow (Value.int .i64) (Sort.ahead w q) b 0 z.toArray).heap.size := by rw [size_putRow]; exact hk
  rw [heap_grow_old _ _ hb]
  unfold putRow mapBlock
  simp only [Array.getElem?_modify]
  rw [if_neg (by omega)]
  rfl
theorem Rk.sorted {w w' : World} {lo hi hi' : Nat} {a : Option Addr} {n : Nat} {K : Nat → Nat} {R : Nat → Nat → Int} {g : Nat} {A : Nat → Option Addr} {C : Nat → Nat} (h : Rk w lo hi a n K R g A C) {s : Nat} (hs : s < n) (hk : 0 < K s) {B : Nat} (hA : A s = some ⟨B, 0, none⟩) (hsz : w.heap.size ≤ w'.heap.size) (ho : ∀ k, k < w.heap.size → k ≠ B → w'.heap[k]? = w.heap[k]?) {f : Nat → Int} (hP : IP w' B (K s) f) (hh : hi ≤ hi') :
    Rk w' lo hi' a n K (fun i => if i = s then f else R i) g A C := by
  obtain ⟨B0, e0, l0, h0, n0, p0⟩ := h.row s hs hk
  have hBB : B0 = B := by rw [hA] at e0; injection e0 with e1; injection e1 with e2; exact e2.symm
  subst hBB
  refine ⟨h.at_, h.glo, Nat.lt_of_lt_of_le h.ghi hh, Nat.lt_of_lt_of_le h.glt hsz, fun i hi => (cell_same (ho g h.glt (by omega)) i).trans (h.cell i hi), fun i hi h9 => ?_, h.inj⟩
  by_cases e : i = s
  · subst e
    simp only [if_true]
    exact ⟨B0, hA, l0, Nat.lt_of_lt_of_le h0 hh, n0, hP⟩
  · simp only [if_neg e]
    obtain ⟨B1, e1, l1, h1, n1, p1⟩ := h.row i hi h9
    have hne : B1 ≠ B0 := fun e3 => h.inj i s hi hs h9 hk e (by rw [e1, hA, e3])
    have e4 := ho B1 p1.lt hne
    exact ⟨B1, e1, l1, Nat.lt_of_lt_of_le h1 hh, n1, Nat.lt_of_lt_of_le p1.lt hsz, fun j hj => (cell_same e4 j).trans (p1.c j hj), fun j => (frozen_same e4 j).trans (p1.fz j)⟩
set_option maxHeartbeats 4000000 in
set_option maxRecDepth 20000 in
theorem iHand_no (a x : Option Addr) (n c q r : Nat) (K : Nat → Nat) (F : Nat → Nat → Int) (g : Nat → Int) (go : Int) (w : World) (hn : n ≤ 1048576) (hK : ∀ i, i < n → K i ≤ 1048576) (hq : q ≤ 1048576) (h : RR w a n K F) (h2 : IL w x q g) (hb : hoB n q K F g go = false) :
    Calls Try.prog 16 #[.slice a n c, .slice x q r, .int .i64 go] w fun e w' => AnsRb w w' e 0 (fun _ => 0) (fun _ _ => 0) false ∧ Below w.heap.size w w' := by
  have kB := iGoodA a n c K F x q r g w hn hK hq h h2
  cases e : gaB n q K F g with
  | false =>
    rw [e] at kB
    clear hb e
    go_enter Try.func16, Try.ntmps16
    go_wp2_with (first | (go_at_call 39; refine kB.mono ?_; rintro e w1 ⟨rfl, hb1⟩; clear kB) | fail)
    go_ret2
    exact ⟨ansRb_nil _ _ _ _ _, hb1⟩
  | true =>
    rw [e] at kB
    have ga := gaB_t e
    have hqn := ga.len
    subst hqn
    have hn6 := ga.gp.hi
    have hn1 := ga.gp.lo
    have hb3 : ¬ (0 ≤ go ∧ go < (q : Int) ∧ 2 ≤ q) := by
      intro h9
      unfold hoB at hb
      rw [e, decide_eq_true h9.1, decide_eq_true h9.2.1, decide_eq_true h9.2.2] at hb
      cases hb
    clear hb e ga
    by_cases c0 : go < 0
    · clear hb3
      go_enter Try.func16, Try.ntmps16
      go_wp2_with (first | (go_at_call 39; refine kB.mono ?_; rintro e w1 ⟨rfl, hb1⟩; clear kB) | fail)
      go_ret2
      exact ⟨ansRb_nil _ _ _ _ _, hb1⟩
    by_cases c1 : (q : Int) ≤ go
    · clear hb3
      have c2 : 0 ≤ go := by omega
      clear c0
      go_enter Try.func16, Try.ntmps16
      go_wp2_with (first | (go_at_call 39; refine kB.mono ?_; rintro e w1 ⟨rfl, hb1⟩; clear kB) | fail)
      go_ret2
      exact ⟨ansRb_nil _ _ _ _ _, hb1⟩
    have c2 : 0 ≤ go := by omega
    have c3 : go < (q : Int) := by omega
    have c4 : q = 1 := by omega
    clear c0 c1 hb3
    subst c4
    go_enter Try.func16, Try.ntmps16
    go_wp2_with (first | (go_at_call 39; refine kB.mono ?_; rintro e w1 ⟨rfl, hb1⟩; clear kB) | fail)
    go_ret2
    exact ⟨ansRb_nil _ _ _ _ _, hb1⟩
def hoS (p : Addr) (v : Value) (w : World) : Prop := w.cell? p = some v
set_option maxHeartbeats 16000000 in
set_option maxRecDepth 20000 in
theorem iHand_in (a x : Option Addr) (n c r : Nat) (K : Nat → Nat) (F : Nat → Nat → Int) (g : Nat → Int) (G : Nat) (w : World) (hn : n ≤ 1048576) (hK : ∀ i, i < n → K i ≤ 1048576) (h : RR w a n K F) (h2 : IL w x n g) (hga : gaB n n K F g = true) (hG : G < n) (hn2 : 2 ≤ n) :
    Calls Try.prog 16 #[.slice a n c, .slice x n r, .int .i64 (G : Int)] w fun e w' => AnsRb w w' e n (hoK G (hoH n F (g G).toNat G)) (hoR g G (hoH n F (g G).toNat G)) true ∧ Below w.heap.size w w' := by
  obtain ⟨i0', hi, hzz⟩ := Option.map_eq_some_iff.1 infoI
  simp only [Prod.mk.injEq] at hzz
  obtain ⟨hz0, hz1, hz2⟩ := hzz
  have kB := iGoodA a n c K F x n r g w hn hK hn h h2
  rw [hga] at kB
  have ga := gaB_t hga
  have gp := ga.gp
  have hn6 := gp.hi
  obtain ⟨t, ht⟩ : ∃ t : Nat, g G = (t : Int) := ⟨(g G).toNat, by have := (ga.bd G hG).1; omega⟩
  have htn : t < n := by have := (ga.bd G hG).2; omega
  have hHlt : hoH n F t G < n := chK_lt _ n (by omega)
  have hHne : hoH n F t G ≠ G := hoH_ne F t G n (by omega)
  rw [ht, Int.toNat_natCast]
  obtain ⟨A, C, hA⟩ := h
  obtain ⟨xb, xo, rfl, xlt, -⟩ := il_at1 h2 hG
  have hmk := run_make_row' (P := Try.prog) 23 24 (.slice none 0 0) 24 Try.underlying23 infoII rfl .i64 .i64 n (by omega) (by omega)
  have kO := fun w hA => others_any a n c A K C F t G w gp htn hA
  have kC := fun a cc lo hi w (h : VQ w lo hi a n (fun i => ofv (hoO F t G i))) => cheap_any a n cc lo hi (hoO F t G) w (by omega) h
  have e9 : chK (hoO F t G) n = hoH n F t G := rfl
  rw [e9] at kC
  generalize hoH n F t G = H at *
  have j0 : (0 : Int) ≤ (G : Int) := by omega
  have j1 : (G : Int) < (n : Int) := by omega
  have j2 : ((n : Int) == 1) = false := by simp; omega
  have j3 : (0 : Int) ≤ (H : Int) := by omega
  have j4 : (H : Int) < (n : Int) := by omega
  clear hga hK hn e9
  go_enter Try.func16, Try.ntmps16
  go_wp2_with fail
  refine kB.mono ?_
  rintro e w2 ⟨rfl, hB2⟩
  clear kB
  have hsz2 := hB2.size
  have HFa : Hid (FsY (w2.alloc (.cells (madeCells #[.slice none 0 0] n) 24)) (w2.heap.size + 1) w2.heap.size n (hoF G 0) (fun i _ => g i)) := FsY.con ⟨_, _, fs_made w2 n (fun i _ => g i)⟩ (fun i _ => by unfold hoF; simp) (fun _ _ _ _ => rfl)
  have hBa : Below w2.heap.size w2 (w2.alloc (.cells (madeCells #[.slice none 0 0] n) 24)) := (Below.refl _ _).alloc (Nat.le_refl _) _
  go_wp2_with fail
  clear hmk
  obtain ⟨gb, hgbe⟩ : ∃ gb, gb = w2.heap.size := ⟨_, rfl⟩
  have hgb : w2.heap.size ≤ gb := Nat.le_of_eq hgbe.symm
  have HG0 : Hid (gb < (w2.alloc (.cells (madeCells #[.slice none 0 0] n) 24)).heap.size) := by rw [hgbe]; show w2.heap.size < _; simp
  rw [← hgbe] at HFa
  generalize w2.alloc (.cells (madeCells #[.slice none 0 0] n) 24) = w3 at *
  rw [← hgbe]
  clear hgbe
  go_loopw [36] (fun i wr => ∃ s : Nat, s ≤ n ∧ i = .int .i64 (s : Int) ∧ Hid (FsY wr (gb + 1) gb n (hoF G s) (fun i _ => g i)) ∧ gb < wr.heap.size ∧ Below w2.heap.size w2 wr) (fun i _ => n - (intOf i).toNat)
  case atStart => exact ⟨0, Nat.zero_le _, rfl, HFa, HG0.out, hBa⟩
  case round =>
    obtain ⟨s, hsn, rfl, HF, hgl, hB⟩ := hrel
    clear HFa hBa HG0
    have i0 : (0 : Int) ≤ (s : Int) := by omega
    by_cases hs : s < n
    · have i1 : (s : Int) < (n : Int) := by omega
      have x0 := il_c (h2.below (hB2.trans (hB.mono hsz2))) (i := s) hs
      clear kO kC
      by_cases e : s = G
      · have e1 : ((s : Int) != (G : Int)) = false := by simp; omega
        have HFn : Hid (FsY wr (gb + 1) gb n (hoF G (s + 1)) (fun i _ => g i)) := HF.out.con (fun i _ => by subst e; exact hoF_skip s i) (fun _ _ _ _ => rfl)
        clear HF ht e
        generalize g s = X at *
        go_wp2
        exact ⟨⟨s + 1, by omega, by go_num, HFn, hgl, hB⟩, by simp [intOf]; omega⟩
      · have e1 : ((s : Int) != (G : Int)) = true := by simp; omega
        obtain ⟨A1, C1, hFs⟩ := HF.out
        have hal : Below wr.heap.size wr (wr.alloc (.cells #[.int .i64 (g s)] 3)) := (Below.refl _ _).alloc (Nat.le_refl _) _
        have hFp := hFs.put hs hal (Nat.le_refl _) (own_one wr (gb + 1) (by omega) (g s))
        have hh1 := (hFs.on hal).head
        have hc1 := hh1.cell hs
        have hf1 := hh1.frozen s
        have hgl2 := hh1.lt
        have HFn : Hid (FsY ((wr.alloc (.cells #[.int .i64 (g s)] 3)).setCell ⟨gb, s, none⟩ (.slice (some ⟨wr.heap.size, 0, none⟩) 1 1)) (gb + 1) gb n (hoF G (s + 1)) (fun i _ => g i)) :=
          FsY.con ⟨_, _, hFp⟩ (fun i _ => hoF_step e i) (fun i j hi9 hj9 => by
            show (if i = s then (fun _ => g s) else fun _ => g i) j = g i
            by_cases c9 : i = s
            · subst c9; simp
            · rw [if_neg c9])
        have hB9 : Below w2.heap.size w2 ((wr.alloc (.cells #[.int .i64 (g s)] 3)).setCell ⟨gb, s, none⟩ (.slice (some ⟨wr.heap.size, 0, none⟩) 1 1)) := (hB.alloc hB.size _).setCell (p := ⟨gb, s, none⟩) hgb _
        have hg9 : gb < ((wr.alloc (.cells #[.int .i64 (g s)] 3)).setCell ⟨gb, s, none⟩ (.slice (some ⟨wr.heap.size, 0, none⟩) 1 1)).heap.size := by simp; omega
        rw [World.setCell_alloc_past _ _ _ _ hgl] at HFn hB9 hg9
        clear HF ht e hFs hFp hh1 hal
        generalize g s = X at *
        go_wp2
        exact ⟨⟨s + 1, by omega, by go_num, HFn, hg9, hB9⟩, by simp [intOf]; omega⟩
    · have hse : s = n := by omega
      subst hse
      have i1 : ¬ (s : Int) < (s : Int) := by omega
      have hsz := hB.size
      have hB1 := hB2.trans (hB.mono hsz2)
      have x0 := il_c (h2.below hB1) (i := G) hG
      have xl : xb < wr.heap.size := Nat.lt_of_lt_of_le xlt hB1.size
      rw [ht] at x0
      go_upto_region 10 with fail
      go_wp2_with fail
      refine (kO _ (hA.below hB1)).mono ?_
      rintro e w4 ⟨⟨oa, oc, rfl, hvq⟩, hb4⟩
      go_wp2_with fail
      refine (kC _ _ _ _ _ hvq).mono ?_
      rintro e w5 ⟨rfl, hb5⟩
      have hb45 := stepA hb4 hb5
      have HF5 : Hid (FsY w5 (gb + 1) gb s (hoF G s) (fun i _ => g i)) := HF.out.on hb45
      have hB5 := stepA hB hb45
      have hgl5 : gb < w5.heap.size := Nat.lt_of_lt_of_le hgl hb45.size
      have y0 := (hb45.cell (p := ⟨xb, xo + G, none⟩) xl).trans x0
      have y3 := il_c h2 (i := G) hG
      rw [ht] at y3
      have y2 := (hB2.cell (p := ⟨xb, xo + G, none⟩) xlt).trans y3
      clear y3
      have xl5 := Nat.lt_of_lt_of_le xl hb45.size
      clear kO kC hvq hb4 hb5 HF x0
      have hBd : Below w2.heap.size w2 w5.drew := hB5.drew
      obtain ⟨A1, C1, hFs⟩ := HF5.out
      have hFd := hFs.on ((Below.refl w5.heap.size w5).drew)
      have HK : Hid (hoF G s H = 1) := by show hoF G s H = 1; unfold hoF; rw [if_pos ⟨hHlt, hHne⟩]
      have hcd := hFd.head.cell hHlt
      rw [HK.out] at hcd
      have z0 : w5.drew.cell? ⟨xb, xo + G, none⟩ = some (.int .i64 (t : Int)) := y0
      have hxw : xb < w2.heap.size := by have := hB2.size; omega
      clear hFs HF5
      go_upto_region 11 with fail
      refine wp_region_held (S := (hoS ⟨xb, xo + G, none⟩ (.int .i64 (t : Int)))) (by kernel_rfl) ?_
      change wpAnyH _ _ _ _ _ _ _ _ (World.drew _)
      have hSw := (((hBd).cell (p := ⟨xb, xo + G, none⟩) hxw).trans y2 : hoS ⟨xb, xo + G, none⟩ (.int .i64 (t : Int)) w5.drew)
      refine wpAnyH_take (i := 0) (v := .slice (some ⟨gb, 0, none⟩) s s) rfl (by kernel_rfl) (by kernel_rfl) (by kernel_rfl) (fun _ _ _ h => h) (Or.inl ⟨by rfl, ?_⟩) hSw ?_
      · intro wz hsz
        have hc8 : wz.cell? ⟨xb, xo + G, none⟩ = some (.int .i64 (t : Int)) := hsz
        clear hsz
        go_simp
      try simp [Act.put]
      refine wpAnyH_take (i := 1) (v := .int .i64 (H : Int)) rfl (by kernel_rfl) (by kernel_rfl) (by kernel_rfl) (fun _ _ _ h => h) (Or.inl ⟨by rfl, ?_⟩) hSw ?_
      · intro wz hsz
        have hc8 : wz.cell? ⟨xb, xo + G, none⟩ = some (.int .i64 (t : Int)) := hsz
        clear hsz
        go_simp
      try simp [Act.put]
      refine wpAnyH_take (i := 2) (v := .slice (some ⟨gb, 0, none⟩) s s) rfl (by kernel_rfl) (by kernel_rfl) (by kernel_rfl) (fun _ _ _ h => h) (Or.inl ⟨by rfl, ?_⟩) hSw ?_
      · intro wz hsz
        have hc8 : wz.cell? ⟨xb, xo + G, none⟩ = some (.int .i64 (t : Int)) := hsz
        clear hsz
        go_simp
      try simp [Act.put]
      refine wpAnyH_take (i := 3) (v := .int .i64 (H : Int)) rfl (by kernel_rfl) (by kernel_rfl) (by kernel_rfl) (fun _ _ _ h => h) (Or.inl ⟨by rfl, ?_⟩) hSw ?_
      · intro wz hsz
        have hc8 : wz.cell? ⟨xb, xo + G, none⟩ = some (.int .i64 (t : Int)) := hsz
        clear hsz
        go_simp
      try simp [Act.put]
      refine wpAnyH_take (i := 4) (v := .pointer (some ⟨gb, H, none⟩)) rfl (by kernel_rfl) (by kernel_rfl) (by kernel_rfl) (fun _ _ _ h => h) (Or.inl ⟨by rfl, ?_⟩) hSw ?_
      · intro wz hsz
        have hc8 : wz.cell? ⟨xb, xo + G, none⟩ = some (.int .i64 (t : Int)) := hsz
        clear hsz
        go_simp
        try (intro h9; omega)
      try simp [Act.put]
      refine wpAnyH_take (i := 6) (v := .slice (some ⟨xb, xo, none⟩) s r) rfl (by kernel_rfl) (by kernel_rfl) (by kernel_rfl) (fun _ _ _ h => h) (Or.inl ⟨by rfl, ?_⟩) hSw ?_
      · intro wz hsz
        have hc8 : wz.cell? ⟨xb, xo + G, none⟩ = some (.int .i64 (t : Int)) := hsz
        clear hsz
        go_simp
      try simp [Act.put]
      refine wpAnyH_take (i := 7) (v := .int .i64 (G : Int)) rfl (by kernel_rfl) (by kernel_rfl) (by kernel_rfl) (fun _ _ _ h => h) (Or.inl ⟨by rfl, ?_⟩) hSw ?_
      · intro wz hsz
        have hc8 : wz.cell? ⟨xb, xo + G, none⟩ = some (.int .i64 (t : Int)) := hsz
        clear hsz
        go_simp
      try simp [Act.put]
      refine wpAnyH_take (i := 8) (v := .pointer (some ⟨xb, xo + G, none⟩)) rfl (by kernel_rfl) (by kernel_rfl) (by kernel_rfl) (fun _ _ _ h => h) (Or.inl ⟨by rfl, ?_⟩) hSw ?_
      · intro wz hsz
        have hc8 : wz.cell? ⟨xb, xo + G, none⟩ = some (.int .i64 (t : Int)) := hsz
        clear hsz
        go_simp
        try (intro h9; omega)
      try simp [Act.put]
      refine wpAnyH_take (i := 9) (v := .int .i64 (t : Int)) rfl (by kernel_rfl) (by kernel_rfl) (by kernel_rfl) (fun _ _ _ h => h) (Or.inl ⟨by rfl, ?_⟩) hSw ?_
      · intro wz hsz
        have hc8 : wz.cell? ⟨xb, xo + G, none⟩ = some (.int .i64 (t : Int)) := hsz
        clear hsz
        go_simp
      try simp [Act.put]
      refine wpAnyH_ready (rs := [5, 10]) (by kernel_rfl) (by simp) ?_
      refine AllReadyH.cons rfl (fun K9 hK => ?_) (AllReadyH.cons rfl (fun K9 hK => ?_) AllReadyH.nil)
      · go_simp
        refine hK.out _ _ (hSw) (fun hSn => ?_)
        clear hK K9 hSw
        have hSw := hSn
        clear hSn
        try simp [Act.put]
        refine wpAnyH_ready (rs := [10]) (by kernel_rfl) (by simp) ?_
        refine AllReadyH.cons rfl (fun K9 hK => ?_) AllReadyH.nil
        go_simp
        have hB7 : Below w2.heap.size w2 (w5.drew.alloc (.cells #[.int .i64 (t : Int)] 3)) := hBd.alloc hBd.size _
        have hF7 := hFd.on ((Below.refl w5.drew.heap.size w5.drew).alloc (Nat.le_refl _) (.cells #[.int .i64 (t : Int)] 3))
        refine hK.out _ _ (((hB7).cell (p := ⟨xb, xo + G, none⟩) hxw).trans y2) (fun hSn => ?_)
        clear hK K9 hSw
        have hSw := hSn
        clear hSn
        try simp [Act.put]
        have hrow7 := hF7.row H hHlt
        rw [HK.out] at hrow7
        obtain ⟨v', w7, hrun7, hown7, hgr7, -, hat7⟩ := run_append_own_at (P := Try.prog) (w5.drew.alloc (.cells #[.int .i64 (t : Int)] 3)) (gb + 1) 24 24 3 i0' (.int .i64 0) 1 8 Try.underlying24 hi hz0 hz1 hz2 rfl (by decide) (.slice (A1 H) 1 (C1 H)) 1 (vL (fun _ => g H) 1) hrow7 ⟨w5.heap.size, 0, none⟩ 1 1 [.int .i64 (t : Int)] rfl (cell_one_new _ _ _) (fun u hu => by simp at hu; subst hu; rfl) (by unfold maxLen; omega) (by omega) hF7.head.lt
        have hO7 : Own w7 (gb + 1) v' (1 + 1) (hoR2 (g H) t) := by unfold Own; rw [show vL (hoR2 (g H) t) (1 + 1) = vL (fun _ => g H) 1 ++ [.int .i64 (t : Int)] from rfl]; exact hown7
        have hB8 : Below w2.heap.size w2 w7 := hB7.grown hgr7 hB7.size (fun q hq => by have := (World.ownsRow.lt hrow7 q hq).1; omega)
        obtain ⟨a', c', rfl⟩ := hO7.shape
        refine wpAnyH_ready (rs := [11]) (by kernel_rfl) (by simp) ?_
        refine AllReadyH.cons rfl (fun K9 hK => ?_) AllReadyH.nil
        refine held_app (by kernel_rfl) (.tmp 63) (.tmp 68) 24 rfl rfl rfl hrun7 ?_
        refine hK.out _ _ (((hB8).cell (p := ⟨xb, xo + G, none⟩) hxw).trans y2) (fun hSn => ?_)
        clear hK K9 hSw
        have hSw := hSn
        clear hSn
        try simp [Act.put]
        refine wpAnyH_take (i := 12) (v := .pointer (some ⟨gb, H, none⟩)) rfl (by kernel_rfl) (by kernel_rfl) (by kernel_rfl) (fun _ _ _ h => h) (Or.inl ⟨by rfl, ?_⟩) hSw ?_
        · intro wz hsz
          have hc8 : wz.cell? ⟨xb, xo + G, none⟩ = some (.int .i64 (t : Int)) := hsz
          clear hsz
          go_simp
          try (intro h9; omega)
        try simp [Act.put]
        have hh7 := hF7.head3 hHlt (by rw [HK.out]; exact hgr7)
        have hcc7 := hh7.cell hHlt
        have hff7 := hh7.frozen H
        have hF8 := (hF7.conH HK.out t).step hHlt (by rw [HK.out]; exact hgr7) (by rw [HK.out]; simpa using hO7) (by rw [HK.out]; exact hat7)
        rw [HK.out] at hF8
        have hB9 := hB8.setCell (p := ⟨gb, H, none⟩) hgb (.slice a' (1 + 1) c')
        have HB9 : Hid (Below w2.heap.size w2 (w7.setCell ⟨gb, H, none⟩ (.slice a' (1 + 1) c'))) := hB9
        have HF9 : Hid (∃ A C, Fs (w7.setCell ⟨gb, H, none⟩ (.slice a' (1 + 1) c')) (gb + 1) gb s A (fun i => if i = H then 2 else hoF G s i) C (fun i => if i = H then hoR2 (g H) t else fun _ => g i) ∧ A H = a' ∧ C H = c') := ⟨_, _, hF8, by simp, by simp⟩
        clear hF8 hh7 hown7 hgr7 hat7 hrun7 hO7 hrow7 hF7 hFd hcd
        refine wpAnyH_ready (rs := [13]) (by kernel_rfl) (by simp) ?_
        refine AllReadyH.cons rfl (fun K9 hK => ?_) AllReadyH.nil
        go_simp
        refine hK.out _ _ (((hB9).cell (p := ⟨xb, xo + G, none⟩) hxw).trans y2) (fun hSn => ?_)
        clear hK K9 hSw
        have hSw := hSn
        clear hSn
        try simp [Act.put]
        refine wpAnyH_done (by kernel_rfl) ?_ _
        clear hSw hcc7 hff7 hB8 hB7 hB9
        generalize w7.setCell ⟨gb, H, none⟩ (.slice a' (1 + 1) c') = w8 at *
        obtain ⟨A8, C8, hF8, ea8, ec8⟩ := HF9.out
        have hrw8 := hF8.row H hHlt
        rw [ea8, ec8] at hrw8
        simp only [if_true] at hrw8
        obtain ⟨B8, cap8, es8, hb8, hP8⟩ := hrw8.some (by omega)
        have ea9 : a' = some ⟨B8, 0, none⟩ := by injection es8
        have hx8 := hF8.head.cell hHlt
        simp only [if_true] at hx8
        rw [ea8, ec8, ea9] at hx8
        have hP9 : IP w8 B8 ([g H, (t : Int)]).length (gl [g H, (t : Int)]) := hP8.congr fun i hi9 => by
          have : i = 0 ∨ i = 1 := by omega
          rcases this with rfl | rfl <;> rfl
        have kS := Try.slices_Sort_int B8 0 c' [g H, (t : Int)] w8 (ip_holds hP9) hP9.lt (by show 2 < _; omega)
        have hrkx : Hid (Rk w8 w2.heap.size w8.heap.size (some ⟨gb, 0, none⟩) s (fun i => if i = H then 2 else hoF G s i) (fun i => if i = H then hoR2 (g H) t else fun _ => g i) gb A8 C8) := hF8.rk0 hgb
        have hlt8 := hF8.head.lt
        have ea10 : A8 H = some ⟨B8, 0, none⟩ := by rw [ea8, ea9]
        clear hF8 hrw8 HF9 ea8 ec8 es8 hP8 y0 z0
        subst ea9
        go_upto_region 13 with (first | (go_at_call 44; refine kS.mono ?_; rintro e w9 ⟨rfl, nq, os, hw9'⟩; have hw9 : Hid (w9 = grow (putRow (Value.int .i64) (Sort.ahead w8 nq) B8 0 ([g H, (t : Int)].mergeSort fun x y => decide (x ≤ y)).toArray) os) := hw9'; clear hw9') | fail)
        obtain ⟨hPz, _⟩ := put_ip hP9 ([g H, (t : Int)].mergeSort fun x y => decide (x ≤ y)) (by simp) nq os
        rw [← hw9.out] at hPz
        have hoth : ∀ k, k < w8.heap.size → k ≠ B8 → w9.heap[k]? = w8.heap[k]? := fun k hk hkb => by rw [hw9.out]; exact put_other _ _ _ k hk hkb
        have hsz9 : w8.heap.size ≤ w9.heap.size := by rw [hw9.out, size_grow, size_putRow]; exact Nat.le_add_right _ _
        have hos9 : w9.os = w8.os ∧ w9.tape = w8.tape ∧ w9.output = w8.output := by rw [hw9.out]; exact ⟨rfl, rfl, rfl⟩
        clear hw9 kS hP9 hx8
        have hR8 := hrkx.out
        have hR9 := hR8.sorted hHlt (by simp) ea10 hsz9 hoth (f := gl ([g H, (t : Int)].mergeSort fun x y => decide (x ≤ y))) (by simpa using hPz) hsz9
        have hB10 : Below w2.heap.size w2 w9 := HB9.out.trans ⟨hos9.1, hos9.2.1, hos9.2.2, hsz9, fun k hk => hoth k (by have := HB9.out.size; omega) (by omega)⟩
        have HEnd : Hid (RK w9 w.heap.size w9.heap.size (some ⟨gb, 0, none⟩) s (hoK G H) (hoR g G H)) := fun _ => ⟨gb, A8, C8, (hR9.con2 (fun i hi9 => by
          unfold hoK hoF
          by_cases c9 : i = H
          · subst c9; simp only [if_true]; rw [if_neg hHne]
          · by_cases c8 : i = G
            · subst c8; rw [if_neg c9, if_pos rfl, if_neg (by omega)]
            · rw [if_neg c9, if_neg c8, if_neg c9, if_pos ⟨hi9, c8⟩]) (fun i j hi9 hj9 => hoR_srt ht i j hj9)).wide2 hsz2⟩
        have hB11 : Below w.heap.size w w9 := hB2.trans (hB10.mono hsz2)
        clear hR8 hR9 hrkx hPz hoth
        go_wp2
        go_ret2
        exact ⟨⟨_, _, rfl, HEnd.out⟩, hB11⟩
      · go_simp
        have hB7 : Below w2.heap.size w2 (w5.drew.alloc (.cells #[.int .i64 (t : Int)] 3)) := hBd.alloc hBd.size _
        have hF7 := hFd.on ((Below.refl w5.drew.heap.size w5.drew).alloc (Nat.le_refl _) (.cells #[.int .i64 (t : Int)] 3))
        refine hK.out _ _ (((hB7).cell (p := ⟨xb, xo + G, none⟩) hxw).trans y2) (fun hSn => ?_)
        clear hK K9 hSw
        have hSw := hSn
        clear hSn
        try simp [Act.put]
        have hc5 : w5.cell? ⟨gb, H, none⟩ = some (.slice (A1 H) 1 (C1 H)) := hcd
        refine wpAnyH_ready (rs := [5]) (by kernel_rfl) (by simp) ?_
        refine AllReadyH.cons rfl (fun K9 hK => ?_) AllReadyH.nil
        go_simp
        refine hK.out _ _ (hSw) (fun hSn => ?_)
        clear hK K9 hSw
        have hSw := hSn
        clear hSn
        try simp [Act.put]
        have hrow7 := hF7.row H hHlt
        rw [HK.out] at hrow7
        obtain ⟨v', w7, hrun7, hown7, hgr7, -, hat7⟩ := run_append_own_at (P := Try.prog) (w5.drew.alloc (.cells #[.int .i64 (t : Int)] 3)) (gb + 1) 24 24 3 i0' (.int .i64 0) 1 8 Try.underlying24 hi hz0 hz1 hz2 rfl (by decide) (.slice (A1 H) 1 (C1 H)) 1 (vL (fun _ => g H) 1) hrow7 ⟨w5.heap.size, 0, none⟩ 1 1 [.int .i64 (t : Int)] rfl (cell_one_new _ _ _) (fun u hu => by simp at hu; subst hu; rfl) (by unfold maxLen; omega) (by omega) hF7.head.lt
        have hO7 : Own w7 (gb + 1) v' (1 + 1) (hoR2 (g H) t) := by unfold Own; rw [show vL (hoR2 (g H) t) (1 + 1) = vL (fun _ => g H) 1 ++ [.int .i64 (t : Int)] from rfl]; exact hown7
        have hB8 : Below w2.heap.size w2 w7 := hB7.grown hgr7 hB7.size (fun q hq => by have := (World.ownsRow.lt hrow7 q hq).1; omega)
        obtain ⟨a', c', rfl⟩ := hO7.shape
        refine wpAnyH_ready (rs := [11]) (by kernel_rfl) (by simp) ?_
        refine AllReadyH.cons rfl (fun K9 hK => ?_) AllReadyH.nil
        refine held_app (by kernel_rfl) (.tmp 63) (.tmp 68) 24 rfl rfl rfl hrun7 ?_
        refine hK.out _ _ (((hB8).cell (p := ⟨xb, xo + G, none⟩) hxw).trans y2) (fun hSn => ?_)
        clear hK K9 hSw
        have hSw := hSn
        clear hSn
        try simp [Act.put]
        refine wpAnyH_take (i := 12) (v := .pointer (some ⟨gb, H, none⟩)) rfl (by kernel_rfl) (by kernel_rfl) (by kernel_rfl) (fun _ _ _ h => h) (Or.inl ⟨by rfl, ?_⟩) hSw ?_
        · intro wz hsz
          have hc8 : wz.cell? ⟨xb, xo + G, none⟩ = some (.int .i64 (t : Int)) := hsz
          clear hsz
          go_simp
          try (intro h9; omega)
        try simp [Act.put]
        have hh7 := hF7.head3 hHlt (by rw [HK.out]; exact hgr7)
        have hcc7 := hh7.cell hHlt
        have hff7 := hh7.frozen H
        have hF8 := (hF7.conH HK.out t).step hHlt (by rw [HK.out]; exact hgr7) (by rw [HK.out]; simpa using hO7) (by rw [HK.out]; exact hat7)
        rw [HK.out] at hF8
        have hB9 := hB8.setCell (p := ⟨gb, H, none⟩) hgb (.slice a' (1 + 1) c')
        have HB9 : Hid (Below w2.heap.size w2 (w7.setCell ⟨gb, H, none⟩ (.slice a' (1 + 1) c'))) := hB9
        have HF9 : Hid (∃ A C, Fs (w7.setCell ⟨gb, H, none⟩ (.slice a' (1 + 1) c')) (gb + 1) gb s A (fun i => if i = H then 2 else hoF G s i) C (fun i => if i = H then hoR2 (g H) t else fun _ => g i) ∧ A H = a' ∧ C H = c') := ⟨_, _, hF8, by simp, by simp⟩
        clear hF8 hh7 hown7 hgr7 hat7 hrun7 hO7 hrow7 hF7 hFd hcd
        refine wpAnyH_ready (rs := [13]) (by kernel_rfl) (by simp) ?_
        refine AllReadyH.cons rfl (fun K9 hK => ?_) AllReadyH.nil
        go_simp
        refine hK.out _ _ (((hB9).cell (p := ⟨xb, xo + G, none⟩) hxw).trans y2) (fun hSn => ?_)
        clear hK K9 hSw
        have hSw := hSn
        clear hSn
        try simp [Act.put]
        refine wpAnyH_done (by kernel_rfl) ?_ _
        clear hSw hcc7 hff7 hB8 hB7 hB9
        generalize w7.setCell ⟨gb, H, none⟩ (.slice a' (1 + 1) c') = w8 at *
        obtain ⟨A8, C8, hF8, ea8, ec8⟩ := HF9.out
        have hrw8 := hF8.row H hHlt
        rw [ea8, ec8] at hrw8
        simp only [if_true] at hrw8
        obtain ⟨B8, cap8, es8, hb8, hP8⟩ := hrw8.some (by omega)
        have ea9 : a' = some ⟨B8, 0, none⟩ := by injection es8
        have hx8 := hF8.head.cell hHlt
        simp only [if_true] at hx8
        rw [ea8, ec8, ea9] at hx8
        have hP9 : IP w8 B8 ([g H, (t : Int)]).length (gl [g H, (t : Int)]) := hP8.congr fun i hi9 => by
          have : i = 0 ∨ i = 1 := by omega
          rcases this with rfl | rfl <;> rfl
        have kS := Try.slices_Sort_int B8 0 c' [g H, (t : Int)] w8 (ip_holds hP9) hP9.lt (by show 2 < _; omega)
        have hrkx : Hid (Rk w8 w2.heap.size w8.heap.size (some ⟨gb, 0, none⟩) s (fun i => if i = H then 2 else hoF G s i) (fun i => if i = H then hoR2 (g H) t else fun _ => g i) gb A8 C8) := hF8.rk0 hgb
        have hlt8 := hF8.head.lt
        have ea10 : A8 H = some ⟨B8, 0, none⟩ := by rw [ea8, ea9]
        clear hF8 hrw8 HF9 ea8 ec8 es8 hP8 y0 z0
        subst ea9
        go_upto_region 13 with (first | (go_at_call 44; refine kS.mono ?_; rintro e w9 ⟨rfl, nq, os, hw9'⟩; have hw9 : Hid (w9 = grow (putRow (Value.int .i64) (Sort.ahead w8 nq) B8 0 ([g H, (t : Int)].mergeSort fun x y => decide (x ≤ y)).toArray) os) := hw9'; clear hw9') | fail)
        obtain ⟨hPz, _⟩ := put_ip hP9 ([g H, (t : Int)].mergeSort fun x y => decide (x ≤ y)) (by simp) nq os
        rw [← hw9.out] at hPz
        have hoth : ∀ k, k < w8.heap.size → k ≠ B8 → w9.heap[k]? = w8.heap[k]? := fun k hk hkb => by rw [hw9.out]; exact put_other _ _ _ k hk hkb
        have hsz9 : w8.heap.size ≤ w9.heap.size := by rw [hw9.out, size_grow, size_putRow]; exact Nat.le_add_right _ _
        have hos9 : w9.os = w8.os ∧ w9.tape = w8.tape ∧ w9.output = w8.output := by rw [hw9.out]; exact ⟨rfl, rfl, rfl⟩
        clear hw9 kS hP9 hx8
        have hR8 := hrkx.out
        have hR9 := hR8.sorted hHlt (by simp) ea10 hsz9 hoth (f := gl ([g H, (t : Int)].mergeSort fun x y => decide (x ≤ y))) (by simpa using hPz) hsz9
        have hB10 : Below w2.heap.size w2 w9 := HB9.out.trans ⟨hos9.1, hos9.2.1, hos9.2.2, hsz9, fun k hk => hoth k (by have := HB9.out.size; omega) (by omega)⟩
        have HEnd : Hid (RK w9 w.heap.size w9.heap.size (some ⟨gb, 0, none⟩) s (hoK G H) (hoR g G H)) := fun _ => ⟨gb, A8, C8, (hR9.con2 (fun i hi9 => by
          unfold hoK hoF
          by_cases c9 : i = H
          · subst c9; simp only [if_true]; rw [if_neg hHne]
          · by_cases c8 : i = G
            · subst c8; rw [if_neg c9, if_pos rfl, if_neg (by omega)]
            · rw [if_neg c9, if_neg c8, if_neg c9, if_pos ⟨hi9, c8⟩]) (fun i j hi9 hj9 => hoR_srt ht i j hj9)).wide2 hsz2⟩
        have hB11 : Below w.heap.size w w9 := hB2.trans (hB10.mono hsz2)
        clear hR8 hR9 hrkx hPz hoth
        go_wp2
        go_ret2
        exact ⟨⟨_, _, rfl, HEnd.out⟩, hB11⟩
end Go.Proofs.Ytjmdghkhapajiaa
