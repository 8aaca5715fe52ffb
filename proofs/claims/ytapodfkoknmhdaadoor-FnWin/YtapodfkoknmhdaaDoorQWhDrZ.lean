/- The board that is drawn. -/
import Derived.Test.YtapodfkoknmhdaaDoorQWhDrY
import Derived.Deep.Cut
import Derived.Deep.CutRange
import Derived.Deep.RegionHeld
namespace Go.Proofs.YtapodfkoknmhdaaDoor
open Go.RowKit
theorem own_two (w : World) (base : Nat) (x y : Int) (h : base ≤ w.heap.size) : Own (w.alloc (.cells #[.int .i64 x, .int .i64 y] 3)) base (.slice (some ⟨w.heap.size, 0, none⟩) 2 2) 2 (fun i => if i = 0 then x else y) :=
  ⟨by simp [vL], .inr ⟨w.heap.size, 2, #[.int .i64 x, .int .i64 y], rfl, h, heap_alloc_new w _, Nat.le_refl _, by unfold maxLen; omega, rfl, by simp [vL, List.range_succ]⟩⟩
set_option maxRecDepth 20000 in
set_option maxHeartbeats 8000000 in
theorem board_any (C : Nat) (a : Option Addr) (len cap n : Nat) (w : World) (h : Cur w C a len cap n) (hn : n ≤ 1000) :
    Calls Tryd.prog 99 #[.pointer (some ⟨C, 0, none⟩)] w fun e w' => AnsBo w w' e C a len cap n := by
  obtain ⟨i0, hi, hzz⟩ := Option.map_eq_some_iff.1 infoI
  simp only [Prod.mk.injEq] at hzz
  obtain ⟨hz0, hz1, hz2⟩ := hzz
  obtain ⟨i1, hj, hzz⟩ := Option.map_eq_some_iff.1 infoStr
  simp only [Prod.mk.injEq] at hzz
  obtain ⟨hy0, hy1, hy2⟩ := hzz
  obtain ⟨i2, hk2, hzz⟩ := Option.map_eq_some_iff.1 infoBool
  simp only [Prod.mk.injEq] at hzz
  obtain ⟨hx0, hx1, hx2⟩ := hzz
  obtain ⟨i3, hinf3, hzz⟩ := Option.map_eq_some_iff.1 infoRw
  simp only [Prod.mk.injEq] at hzz
  obtain ⟨hw_0, hw_1, hw_2⟩ := hzz
  have hC := h.lt
  have RB : Hid (Bx (w.alloc (bdO none 0 0 none 0 0 none 0 0 38)) w.heap.size (bdL none 0 0 none 0 0 none 0 0)) := bx_new (w := w) (bdL none 0 0 none 0 0 none 0 0) 38 rfl
  have HB0 : Hid (Bst (w.alloc (bdO none 0 0 none 0 0 none 0 0 38)) ((w.alloc (bdO none 0 0 none 0 0 none 0 0 38)).alloc (bdO none 0 0 none 0 0 none 0 0 38)) C (w.heap.size + 1) a len cap n (.slice none 0 0) (.slice none 0 0) (.slice none 0 0) [] [] [] (fun _ => 0) (fun _ _ => 0)) := bst_new _ h
  have hc0 := HB0.out.cur
  clear h
  go_enter Tryd.func99, Tryd.ntmps99
  go_wp2_with fail
  refine (pick_any C a len cap n 8 _ hc0 (by omega)).mono ?_
  rintro e w1 ⟨p1, n1, rfl, h10, h11, -, hn1, hc1, hO1⟩
  have h12 := h11 (by omega)
  have HB1 := HB0.out.step hc1 (tn_only hO1)
  clear HB0 hc0 hO1 h11
  go_wp2_with fail
  refine (one_any C a len cap n1 16 _ hc1 (by omega)).mono ?_
  rintro e w2 ⟨u, n2, rfl, hn2, hc2, hO2⟩
  have HB2 := HB1.step hc2 (tn_only hO2)
  clear HB1 hc1 hO2
  have HK2 : Hid (Bk (w.alloc (bdO none 0 0 none 0 0 none 0 0 38)) w2 C (w.heap.size + 1) a len cap n2 0) := ⟨_, _, _, _, _, _, _, _, HB2, rfl, rfl, rfl, fun i hi => absurd hi (Nat.not_lt_zero _)⟩
  go_upto_if 14 with fail
  go_cut [4] from 15 to 17 (fun i wx => ∃ (N n5 : Nat), i = .int .i64 (N : Int) ∧ N ≤ 15 ∧ n5 ≤ n + 6 ∧ Hid (Bk (w.alloc (bdO none 0 0 none 0 0 none 0 0 38)) wx C (w.heap.size + 1) a len cap n5 0))
  case first =>
    cases u with
    | false =>
      clear HB2
      go_wp2_with fail
      go_meet
      case rel => exact ⟨(1 + p1).toNat, n2, by congr 1; omega, by omega, by omega, HK2⟩
    | true =>
      have hIP := lit_ip w2 [0, 14, 15] 3
      have HB5 := HB2.al (.cells #[.int .i64 0, .int .i64 14, .int .i64 15] 3)
      have hc5 := HB5.cur
      simp only [List.map_cons, List.map_nil, List.length_cons, List.length_nil, Nat.zero_add, Nat.reduceAdd] at hIP
      have hlt4 := hc2.lt
      go_wp2_with fail
      refine (among_any C a len cap n2 w2.heap.size 3 3 _ _ hc5 (by omega) hIP (by omega) (by omega) (by omega)).mono ?_
      rintro e w6 ⟨i, n6, hi6, rfl, hn6, hc6, hO6⟩
      have HB6 := HB5.step hc6 (tn_only hO6)
      have HK6 : Hid (Bk (w.alloc (bdO none 0 0 none 0 0 none 0 0 38)) w6 C (w.heap.size + 1) a len cap n6 0) := ⟨_, _, _, _, _, _, _, _, HB6, rfl, rfl, rfl, fun i hi => absurd hi (Nat.not_lt_zero _)⟩
      clear HB5 HB6 hO6 hIP HB2
      obtain ⟨X, hX, hX2⟩ : ∃ X : Nat, [0, 14, 15].getD i (0 : Int) = (X : Int) ∧ X ≤ 15 := by
        match i, hi6 with
        | 0, _ => exact ⟨0, rfl, by omega⟩
        | 1, _ => exact ⟨14, rfl, by omega⟩
        | 2, _ => exact ⟨15, rfl, by omega⟩
      rw [hX]
      clear hX
      go_wp2_with fail
      go_meet
      case rel => exact ⟨X, n6, rfl, hX2, by omega, HK6⟩
  case rest =>
  obtain ⟨N, n5, rfl, hN, hn5, HK5⟩ := hcut
  clear HK2 HB2 hc2
  generalize wc = w5 at *
  go_wp2_with fail
  go_loopw [5] (fun i wr => ∃ (k n' : Nat), i = .int .i64 (k : Int) ∧ k ≤ N ∧ n' ≤ n + 6 + 50 * k ∧ Hid (Bk (w.alloc (bdO none 0 0 none 0 0 none 0 0 38)) wr C (w.heap.size + 1) a len cap n' k)) (fun i _ => N - (intOf i).toNat)
  case atStart => exact ⟨0, n5, rfl, Nat.zero_le _, by omega, HK5⟩
  case round =>
    clear HK5
    obtain ⟨k, n', rfl, hk, hn', HK⟩ := hrel
    obtain ⟨v1, v2, v3, l1, l2, l3, K, F, hB, e1, e2, e3, hKb⟩ := HK.out
    clear HK
    obtain ⟨x1, c1, rfl, -⟩ := owns_slice hB.o1
    obtain ⟨x2, c2, rfl, -⟩ := owns_slice hB.o2
    obtain ⟨x3, c3, rfl, -⟩ := owns_slice hB.o3
    have hl1 : l1.length ≤ 15 := by omega
    have hl2 : l2.length ≤ 15 := by omega
    have hl3 : l3.length ≤ 15 := by omega
    have HE : Hid (l1.length = k ∧ l2.length = k ∧ l3.length = k ∧ ∀ i, i < k → K i ≤ 20) := ⟨e1, e2, e3, hKb⟩
    have HS : Hid (Bst (w.alloc (bdO none 0 0 none 0 0 none 0 0 38)) wr C (w.heap.size + 1) a len cap n' (.slice x1 l1.length c1) (.slice x2 l2.length c2) (.slice x3 l3.length c3) l1 l2 l3 K F) := hB
    have hc3 := hB.cur
    clear e1 e2 e3 hKb hB
    by_cases hlt : k < N
    · have j0 : (k : Int) < (N : Int) := by omega
      go_wp2_with fail
      refine (one_any C a len cap n' 2 _ hc3 (by omega)).mono ?_
      rintro e w6 ⟨u6, n6, rfl, hn6, hc6, hO6⟩
      have HS6 : Hid (Bst (w.alloc (bdO none 0 0 none 0 0 none 0 0 38)) w6 C (w.heap.size + 1) a len cap n6 (.slice x1 l1.length c1) (.slice x2 l2.length c2) (.slice x3 l3.length c3) l1 l2 l3 K F) := HS.out.step hc6 (tn_only hO6)
      clear HS hc3 hO6
      go_upto_if 24 with fail
      go_cut [6] from 18 to 56 (fun s6 wx => ∃ (s : ByteArray) (n7 : Nat), s6 = .string s ∧ s.size ≤ 1000 ∧ n7 ≤ n6 + 2 ∧ Hid (Bst (w.alloc (bdO none 0 0 none 0 0 none 0 0 38)) wx C (w.heap.size + 1) a len cap n7 (.slice x1 l1.length c1) (.slice x2 l2.length c2) (.slice x3 l3.length c3) l1 l2 l3 K F))
      case first =>
        cases u6 with
        | false =>
          go_wp2_with fail
          go_meet
          case rel => exact ⟨⟨#[]⟩, n6, rfl, Nat.zero_le _, by omega, HS6⟩
        | true =>
          go_wp2_with fail
          refine (name_any C a len cap n6 _ hc6 (by omega)).mono ?_
          rintro e w7 ⟨s7, n7, rfl, hs7, hn7, hc7, hT7⟩
          have HS7 : Hid (Bst (w.alloc (bdO none 0 0 none 0 0 none 0 0 38)) w7 C (w.heap.size + 1) a len cap n7 (.slice x1 l1.length c1) (.slice x2 l2.length c2) (.slice x3 l3.length c3) l1 l2 l3 K F) := HS6.out.step hc7 hT7
          clear HS6 hT7
          go_wp2_with fail
          go_meet
          case rel => exact ⟨s7, n7, rfl, hs7, by omega, HS7⟩
      case rest =>
      obtain ⟨s, n7, rfl, hs7, hn7, HS7⟩ := hcut
      clear HS6 hc6
      generalize wc = w7 at *
      go_wp2_with fail
      go_loopw [7, 8] (fun v j wr => ∃ (q t n8 : Nat) (G : Nat → Int), j = .int .i64 (t : Int) ∧ t ≤ N ∧ q ≤ t ∧ n8 ≤ n7 + 2 * t ∧ (∃ x c, v = .slice x q c) ∧ Hid (Bst (w.alloc (bdO none 0 0 none 0 0 none 0 0 38)) wr C (w.heap.size + 1) a len cap n8 (.slice x1 l1.length c1) (.slice x2 l2.length c2) (.slice x3 l3.length c3) l1 l2 l3 K F) ∧ Hid (Rws wr (w.heap.size + 1) (.slice x1 l1.length c1) (.slice x2 l2.length c2) (.slice x3 l3.length c3) l3 v q G)) (fun _ j _ => N - (intOf j).toNat)
      case atStart => exact ⟨0, 0, n7, fun _ => 0, rfl, Nat.zero_le _, Nat.le_refl _, by omega, ⟨none, 0, rfl⟩, HS7, rws_nil _ _ _ _ _ _ _⟩
      case round =>
        clear HS7
        obtain ⟨q, t, n8, G, rfl, ht, hq, hn8, ⟨x, c, rfl⟩, HS8, HR8⟩ := hrel
        have hc8 := HS8.out.cur
        have hz8 := HS8.out.t.size
        simp only [size_al] at hz8
        have hbx8 := HS8.out.box.lt
        by_cases htn : t < N
        · have j1 : (t : Int) < (N : Int) := by omega
          go_wp2_with fail
          refine (one_any C a len cap n8 3 _ hc8 (by omega)).mono ?_
          rintro e w9 ⟨u9, n9, rfl, hn9, hc9, hO9⟩
          have HS9 : Hid (Bst (w.alloc (bdO none 0 0 none 0 0 none 0 0 38)) w9 C (w.heap.size + 1) a len cap n9 (.slice x1 l1.length c1) (.slice x2 l2.length c2) (.slice x3 l3.length c3) l1 l2 l3 K F) := HS8.out.step hc9 (tn_only hO9)
          have HR9 : Hid (Rws w9 (w.heap.size + 1) (.slice x1 l1.length c1) (.slice x2 l2.length c2) (.slice x3 l3.length c3) l3 (.slice x q c) q G) := HR8.out.step (tn_only hO9) (by omega)
          have hz9 := HS9.out.box.lt
          clear HS8 HR8 hc8 hO9 hbx8
          cases u9 with
          | false =>
            go_wp2
            exact ⟨⟨q, t + 1, n9, G, by go_num, by omega, by omega, by omega, ⟨x, c, rfl⟩, HS9, HR9⟩, by simp [intOf]; omega⟩
          | true =>
            have hown8 := HR9.out.own
            unfold Own at hown8
            go_wp2_with (at_builtin; refine wpList_append_own_at _ rfl _ _ 41 rfl (w.heap.size + 1 + 1) 3 i0 (.int .i64 0) 1 8 Tryd.underlying41 hi hz0 hz1 hz2 rfl (by decide) _ _ _ rfl (World.ownsRow.alloc hown8 _) ⟨w9.heap.size, 0, none⟩ 1 1 [.int .i64 (t : Int)] rfl rfl (cell_one_new _ _ _) (fun y hy => by simp at hy; subst hy; rfl) (by unfold maxLen; omega) (by omega) (by simp; omega) ?_; intro v' wA ho' hg' _ hat')
            have hA := Rws.app HS9.out HR9.out hg' ho' hat'
            obtain ⟨y, yc, rfl⟩ := hA.2.own.shape
            exact ⟨⟨q + 1, t + 1, n9, _, by go_num, by omega, by omega, by omega, ⟨_, _, rfl⟩, hA.1, hA.2⟩, by simp [intOf]; omega⟩
        · have j1 : ¬ (t : Int) < (N : Int) := by omega
          have z0 := HS8.out.box.c0
          have hq15 : q ≤ 15 := by omega
          go_upto_region 18 with (at_builtin; refine wpList_append_own_at _ rfl _ _ 23 rfl (w.heap.size + 1 + 1) 9 i1 (.string ⟨#[]⟩) 1 16 Tryd.underlying23 hj hy0 hy1 hy2 rfl (by decide) _ _ _ rfl (World.ownsRow.alloc HS8.out.o1 _) ⟨wr.heap.size, 0, none⟩ 1 1 [.string s] rfl rfl (cell_one_new _ _ _) (fun y hy => by simp at hy; subst hy; rfl) (by unfold maxLen; omega) (by omega) (by simp; omega) ?_; intro v1' w10 ho10 hg10 _ hat10; obtain ⟨y1, d1, rfl, -⟩ := owns_slice ho10; have bg := HS8.out.bxg hg10 (fun g hg => (World.ownsRow.lt HS8.out.o1 g hg).1); have z0' := bg.c0; have f0' := bg.fz 0; have zl' := bg.lt)
          have HS11 : Hid (Bst (w.alloc (bdO none 0 0 none 0 0 none 0 0 38)) (w10.setCell ⟨w.heap.size + 1, 0, none⟩ (.slice y1 (l1.length + 1) d1)) C (w.heap.size + 1) a len cap n8 (.slice y1 (l1.length + 1) d1) (.slice x2 l2.length c2) (.slice x3 l3.length c3) (l1 ++ [s]) l2 l3 K F) := HS8.out.app1 hg10 ho10 hat10 hs7
          have HR11 : Hid (Rws (w10.setCell ⟨w.heap.size + 1, 0, none⟩ (.slice y1 (l1.length + 1) d1)) (w.heap.size + 1) (.slice y1 (l1.length + 1) d1) (.slice x2 l2.length c2) (.slice x3 l3.length c3) l3 (.slice x q c) q G) := HR8.out.a1 hg10 hat10
          clear HS8 HR8 hc8 z0 bg z0' f0' zl' ho10 hg10 hat10 hbx8 hz8
          generalize w10.setCell ⟨w.heap.size + 1, 0, none⟩ (.slice y1 (l1.length + 1) d1) = w11 at *
          go_cut [6] from 18 to 56 (fun s6 wx => s6 = .string s ∧ ∃ (y2 : Option Addr) (d2 n12 : Nat) (bb : Bool), n12 ≤ n8 + 2 ∧ Hid (Bst (w.alloc (bdO none 0 0 none 0 0 none 0 0 38)) wx C (w.heap.size + 1) a len cap n12 (.slice y1 (l1.length + 1) d1) (.slice y2 (l2.length + 1) d2) (.slice x3 l3.length c3) (l1 ++ [s]) (l2 ++ [bb]) l3 K F) ∧ Hid (Rws wx (w.heap.size + 1) (.slice y1 (l1.length + 1) d1) (.slice y2 (l2.length + 1) d2) (.slice x3 l3.length c3) l3 (.slice x q c) q G))
          case first =>
            have D11 := HS11.out.dr_
            have E11 := HR11.out.step (C := C) (turns_of (Below.refl w11.heap.size w11).drew) (by omega)
            have g1 := D11.box.c1
            have gl := D11.box.lt
            clear HS11 HR11
            refine wp_region_held (S := (fun w' => w'.cell? ⟨w.heap.size + 1, 0, none⟩ = some (.slice y1 (l1.length + 1) d1) ∧ w'.cell? ⟨w.heap.size + 1, 2, none⟩ = some (.slice x3 l3.length c3))) (by kernel_rfl) ?_
            change wpAnyH _ _ _ _ _ _ _ _ (World.drew _)
            have hSw := (⟨D11.box.c0, D11.box.c2⟩ : _ ∧ _)
            refine wpAnyH_take (i := 0) (v := .pointer (some ⟨w.heap.size + 1, 1, none⟩)) rfl (by kernel_rfl) (by kernel_rfl) (by kernel_rfl) (fun _ _ _ h => h) (Or.inl ⟨by rfl, ?_⟩) hSw ?_
            · intro wz hsz
              obtain ⟨hc8, hc9⟩ := hsz
              go_simp
            try simp [Act.put]
            refine wpAnyH_take (i := 2) (v := .pointer (some ⟨C, 0, none⟩)) rfl (by kernel_rfl) (by kernel_rfl) (by kernel_rfl) (fun _ _ _ h => h) (Or.inl ⟨by rfl, ?_⟩) hSw ?_
            · intro wz hsz
              obtain ⟨hc8, hc9⟩ := hsz
              go_simp
            try simp [Act.put]
            refine wpAnyH_ready (rs := [1, 3]) (by kernel_rfl) (by simp) ?_
            refine AllReadyH.cons rfl (fun K9 hK => ?_) (AllReadyH.cons rfl (fun K9 hK => ?_) AllReadyH.nil)
            · go_simp
              refine hK.out _ _ (hSw) (fun hSn => ?_)
              clear hK K9 hSw
              have hSw := hSn
              clear hSn
              try simp [Act.put]
              refine wpAnyH_ready (rs := [3]) (by kernel_rfl) (by simp) ?_
              refine AllReadyH.cons rfl (fun K9 hK => ?_) AllReadyH.nil
              go_simp
              go_at_call 115
              refine (one_any C a len cap n8 2 _ D11.cur (by omega)).mono ?_
              rintro e9 w12 ⟨u12, n12, rfl, hn12, hc12, hO12⟩
              have D12 := D11.step hc12 (tn_only hO12)
              have E12 := E11.step (tn_only hO12) (by omega)
              have hz12 := D12.box.lt
              refine hK.out _ _ (⟨D12.box.c0, D12.box.c2⟩) (fun hSn => ?_)
              clear hK K9 hSw
              have hSw := hSn
              clear hSn
              try simp [Act.put]
              refine wpAnyH_ready (rs := [4]) (by kernel_rfl) (by simp) ?_
              refine AllReadyH.cons rfl (fun K9 hK => ?_) AllReadyH.nil
              go_simp
              have D13 := D12.al (.cells #[.bool u12] 4)
              refine hK.out _ _ (⟨D13.box.c0, D13.box.c2⟩) (fun hSn => ?_)
              clear hK K9 hSw
              have hSw := hSn
              clear hSn
              try simp [Act.put]
              obtain ⟨v2', w13, hrun, ho, hg, -, hat⟩ := run_append_own_at (P := Tryd.prog) (w12.alloc (.cells #[.bool u12] 4)) (w.heap.size + 1 + 1) 35 35 4 i2 (.bool false) 1 1 Tryd.underlying35 hk2 hx0 hx1 hx2 rfl (by decide) (.slice x2 l2.length c2) l2.length (l2.map Value.bool) (World.ownsRow.alloc D12.o2 _) ⟨w12.heap.size, 0, none⟩ 1 1 [.bool u12] rfl (cell_one_new _ _ _) (fun y hy => by simp at hy; subst hy; rfl) (by unfold maxLen; omega) (by omega) (by simp; omega)
              obtain ⟨y2, d2, rfl, -⟩ := owns_slice ho
              have bg := D12.bxg hg (fun g hg => (World.ownsRow.lt D12.o2 g hg).1)
              have D14 := D12.app2 hg ho hat
              have E14 := E12.a2 hg hat
              refine wpAnyH_ready (rs := [5]) (by kernel_rfl) (by simp) ?_
              refine AllReadyH.cons rfl (fun K9 hK => ?_) AllReadyH.nil
              refine held_app (by kernel_rfl) (.tmp 45) (.tmp 48) 35 rfl rfl rfl hrun ?_
              refine hK.out _ _ (⟨bg.c0, bg.c2⟩) (fun hSn => ?_)
              clear hK K9 hSw
              have hSw := hSn
              clear hSn
              try simp [Act.put]
              refine wpAnyH_take (i := 6) (v := .pointer (some ⟨w.heap.size + 1, 1, none⟩)) rfl (by kernel_rfl) (by kernel_rfl) (by kernel_rfl) (fun _ _ _ h => h) (Or.inl ⟨by rfl, ?_⟩) hSw ?_
              · intro wz hsz
                obtain ⟨hc8, hc9⟩ := hsz
                go_simp
              try simp [Act.put]
              have q1 := bg.c1
              have q2 := bg.fz 1
              have q3 := bg.lt
              refine wpAnyH_ready (rs := [7]) (by kernel_rfl) (by simp) ?_
              refine AllReadyH.cons rfl (fun K9 hK => ?_) AllReadyH.nil
              go_simp
              refine hK.out _ _ (⟨D14.box.c0, D14.box.c2⟩) (fun hSn => ?_)
              clear hK K9 hSw
              have hSw := hSn
              clear hSn
              try simp [Act.put]
              refine wpAnyH_done (by kernel_rfl) ?_ _
              go_wp2_with fail
              go_meet
              case rel => exact ⟨rfl, y2, d2, n12, u12, by omega, D14, E14⟩
            · go_simp
              go_at_call 115
              refine (one_any C a len cap n8 2 _ D11.cur (by omega)).mono ?_
              rintro e9 w12 ⟨u12, n12, rfl, hn12, hc12, hO12⟩
              have D12 := D11.step hc12 (tn_only hO12)
              have E12 := E11.step (tn_only hO12) (by omega)
              have hz12 := D12.box.lt
              refine hK.out _ _ (⟨D12.box.c0, D12.box.c2⟩) (fun hSn => ?_)
              clear hK K9 hSw
              have hSw := hSn
              clear hSn
              try simp [Act.put]
              have g2 := D12.box.c1
              refine wpAnyH_ready (rs := [1, 4]) (by kernel_rfl) (by simp) ?_
              refine AllReadyH.cons rfl (fun K9 hK => ?_) (AllReadyH.cons rfl (fun K9 hK => ?_) AllReadyH.nil)
              · go_simp
                refine hK.out _ _ (hSw) (fun hSn => ?_)
                clear hK K9 hSw
                have hSw := hSn
                clear hSn
                try simp [Act.put]
                refine wpAnyH_ready (rs := [4]) (by kernel_rfl) (by simp) ?_
                refine AllReadyH.cons rfl (fun K9 hK => ?_) AllReadyH.nil
                go_simp
                have D13 := D12.al (.cells #[.bool u12] 4)
                refine hK.out _ _ (⟨D13.box.c0, D13.box.c2⟩) (fun hSn => ?_)
                clear hK K9 hSw
                have hSw := hSn
                clear hSn
                try simp [Act.put]
                obtain ⟨v2', w13, hrun, ho, hg, -, hat⟩ := run_append_own_at (P := Tryd.prog) (w12.alloc (.cells #[.bool u12] 4)) (w.heap.size + 1 + 1) 35 35 4 i2 (.bool false) 1 1 Tryd.underlying35 hk2 hx0 hx1 hx2 rfl (by decide) (.slice x2 l2.length c2) l2.length (l2.map Value.bool) (World.ownsRow.alloc D12.o2 _) ⟨w12.heap.size, 0, none⟩ 1 1 [.bool u12] rfl (cell_one_new _ _ _) (fun y hy => by simp at hy; subst hy; rfl) (by unfold maxLen; omega) (by omega) (by simp; omega)
                obtain ⟨y2, d2, rfl, -⟩ := owns_slice ho
                have bg := D12.bxg hg (fun g hg => (World.ownsRow.lt D12.o2 g hg).1)
                have D14 := D12.app2 hg ho hat
                have E14 := E12.a2 hg hat
                refine wpAnyH_ready (rs := [5]) (by kernel_rfl) (by simp) ?_
                refine AllReadyH.cons rfl (fun K9 hK => ?_) AllReadyH.nil
                refine held_app (by kernel_rfl) (.tmp 45) (.tmp 48) 35 rfl rfl rfl hrun ?_
                refine hK.out _ _ (⟨bg.c0, bg.c2⟩) (fun hSn => ?_)
                clear hK K9 hSw
                have hSw := hSn
                clear hSn
                try simp [Act.put]
                refine wpAnyH_take (i := 6) (v := .pointer (some ⟨w.heap.size + 1, 1, none⟩)) rfl (by kernel_rfl) (by kernel_rfl) (by kernel_rfl) (fun _ _ _ h => h) (Or.inl ⟨by rfl, ?_⟩) hSw ?_
                · intro wz hsz
                  obtain ⟨hc8, hc9⟩ := hsz
                  go_simp
                try simp [Act.put]
                have q1 := bg.c1
                have q2 := bg.fz 1
                have q3 := bg.lt
                refine wpAnyH_ready (rs := [7]) (by kernel_rfl) (by simp) ?_
                refine AllReadyH.cons rfl (fun K9 hK => ?_) AllReadyH.nil
                go_simp
                refine hK.out _ _ (⟨D14.box.c0, D14.box.c2⟩) (fun hSn => ?_)
                clear hK K9 hSw
                have hSw := hSn
                clear hSn
                try simp [Act.put]
                refine wpAnyH_done (by kernel_rfl) ?_ _
                go_wp2_with fail
                go_meet
                case rel => exact ⟨rfl, y2, d2, n12, u12, by omega, D14, E14⟩
              · go_simp
                have D13 := D12.al (.cells #[.bool u12] 4)
                refine hK.out _ _ (⟨D13.box.c0, D13.box.c2⟩) (fun hSn => ?_)
                clear hK K9 hSw
                have hSw := hSn
                clear hSn
                try simp [Act.put]
                have g3 := D13.box.c1
                have g4 := D13.box.lt
                refine wpAnyH_ready (rs := [1]) (by kernel_rfl) (by simp) ?_
                refine AllReadyH.cons rfl (fun K9 hK => ?_) AllReadyH.nil
                go_simp
                refine hK.out _ _ (hSw) (fun hSn => ?_)
                clear hK K9 hSw
                have hSw := hSn
                clear hSn
                try simp [Act.put]
                obtain ⟨v2', w13, hrun, ho, hg, -, hat⟩ := run_append_own_at (P := Tryd.prog) (w12.alloc (.cells #[.bool u12] 4)) (w.heap.size + 1 + 1) 35 35 4 i2 (.bool false) 1 1 Tryd.underlying35 hk2 hx0 hx1 hx2 rfl (by decide) (.slice x2 l2.length c2) l2.length (l2.map Value.bool) (World.ownsRow.alloc D12.o2 _) ⟨w12.heap.size, 0, none⟩ 1 1 [.bool u12] rfl (cell_one_new _ _ _) (fun y hy => by simp at hy; subst hy; rfl) (by unfold maxLen; omega) (by omega) (by simp; omega)
                obtain ⟨y2, d2, rfl, -⟩ := owns_slice ho
                have bg := D12.bxg hg (fun g hg => (World.ownsRow.lt D12.o2 g hg).1)
                have D14 := D12.app2 hg ho hat
                have E14 := E12.a2 hg hat
                refine wpAnyH_ready (rs := [5]) (by kernel_rfl) (by simp) ?_
                refine AllReadyH.cons rfl (fun K9 hK => ?_) AllReadyH.nil
                refine held_app (by kernel_rfl) (.tmp 45) (.tmp 48) 35 rfl rfl rfl hrun ?_
                refine hK.out _ _ (⟨bg.c0, bg.c2⟩) (fun hSn => ?_)
                clear hK K9 hSw
                have hSw := hSn
                clear hSn
                try simp [Act.put]
                refine wpAnyH_take (i := 6) (v := .pointer (some ⟨w.heap.size + 1, 1, none⟩)) rfl (by kernel_rfl) (by kernel_rfl) (by kernel_rfl) (fun _ _ _ h => h) (Or.inl ⟨by rfl, ?_⟩) hSw ?_
                · intro wz hsz
                  obtain ⟨hc8, hc9⟩ := hsz
                  go_simp
                try simp [Act.put]
                have q1 := bg.c1
                have q2 := bg.fz 1
                have q3 := bg.lt
                refine wpAnyH_ready (rs := [7]) (by kernel_rfl) (by simp) ?_
                refine AllReadyH.cons rfl (fun K9 hK => ?_) AllReadyH.nil
                go_simp
                refine hK.out _ _ (⟨D14.box.c0, D14.box.c2⟩) (fun hSn => ?_)
                clear hK K9 hSw
                have hSw := hSn
                clear hSn
                try simp [Act.put]
                refine wpAnyH_done (by kernel_rfl) ?_ _
                go_wp2_with fail
                go_meet
                case rel => exact ⟨rfl, y2, d2, n12, u12, by omega, D14, E14⟩
          case rest =>
          obtain ⟨rfl, y2, d2, n12, bb, hn12, HS12, HR12⟩ := hcut
          clear HS11 HR11
          generalize wc = w14 at *
          have hz14 := HS12.out.box.lt
          have z2 := HS12.out.box.c2
          go_wp2_with (at_builtin; refine wpList_append_own_at _ rfl _ _ 36 rfl (w.heap.size + 1 + 1) 41 i3 (.slice none 0 0) 1 24 Tryd.underlying36 hinf3 hw_0 hw_1 hw_2 rfl (by decide) _ _ _ rfl (World.ownsRow.alloc HS12.out.o3 _) ⟨w14.heap.size, 0, none⟩ 1 1 [.slice x q c] rfl rfl (cell_one_new _ _ _) (fun y hy => by simp at hy; subst hy; rfl) (by unfold maxLen; omega) (by omega) (by simp; omega) ?_; intro v3' w15 ho15 hg15 _ hat15; obtain ⟨y3, d3, rfl, -⟩ := owns_slice ho15; have bg := HS12.out.bxg hg15 (fun g hg => (World.ownsRow.lt HS12.out.o3 g hg).1); have z2' := bg.c2; have f2' := bg.fz 2; have zl' := bg.lt)
          have HS16 := HS12.out.app3 HR12.out.own (fun g hg => ⟨(HR12.out.ap g hg).1, (HR12.out.ap g hg).2.1, (HR12.out.ap g hg).2.2.1⟩) hg15 ho15 hat15
          obtain ⟨e1, e2, e3, e4⟩ := HE.out
          have HK16 : Bk (w.alloc (bdO none 0 0 none 0 0 none 0 0 38)) (w15.setCell ⟨w.heap.size + 1, 2, none⟩ (.slice y3 (l3.length + 1) d3)) C (w.heap.size + 1) a len cap n12 (k + 1) := ⟨_, _, _, _, _, _, _, _, HS16, by simp; omega, by simp; omega, by simp; omega, fun i hi => by
            by_cases c9 : i = l3.length
            · rw [if_pos c9]; omega
            · rw [if_neg c9]; exact e4 i (by omega)⟩
          exact ⟨⟨k + 1, n12, by go_num, by omega, by omega, HK16⟩, by simp [intOf]; omega⟩
    · have hkN : k = N := by omega
      subst hkN
      have j0 : ¬ (k : Int) < (k : Int) := by omega
      have hKB : ∀ i, i < l3.length → K i ≤ 20 := fun i hi => HE.out.2.2.2 i (by have := HE.out.2.2.1; omega)
      go_wp2_with fail
      refine (pick_any C a len cap n' 30 _ hc3 (by omega)).mono ?_
      rintro e w20 ⟨p2, n20, rfl, h20, h21, -, hn20, hc20, hO20⟩
      have HSz : Hid (Bst (w.alloc (bdO none 0 0 none 0 0 none 0 0 38)) w20 C (w.heap.size + 1) a len cap n20 (.slice x1 l1.length c1) (.slice x2 l2.length c2) (.slice x3 l3.length c3) l1 l2 l3 K F) := HS.out.step hc20 (tn_only hO20)
      clear HS hc3 hO20 h21
      have hzz20 := HSz.out.box.lt
      by_cases p0 : p2 = 0
      · subst p0
        have z1 := HSz.out.box.c1
        go_upto_region 29 with (at_builtin; refine wpList_append_own_at _ rfl _ _ 35 rfl (w.heap.size + 1 + 1) 4 i2 (.bool false) 1 1 Tryd.underlying35 hk2 hx0 hx1 hx2 rfl (by decide) _ _ _ rfl (World.ownsRow.alloc HSz.out.o2 _) ⟨w20.heap.size, 0, none⟩ 1 1 [.bool true] rfl rfl (cell_one_new _ _ _) (fun y hy => by simp at hy; subst hy; rfl) (by unfold maxLen; omega) (by omega) (by simp; omega) ?_; intro v2' w21 ho21 hg21 _ hat21; obtain ⟨y2, d2, rfl, -⟩ := owns_slice ho21; have bg := HSz.out.bxg hg21 (fun g hg => (World.ownsRow.lt HSz.out.o2 g hg).1); have z1' := bg.c1; have f1' := bg.fz 1; have zl' := bg.lt)
        have HSy : Hid (Bst (w.alloc (bdO none 0 0 none 0 0 none 0 0 38)) (w21.setCell ⟨w.heap.size + 1, 1, none⟩ (.slice y2 (l2.length + 1) d2)) C (w.heap.size + 1) a len cap n20 (.slice x1 l1.length c1) (.slice y2 (l2.length + 1) d2) (.slice x3 l3.length c3) l1 (l2 ++ [true]) l3 K F) := HSz.out.app2 hg21 ho21 hat21
        clear HSz z1 bg z1' f1' zl' ho21 hg21 hat21
        generalize w21.setCell ⟨w.heap.size + 1, 1, none⟩ (.slice y2 (l2.length + 1) d2) = w22 at *
        have rb := RB.out.turns HSy.out.t (.inr (by omega))
        have r0 := rb.c0
        have r1 := rb.c1
        have r2 := rb.c2
        have rf0 := rb.fz 0
        have rf1 := rb.fz 1
        have rf2 := rb.fz 2
        have rl := rb.lt
        have b0 := HSy.out.box.c0
        have b1 := HSy.out.box.c1
        have b2 := HSy.out.box.c2
        have bl := HSy.out.box.lt
        have bR := ((rb.set 0 (by simp) (.slice x1 l1.length c1)).set 1 (by simp) (.slice y2 (l2.length + 1) d2)).set 2 (by simp) (.slice x3 l3.length c3)
        have hA := HSy.out.ans (n := n) hC (by first | omega | (simp <;> omega)) (by first | omega | (simp <;> omega)) (by first | omega | (simp <;> omega)) (fun i hi => Nat.le_trans (hKB i (by first | exact hi | simpa using hi)) (by omega)) (by omega)
        go_wp2_with fail
        refine ret_brd Tryd.results99 rfl bR.c0 bR.c1 bR.c2 rfl ?_
        exact hA
      by_cases p1 : p2 = 1
      · subst p1
        by_cases hN0 : 0 < k
        · have hl0 : 0 < l3.length := by have := HE.out.2.2.1; omega
          have jN : (0 : Int) < (k : Int) := by omega
          have jl : (0 : Int) < (l3.length : Int) := by omega
          obtain ⟨g3, cc3, hv3, -, -, -, -, -⟩ := HSz.out.set3 (F0 := fun _ => 0) hl0 (World.ownsRow_nil _ _ _ _ : Own w20 (w.heap.size + 1 + 1) (.slice none 0 0) 0 (fun _ => 0)) (fun g hg => by cases hg)
          cases hv3
          go_upto_region 25 with fail
          have D20 := HSz.out.dr_
          clear HSz
          refine wp_region_held (S := (fun w' => w'.cell? ⟨w.heap.size + 1, 0, none⟩ = some (.slice x1 l1.length c1) ∧ w'.cell? ⟨w.heap.size + 1, 2, none⟩ = some (.slice (some ⟨g3, 0, none⟩) l3.length c3))) (by kernel_rfl) ?_
          change wpAnyH _ _ _ _ _ _ _ _ (World.drew _)
          have hSw := (⟨D20.box.c0, D20.box.c2⟩ : _ ∧ _)
          refine wpAnyH_take (i := 0) (v := .pointer (some ⟨w.heap.size + 1, 2, none⟩)) rfl (by kernel_rfl) (by kernel_rfl) (by kernel_rfl) (fun _ _ _ h => h) (Or.inl ⟨by rfl, ?_⟩) hSw ?_
          · intro wz hsz
            obtain ⟨hc8, hc9⟩ := hsz
            go_simp
          try simp [Act.put]
          refine wpAnyH_take (i := 1) (v := (.slice (some ⟨g3, 0, none⟩) l3.length c3)) rfl (by kernel_rfl) (by kernel_rfl) (by kernel_rfl) (fun _ _ _ h => h) (Or.inl ⟨by rfl, ?_⟩) hSw ?_
          · intro wz hsz
            obtain ⟨hc8, hc9⟩ := hsz
            go_simp
          try simp [Act.put]
          refine wpAnyH_take (i := 2) (v := .pointer (some ⟨C, 0, none⟩)) rfl (by kernel_rfl) (by kernel_rfl) (by kernel_rfl) (fun _ _ _ h => h) (Or.inl ⟨by rfl, ?_⟩) hSw ?_
          · intro wz hsz
            obtain ⟨hc8, hc9⟩ := hsz
            go_simp
          try simp [Act.put]
          refine wpAnyH_take (i := 3) (v := .int .i64 (k : Int)) rfl (by kernel_rfl) (by kernel_rfl) (by kernel_rfl) (fun _ _ _ h => h) (Or.inl ⟨by rfl, ?_⟩) hSw ?_
          · intro wz hsz
            obtain ⟨hc8, hc9⟩ := hsz
            go_simp
          try simp [Act.put]
          refine wpAnyH_take (i := 4) (v := .int .i64 ((k : Int) + 1)) rfl (by kernel_rfl) (by kernel_rfl) (by kernel_rfl) (fun _ _ _ h => h) (Or.inl ⟨by rfl, ?_⟩) hSw ?_
          · intro wz hsz
            obtain ⟨hc8, hc9⟩ := hsz
            go_simp
            try (exact IntWalk.i64_in _ (by omega))
          try simp [Act.put]
          refine wpAnyH_ready (rs := [5]) (by kernel_rfl) (by simp) ?_
          refine AllReadyH.cons rfl (fun K9 hK => ?_) AllReadyH.nil
          go_simp
          go_at_call 51
          refine (pick_any C a len cap n20 _ _ D20.cur (by omega)).mono ?_
          rintro e9 w21 ⟨p5, n21, rfl, -, -, -, hn21, hc21, hO21⟩
          have D21 := D20.step hc21 (tn_only hO21)
          have hz21 := D21.box.lt
          refine hK.out _ _ (⟨D21.box.c0, D21.box.c2⟩) (fun hSn => ?_)
          clear hK K9 hSw
          have hSw := hSn
          clear hSn
          try simp [Act.put]
          refine wpAnyH_ready (rs := [6]) (by kernel_rfl) (by simp) ?_
          refine AllReadyH.cons rfl (fun K9 hK => ?_) AllReadyH.nil
          go_simp
          have D22 := D21.al (.cells #[.int .i64 p5, .int .i64 0] 3)
          have O22 := own_two w21 (w.heap.size + 1 + 1) p5 0 (by omega)
          refine hK.out _ _ (⟨D22.box.c0, D22.box.c2⟩) (fun hSn => ?_)
          clear hK K9 hSw
          have hSw := hSn
          clear hSn
          try simp [Act.put]
          refine wpAnyH_take (i := 7) (v := .pointer (some ⟨g3, 0, none⟩)) rfl (by kernel_rfl) (by kernel_rfl) (by kernel_rfl) (fun _ _ _ h => h) (Or.inl ⟨by rfl, ?_⟩) hSw ?_
          · intro wz hsz
            obtain ⟨hc8, hc9⟩ := hsz
            go_simp
            try (intro h9; omega)
          try simp [Act.put]
          obtain ⟨g4, cc4, hv4, ⟨u4, hu4⟩, hf4, hl4, hB4, D23⟩ := D22.set3 hl0 O22 (fun g hg => by
            have hgw : w21.heap.size = g := by simpa [Value.ownBlock] using hg
            exact ⟨fun e9 => by have := (World.ownsRow.lt D21.o1 g e9).2; omega, fun e9 => by have := (World.ownsRow.lt D21.o2 g e9).2; omega, fun e9 => by have := (World.ownsRow.lt D21.o3 g e9).2; omega⟩)
          cases hv4
          refine wpAnyH_ready (rs := [8]) (by kernel_rfl) (by simp) ?_
          refine AllReadyH.cons rfl (fun K9 hK => ?_) AllReadyH.nil
          go_simp
          refine hK.out _ _ (⟨D23.box.c0, D23.box.c2⟩) (fun hSn => ?_)
          clear hK K9 hSw
          have hSw := hSn
          clear hSn
          try simp [Act.put]
          refine wpAnyH_done (by kernel_rfl) ?_ _
          have HSy : Hid (Bst (w.alloc (bdO none 0 0 none 0 0 none 0 0 38)) ((w21.alloc (.cells #[.int .i64 p5, .int .i64 0] 3)).setCell ⟨g3, 0, none⟩ (.slice (some ⟨w21.heap.size, 0, none⟩) 2 2)) C (w.heap.size + 1) a len cap n21 (.slice x1 l1.length c1) (.slice x2 l2.length c2) (.slice (some ⟨g3, 0, none⟩) l3.length c3) l1 l2 (l3.set 0 (.slice (some ⟨w21.heap.size, 0, none⟩) 2 2)) (fun i => if i = 0 then 2 else K i) (fun i => if i = 0 then (fun i => if i = 0 then p5 else 0) else F i)) := D23
          clear D20 D21 D22 D23 O22 hSw
          go_upto_region 29 with fail
          generalize (w21.alloc (.cells #[.int .i64 p5, .int .i64 0] 3)).setCell ⟨g3, 0, none⟩ (.slice (some ⟨w21.heap.size, 0, none⟩) 2 2) = w22 at *
          have rb := RB.out.turns HSy.out.t (.inr (by omega))
          have r0 := rb.c0
          have r1 := rb.c1
          have r2 := rb.c2
          have rf0 := rb.fz 0
          have rf1 := rb.fz 1
          have rf2 := rb.fz 2
          have rl := rb.lt
          have b0 := HSy.out.box.c0
          have b1 := HSy.out.box.c1
          have b2 := HSy.out.box.c2
          have bl := HSy.out.box.lt
          have bR := ((rb.set 0 (by simp) (.slice x1 l1.length c1)).set 1 (by simp) (.slice x2 l2.length c2)).set 2 (by simp) (.slice (some ⟨g3, 0, none⟩) l3.length c3)
          have hA := HSy.out.ans (n := n) hC (by first | omega | (simp <;> omega)) (by first | omega | (simp <;> omega)) (by first | omega | (simp <;> omega)) (fun i hi => by by_cases c9 : i = 0; exact (by rw [if_pos c9]; omega); exact (by rw [if_neg c9]; exact Nat.le_trans (hKB i (by first | exact hi | simpa using hi)) (by omega))) (by omega)
          go_wp2_with fail
          refine ret_brd Tryd.results99 rfl bR.c0 bR.c1 bR.c2 rfl ?_
          exact hA
        · have jN : ¬ (0 : Int) < (k : Int) := by omega
          have rb := RB.out.turns HSz.out.t (.inr (by omega))
          have r0 := rb.c0
          have r1 := rb.c1
          have r2 := rb.c2
          have rf0 := rb.fz 0
          have rf1 := rb.fz 1
          have rf2 := rb.fz 2
          have rl := rb.lt
          have b0 := HSz.out.box.c0
          have b1 := HSz.out.box.c1
          have b2 := HSz.out.box.c2
          have bl := HSz.out.box.lt
          have bR := ((rb.set 0 (by simp) (.slice x1 l1.length c1)).set 1 (by simp) (.slice x2 l2.length c2)).set 2 (by simp) (.slice x3 l3.length c3)
          have hA := HSz.out.ans (n := n) hC (by first | omega | (simp <;> omega)) (by first | omega | (simp <;> omega)) (by first | omega | (simp <;> omega)) (fun i hi => Nat.le_trans (hKB i (by first | exact hi | simpa using hi)) (by omega)) (by omega)
          go_wp2_with fail
          refine ret_brd Tryd.results99 rfl bR.c0 bR.c1 bR.c2 rfl ?_
          exact hA
      by_cases p2' : p2 = 2
      · subst p2'
        by_cases hN0 : 0 < k
        · have hl0 : 0 < l1.length := by have := HE.out.1; omega
          have jN : (0 : Int) < (k : Int) := by omega
          have jl : (0 : Int) < (l1.length : Int) := by omega
          obtain ⟨g1, cc1, hv1, ⟨u1, hu1⟩, hf1, hg1l, hBg1, hS1⟩ := HSz.out.set1 hl0 ⟨#[120, 32, 121]⟩ (by decide)
          cases hv1
          have HSy : Hid (Bst (w.alloc (bdO none 0 0 none 0 0 none 0 0 38)) (w20.setCell ⟨g1, 0, none⟩ (.string ⟨#[120, 32, 121]⟩)) C (w.heap.size + 1) a len cap n20 (.slice (some ⟨g1, 0, none⟩) l1.length c1) (.slice x2 l2.length c2) (.slice x3 l3.length c3) (l1.set 0 ⟨#[120, 32, 121]⟩) l2 l3 K F) := hS1
          have z0 := HSz.out.box.c0
          clear hS1 HSz
          go_upto_region 29 with fail
          generalize w20.setCell ⟨g1, 0, none⟩ (.string ⟨#[120, 32, 121]⟩) = w22 at *
          have rb := RB.out.turns HSy.out.t (.inr (by omega))
          have r0 := rb.c0
          have r1 := rb.c1
          have r2 := rb.c2
          have rf0 := rb.fz 0
          have rf1 := rb.fz 1
          have rf2 := rb.fz 2
          have rl := rb.lt
          have b0 := HSy.out.box.c0
          have b1 := HSy.out.box.c1
          have b2 := HSy.out.box.c2
          have bl := HSy.out.box.lt
          have bR := ((rb.set 0 (by simp) (.slice (some ⟨g1, 0, none⟩) l1.length c1)).set 1 (by simp) (.slice x2 l2.length c2)).set 2 (by simp) (.slice x3 l3.length c3)
          have hA := HSy.out.ans (n := n) hC (by first | omega | (simp <;> omega)) (by first | omega | (simp <;> omega)) (by first | omega | (simp <;> omega)) (fun i hi => Nat.le_trans (hKB i (by first | exact hi | simpa using hi)) (by omega)) (by omega)
          go_wp2_with fail
          refine ret_brd Tryd.results99 rfl bR.c0 bR.c1 bR.c2 rfl ?_
          exact hA
        · have jN : ¬ (0 : Int) < (k : Int) := by omega
          have rb := RB.out.turns HSz.out.t (.inr (by omega))
          have r0 := rb.c0
          have r1 := rb.c1
          have r2 := rb.c2
          have rf0 := rb.fz 0
          have rf1 := rb.fz 1
          have rf2 := rb.fz 2
          have rl := rb.lt
          have b0 := HSz.out.box.c0
          have b1 := HSz.out.box.c1
          have b2 := HSz.out.box.c2
          have bl := HSz.out.box.lt
          have bR := ((rb.set 0 (by simp) (.slice x1 l1.length c1)).set 1 (by simp) (.slice x2 l2.length c2)).set 2 (by simp) (.slice x3 l3.length c3)
          have hA := HSz.out.ans (n := n) hC (by first | omega | (simp <;> omega)) (by first | omega | (simp <;> omega)) (by first | omega | (simp <;> omega)) (fun i hi => Nat.le_trans (hKB i (by first | exact hi | simpa using hi)) (by omega)) (by omega)
          go_wp2_with fail
          refine ret_brd Tryd.results99 rfl bR.c0 bR.c1 bR.c2 rfl ?_
          exact hA
      have q0 : (p2 == 0) = false := by simpa using p0
      have q1 := (by simpa using p1 : (p2 == 1) = false)
      have q2 := (by simpa using p2' : (p2 == 2) = false)
      have rb := RB.out.turns HSz.out.t (.inr (by omega))
      have r0 := rb.c0
      have r1 := rb.c1
      have r2 := rb.c2
      have rf0 := rb.fz 0
      have rf1 := rb.fz 1
      have rf2 := rb.fz 2
      have rl := rb.lt
      have b0 := HSz.out.box.c0
      have b1 := HSz.out.box.c1
      have b2 := HSz.out.box.c2
      have bl := HSz.out.box.lt
      have bR := ((rb.set 0 (by simp) (.slice x1 l1.length c1)).set 1 (by simp) (.slice x2 l2.length c2)).set 2 (by simp) (.slice x3 l3.length c3)
      have hA := HSz.out.ans (n := n) hC (by first | omega | (simp <;> omega)) (by first | omega | (simp <;> omega)) (by first | omega | (simp <;> omega)) (fun i hi => Nat.le_trans (hKB i (by first | exact hi | simpa using hi)) (by omega)) (by omega)
      go_wp2_with fail
      refine ret_brd Tryd.results99 rfl bR.c0 bR.c1 bR.c2 rfl ?_
      exact hA
end Go.Proofs.YtapodfkoknmhdaaDoor
