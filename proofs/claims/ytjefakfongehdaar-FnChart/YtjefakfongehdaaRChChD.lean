/- What FnChart draws: charts. -/
import Derived.Test.YtjefakfongehdaaRChChM
import Derived.Deep.Cut
import Derived.Deep.CutRange
import Derived.Deep.RegionHeld
namespace Go.Proofs.YtjefakfongehdaaR
open Go.RowKit
theorem owns_shape {w : World} {base : Nat} {e : TypeId} {size : Nat} {v : Value} {k : Nat} {xs : List Value} (h : w.ownsRow base e size v k xs) : ∃ a c, v = .slice a k c := by
  obtain ⟨_, ⟨rfl, rfl⟩ | ⟨g, cap, cur, rfl, _⟩⟩ := h
  · exact ⟨_, _, rfl⟩
  · exact ⟨_, _, rfl⟩
/-- an append goes on behind the calls of its region -/
theorem held_ap {P : Program} {o : Oper} {a : Act} {w w' : World} {K : Act → World → Prop} {Q : Exit → Act → World → Prop} {b : Prop} [Decidable b] (hb : b) (s x : Operand) (t : TypeId) (ho : o.op = .call { callee := .builtin .append, args := #[s, x], argTypes := #[t, t] }) {v vx v' : Value} (hs : a.eval s = v) (hx : a.eval x = vx) (hr : (Builtin.append_ #[t, t] o.type #[v, vx]).run P w = .ok v' w') (h : K (a.put o.dst v') w') : if b then Oper.wp P o a w K Q else K (a.put o.dst undef) w := by
  rw [if_pos hb]
  unfold Oper.wp execOp
  simp only [ho, resolve, invoke, builtin, Sem.run_bind, Sem.run_pure, Result.andThen_ok, List.map_toArray, List.map_cons, List.map_nil, hs, hx, hr]
  exact h
/-- each state but the first has a parent ahead of it -/
def PG (G : Nat → Int) (k : Nat) : Prop := ∀ i, 1 ≤ i → i < k → 0 ≤ G (i * 2) ∧ G (i * 2) < (i : Int)
theorem PG.next {G : Nat → Int} {k : Nat} (h : PG G k) {x y : Int} (hx : 1 ≤ k → 0 ≤ x ∧ x < (k : Int)) : PG (put (put G (k * 2) x) (k * 2 + 1) y) (k + 1) := fun i h1 h2 => by
  unfold put
  rw [if_neg (show ¬ i * 2 = k * 2 + 1 by omega)]
  by_cases e : i = k
  · subst e; rw [if_pos rfl]; exact hx h1
  · rw [if_neg (by omega)]; exact h i h1 (by omega)
theorem PG.put {G : Nat → Int} {k : Nat} (h : PG G k) (P : Nat) (v : Int) : PG (put G (P * 2 + 1) v) k := fun i h1 h2 => by
  unfold Go.Proofs.YtjefakfongehdaaR.put
  rw [if_neg (show ¬ i * 2 = P * 2 + 1 by omega)]
  exact h i h1 h2
set_option maxRecDepth 20000 in
set_option maxHeartbeats 16000000 in
theorem chart_any (C : Nat) (a : Option Addr) (len cap n : Nat) (w : World) (h : Cur w C a len cap n) (hn : n ≤ 700000) :
    Calls Try.prog 28 #[.pointer (some ⟨C, 0, none⟩)] w fun e w' => AnsCh w w' e C a len cap n := by
  obtain ⟨i1, hi, hzz⟩ := Option.map_eq_some_iff.1 infoSt
  simp only [Prod.mk.injEq] at hzz
  obtain ⟨hz0, hz1, hz2⟩ := hzz
  obtain ⟨i2, hj, hyy⟩ := Option.map_eq_some_iff.1 infoAw
  simp only [Prod.mk.injEq] at hyy
  obtain ⟨hy0, hy1, hy2⟩ := hyy
  have hC := h.lt
  have hb0 : Below w.heap.size w ((w.alloc (chO none 0 0 none 0 0 26)).alloc (chO none 0 0 none 0 0 26)) := ((Below.refl _ _).alloc (Nat.le_refl _) _).alloc (by simp) _
  have HD0 : Hid (Dch w ((w.alloc (chO none 0 0 none 0 0 26)).alloc (chO none 0 0 none 0 0 26)) C a len cap n none 0 0 (fun _ => 0) none 0 0 (fun _ => 0)) := ⟨h.below hb0 hC, (bx_new (w := w) (chL none 0 0 none 0 0) 26 rfl).alloc _, bx_new (w := w.alloc (chO none 0 0 none 0 0 26)) (chL none 0 0 none 0 0) 26 (by simp), World.ownsRow_nil _ _ _ _, World.ownsRow_nil _ _ _ _, fun _ => rfl, turns_of hb0, by simp⟩
  have hc0 := HD0.out.cur
  clear h hb0
  go_enter Try.func28, Try.ntmps28
  go_wp2_with fail
  refine (pick_any C a len cap n 8 _ hc0 (by omega)).mono ?_
  rintro e w1 ⟨p1, n1, rfl, h10, h11, -, hn1, hc1, hO1⟩
  have h12 := h11 (by omega)
  have HD1 : Hid (Dch w w1 C a len cap n1 none 0 0 (fun _ => 0) none 0 0 (fun _ => 0)) := HD0.out.step hc1 hO1 hC
  clear HD0 hc0 hO1 h11
  go_wp2_with fail
  refine (one_any C a len cap n1 16 _ hc1 (by omega)).mono ?_
  rintro e w2 ⟨u, n2, rfl, hn2, hc2, hO2⟩
  have HD2 : Hid (Dch w w2 C a len cap n2 none 0 0 (fun _ => 0) none 0 0 (fun _ => 0)) := HD1.out.step hc2 hO2 hC
  clear HD1 hc1 hO2
  go_upto_if 15 with fail
  go_cut [4] from 16 to 18 (fun i wx => ∃ (N n5 : Nat), i = .int .i64 (N : Int) ∧ N ≤ 13 ∧ n5 ≤ n + 6 ∧ Hid (Dch w wx C a len cap n5 none 0 0 (fun _ => 0) none 0 0 (fun _ => 0)))
  case first =>
    cases u with
    | false =>
      go_wp2_with fail
      go_meet
      case rel => exact ⟨(1 + p1).toNat, n2, by congr 1; omega, by omega, by omega, HD2⟩
    | true =>
      have hIP := lit_ip w2 [0, 12, 13] 3
      have HD5 : Hid (Dch w (w2.alloc (.cells #[.int .i64 0, .int .i64 12, .int .i64 13] 3)) C a len cap n2 none 0 0 (fun _ => 0) none 0 0 (fun _ => 0)) := HD2.out.al ((Below.refl _ _).alloc (Nat.le_refl _) _)
      have hc5 := HD5.out.cur
      simp only [List.map_cons, List.map_nil, List.length_cons, List.length_nil, Nat.zero_add, Nat.reduceAdd] at hIP
      have hlt4 := hc2.lt
      go_wp2_with fail
      refine (among_any C a len cap n2 w2.heap.size 3 3 _ _ hc5 (by omega) hIP (by omega) (by omega) (by omega)).mono ?_
      rintro e w6 ⟨i, n6, hi6, rfl, hn6, hc6, hO6⟩
      have HD6 : Hid (Dch w w6 C a len cap n6 none 0 0 (fun _ => 0) none 0 0 (fun _ => 0)) := HD5.out.step hc6 hO6 hC
      clear HD5 hO6 hIP
      obtain ⟨X, hX, hX2⟩ : ∃ X : Nat, [0, 12, 13].getD i (0 : Int) = (X : Int) ∧ X ≤ 13 := by
        match i, hi6 with
        | 0, _ => exact ⟨0, rfl, by omega⟩
        | 1, _ => exact ⟨12, rfl, by omega⟩
        | 2, _ => exact ⟨13, rfl, by omega⟩
      rw [hX]
      clear hX
      go_wp2_with fail
      go_meet
      case rel => exact ⟨X, n6, rfl, hX2, by omega, HD6⟩
  case rest =>
  obtain ⟨N, n5, rfl, hN, hn5, HD5⟩ := hcut
  clear HD2 hc2
  generalize wc = w5 at *
  go_wp2_with fail
  go_loopw [5] (fun i wr => ∃ (k n' : Nat) (a1 : Option Addr) (c1 : Nat) (G : Nat → Int), i = .int .i64 (k : Int) ∧ k ≤ N ∧ n' ≤ n + 6 + 2 * k ∧ Hid (PG G k) ∧ Hid (Dch w wr C a len cap n' a1 k c1 G none 0 0 (fun _ => 0))) (fun i _ => N - (intOf i).toNat)
  case atStart => exact ⟨0, n5, none, 0, _, rfl, Nat.zero_le _, by omega, fun i h1 h2 => absurd h2 (Nat.not_lt_zero _), HD5⟩
  case round =>
    clear HD5
    obtain ⟨k, n', a1, c1, G, rfl, hk, hn', HP, HD⟩ := hrel
    by_cases hlt : k < N
    · have j0 : (0 : Int) ≤ (k : Int) := by omega
      have j1 : (k : Int) < (N : Int) := by omega
      have D1 := HD.out.al ((Below.refl wr.heap.size wr).alloc (Nat.le_refl _) (.cells #[.int .i64 (-1), .int .i64 (-1)] 67))
      have bt := bx_new (w := wr) [.int .i64 (-1), .int .i64 (-1)] 67 rfl
      by_cases k0 : k = 0
      · subst k0
        have t0 := bt.c0
        have t1 := bt.c1
        have HP2 : Hid (PG (put (put G (0 * 2) (-1)) (0 * 2 + 1) (-1)) (0 + 1)) := HP.out.next (by omega)
        have jz : ¬ (0 : Int) < ((0 : Nat) : Int) := by omega
        go_upto_region 11 with fail
        generalize wr.alloc (.cells #[.int .i64 (-1), .int .i64 (-1)] 67) = wt at *
        have D8 := D1.al ((Below.refl wt.heap.size wt).alloc (Nat.le_refl _) (.cells #[.int .i64 (-1), .int .i64 (-1)] 67))
        have x0 := D8.bx.c0
        have x5 := D1.bx.c0
        go_wp2_with (at_builtin; refine wpList_append_own_at _ rfl _ _ 23 rfl (w.heap.size + 2) 67 i1 (.agg #[.int .i64 0, .int .i64 0]) 2 16 Try.underlying23 hi hz0 hz1 hz2 rfl (by decide) _ _ _ rfl D8.o1 ⟨wt.heap.size, 0, none⟩ 1 1 [.int .i64 (-1), .int .i64 (-1)] rfl rfl (cell_bx _ _) (fun u hu => by simp at hu; first | (subst hu; rfl) | (rcases hu with rfl | rfl <;> rfl)) (by unfold maxLen; omega) (by omega) D8.sz ?_; intro v' w9 hown9 hgr9 _ hat9; obtain ⟨a', c', hv9⟩ := owns_shape hown9; subst hv9; have b9 := D8.bx.below (D8.grow (v := .slice a1 0 c1) (fun q hq => (World.ownsRow.lt D8.o1 q hq).1) hgr9) (by omega); have hcc9 := b9.c0; have hff9 := b9.fz 0; have HD9 := D8.app1 hgr9 hown9 hat9 hC; have HD10 := HD9; clear HD9)
        exact ⟨⟨0 + 1, n', a', c', _, by go_num, by omega, by omega, HP2, HD10⟩, by simp [intOf]; omega⟩
      · have jk : (0 : Int) < (k : Int) := by omega
        have hcT := D1.cur
        go_wp2_with fail
        refine (pick_any C a len cap n' (k : Int) _ hcT (by omega)).mono ?_
        rintro e w6 ⟨p6, n6, rfl, h60, h61, -, hn6, hc6, hO6⟩
        have h62 := h61 (by omega)
        have D6 := D1.step hc6 hO6 hC
        have hszr := HD.out.sz
        have b6 := bt.turns (tn_only hO6) (.inr (by omega))
        have D7 := D6.tmp (B := wr.heap.size) (i := 0) (u := .int .i64 p6) hszr (HD.out.old1 (Nat.le_refl _)) (HD.out.old2 (Nat.le_refl _)) hC
        have b7 := b6.set 0 (by simp) (.int .i64 p6)
        have t0 := b6.c0
        have tf := b6.fz 0
        have t1 := b6.c1
        have t7 := b7.c0
        have t8 := b7.c1
        have HP2 : Hid (PG (put (put G (k * 2) p6) (k * 2 + 1) (-1)) (k + 1)) := HP.out.next (fun _ => ⟨h60, h62⟩)
        clear D1 bt HP hcT hO6 h61 HD
        go_upto_region 11 with fail
        clear t0 tf t1 b6
        generalize w6.setCell ⟨wr.heap.size, 0, none⟩ (.int .i64 p6) = wt at *
        have D8 := D7.al ((Below.refl wt.heap.size wt).alloc (Nat.le_refl _) (.cells #[.int .i64 p6, .int .i64 (-1)] 67))
        have x0 := D8.bx.c0
        have x5 := D7.bx.c0
        go_wp2_with (at_builtin; refine wpList_append_own_at _ rfl _ _ 23 rfl (w.heap.size + 2) 67 i1 (.agg #[.int .i64 0, .int .i64 0]) 2 16 Try.underlying23 hi hz0 hz1 hz2 rfl (by decide) _ _ _ rfl D8.o1 ⟨wt.heap.size, 0, none⟩ 1 1 [.int .i64 p6, .int .i64 (-1)] rfl rfl (cell_bx _ _) (fun u hu => by simp at hu; first | (subst hu; rfl) | (rcases hu with rfl | rfl <;> rfl)) (by unfold maxLen; omega) (by omega) D8.sz ?_; intro v' w9 hown9 hgr9 _ hat9; obtain ⟨a', c', hv9⟩ := owns_shape hown9; subst hv9; have b9 := D8.bx.below (D8.grow (v := .slice a1 k c1) (fun q hq => (World.ownsRow.lt D8.o1 q hq).1) hgr9) (by omega); have hcc9 := b9.c0; have hff9 := b9.fz 0; have HD9 := D8.app1 hgr9 hown9 hat9 hC; have HD10 := HD9; clear HD9)
        exact ⟨⟨k + 1, n6, a', c', _, by go_num, by omega, by omega, HP2, HD10⟩, by simp [intOf]; omega⟩
    · have hkN : N = k := by omega
      subst hkN
      clear hlt
      go_wp2_with fail
      go_loopw [7] (fun s wr => ∃ (i n' : Nat) (G : Nat → Int), s = .int .i64 (i : Int) ∧ 1 ≤ i ∧ (i ≤ N ∨ i = 1) ∧ n' ≤ n + 32 + 2 * i ∧ Hid (PG G N) ∧ Hid (Dch w wr C a len cap n' a1 N c1 G none 0 0 (fun _ => 0))) (fun s _ => N - (intOf s).toNat)
      case atStart => exact ⟨1, n', G, rfl, by omega, .inr rfl, by omega, HP, HD⟩
      case round =>
        clear HP HD
        obtain ⟨i, n', G, rfl, hi1, hiN, hn', HP, HD⟩ := hrel
        by_cases hlt : i < N
        · have D := HD.out
          obtain ⟨B, rfl, hBl, hBc, hBf⟩ := D.at1 (by omega)
          have hpar := HP.out i hi1 hlt
          have y0 := hBc (i * 2) (by omega)
          obtain ⟨P, hP⟩ : ∃ P : Nat, G (i * 2) = (P : Int) := ⟨(G (i * 2)).toNat, by omega⟩
          rw [hP] at y0
          have hPN : P < N := by omega
          have y1 := hBc (P * 2 + 1) (by omega)
          have yf := hBf (P * 2 + 1)
          have x0 := D.bx.c0
          have j0 : (0 : Int) ≤ (i : Int) := by omega
          have j1 : (i : Int) < (N : Int) := by omega
          have j2 : (0 : Int) ≤ (P : Int) := by omega
          have j3 : (P : Int) < (N : Int) := by omega
          have HPp : Hid (PG (put G (P * 2 + 1) (i : Int)) N) := HP.out.put P _
          have hc := D.cur
          have hiN2 : i + 1 ≤ N ∨ i + 1 = 1 := by omega
          clear hBc hBf hpar hP
          generalize hF : G (P * 2 + 1) = F at *
          clear hF
          by_cases hF0 : F < 0
          · have HDn : Hid (Dch w (wr.setCell ⟨B, P * 2 + 1, none⟩ (.int .i64 (i : Int))) C a len cap n' (some ⟨B, 0, none⟩) N c1 (put G (P * 2 + 1) (i : Int)) none 0 0 (fun _ => 0)) := D.put1 hC
            clear HP HD D hc
            go_wp2
            exact ⟨⟨i + 1, n', _, by go_num, by omega, hiN2, by omega, HPp, HDn⟩, by simp [intOf]; omega⟩
          · go_wp2_with fail
            refine (one_any C a len cap n' 3 _ hc (by omega)).mono ?_
            rintro e w6 ⟨u6, n6, rfl, hn6, hc6, hO6⟩
            have D6 := D.step hc6 hO6 hC
            have HD6 : Hid (Dch w w6 C a len cap n6 (some ⟨B, 0, none⟩) N c1 G none 0 0 (fun _ => 0)) := D6
            have x6 := D6.bx.c0
            have hBC : B ≠ C := by have := (World.ownsRow.lt D.o1 B (by simp [Value.ownBlock])).1; omega
            have y6 := (cell_same (hO6.block B hBC) (P * 2 + 1)).trans y1
            have yf6 := (frozen_same (hO6.block B hBC) (P * 2 + 1)).trans yf
            cases u6 with
            | true =>
              have HDn : Hid (Dch w (w6.setCell ⟨B, P * 2 + 1, none⟩ (.int .i64 (i : Int))) C a len cap n6 (some ⟨B, 0, none⟩) N c1 (put G (P * 2 + 1) (i : Int)) none 0 0 (fun _ => 0)) := D6.put1 hC
              clear HP HD D hc D6 HD6 hc6 hO6
              go_wp2
              exact ⟨⟨i + 1, n6, _, by go_num, by omega, hiN2, by omega, HPp, HDn⟩, by simp [intOf]; omega⟩
            | false =>
              clear HD D hc D6 hc6 hO6 HPp
              go_wp2
              exact ⟨⟨i + 1, n6, _, by go_num, by omega, hiN2, by omega, HP, HD6⟩, by simp [intOf]; omega⟩
        · have D := HD.out
          have jn : ¬ (i : Int) < (N : Int) := by omega
          by_cases hN0 : N = 0
          · subst hN0
            have bE := (D.rb.set 0 (by simp) (.slice a1 0 c1)).set 1 (by simp) (.slice none 0 0)
            have HA : Hid (AnsCh w ((wr.setCell ⟨w.heap.size, 0, none⟩ (.slice a1 0 c1)).setCell ⟨w.heap.size, 1, none⟩ (.slice none 0 0)) (.returned (chv a1 0 c1 none 0 0)) C a len cap n) := D.ans (by omega) (by omega) (by omega) hC _ _
            have y0 := D.bx.c0
            have y1 := D.bx.c1
            have z0 := D.rb.c0
            have z1 := D.rb.c1
            have zf0 := D.rb.fz 0
            have zf1 := D.rb.fz 1
            go_wp2_with fail
            refine ret_cht Try.results28 rfl bE.c0 bE.c1 rfl ?_
            exact HA.out
          have jN : ((N : Int) == 0) = false := by simp; omega
          have hc := D.cur
          clear HP HD
          go_wp2_with fail
          refine (pick_any C a len cap n' 10 _ hc (by omega)).mono ?_
          rintro e w6 ⟨p6, n6, rfl, h60, h61, -, hn6, hc6, hO6⟩
          have h62 := h61 (by omega)
          have HD6 : Hid (Dch w w6 C a len cap n6 a1 N c1 G none 0 0 (fun _ => 0)) := D.step hc6 hO6 hC
          clear D hc hc6 hO6 h61
          go_wp2_with fail
          go_loopw [9] (fun s wr => ∃ (R j nr : Nat) (a2 : Option Addr) (c2 : Nat) (H : Nat → Int), s = .int .i64 (R : Int) ∧ R + j ≤ 9 ∧ nr ≤ n + 62 + 6 * j ∧ Hid (Dch w wr C a len cap nr a1 N c1 G a2 j c2 H)) (fun s _ => (intOf s).toNat)
          case atStart => exact ⟨p6.toNat, 0, n6, none, 0, _, by congr 1; omega, by omega, by omega, HD6⟩
          case round =>
            clear HD6
            obtain ⟨R, j, nr, a2, c2, H, rfl, hRj, hnr, HD⟩ := hrel
            by_cases hR : 0 < R
            · obtain ⟨R, rfl⟩ : ∃ R', R = R' + 1 := ⟨R - 1, by omega⟩
              have jR : (0 : Int) < ((R + 1 : Nat) : Int) := by omega
              have D0r := HD.out.al ((Below.refl wr.heap.size wr).drew)
              clear HD
              go_upto_region 23 with fail
              refine wp_region_held (S := (fun _ => True)) (by kernel_rfl) ?_
              change wpAnyH _ _ _ _ _ _ _ _ (World.drew _)
              have hSw : True := trivial
              refine wpAnyH_take (i := 0) (v := .pointer (some ⟨w.heap.size + 1, 1, none⟩)) rfl (by kernel_rfl) (by kernel_rfl) (by kernel_rfl) (fun _ _ _ h => h) (Or.inl ⟨by rfl, ?_⟩) hSw ?_
              · intro wz hsz
                obtain ⟨⟩ := hsz
                go_simp
              try simp [Act.put]
              refine wpAnyH_take (i := 2) (v := .pointer (some ⟨C, 0, none⟩)) rfl (by kernel_rfl) (by kernel_rfl) (by kernel_rfl) (fun _ _ _ h => h) (Or.inl ⟨by rfl, ?_⟩) hSw ?_
              · intro wz hsz
                obtain ⟨⟩ := hsz
                go_simp
              try simp [Act.put]
              refine wpAnyH_take (i := 3) (v := .int .i64 (N : Int)) rfl (by kernel_rfl) (by kernel_rfl) (by kernel_rfl) (fun _ _ _ h => h) (Or.inl ⟨by rfl, ?_⟩) hSw ?_
              · intro wz hsz
                obtain ⟨⟩ := hsz
                go_simp
              try simp [Act.put]
              refine wpAnyH_take (i := 5) (v := .pointer (some ⟨C, 0, none⟩)) rfl (by kernel_rfl) (by kernel_rfl) (by kernel_rfl) (fun _ _ _ h => h) (Or.inl ⟨by rfl, ?_⟩) hSw ?_
              · intro wz hsz
                obtain ⟨⟩ := hsz
                go_simp
              try simp [Act.put]
              refine wpAnyH_take (i := 7) (v := .pointer (some ⟨C, 0, none⟩)) rfl (by kernel_rfl) (by kernel_rfl) (by kernel_rfl) (fun _ _ _ h => h) (Or.inl ⟨by rfl, ?_⟩) hSw ?_
              · intro wz hsz
                obtain ⟨⟩ := hsz
                go_simp
              try simp [Act.put]
              refine wpAnyH_take (i := 8) (v := .int .i64 (N : Int)) rfl (by kernel_rfl) (by kernel_rfl) (by kernel_rfl) (fun _ _ _ h => h) (Or.inl ⟨by rfl, ?_⟩) hSw ?_
              · intro wz hsz
                obtain ⟨⟩ := hsz
                go_simp
              try simp [Act.put]
              refine wpAnyH_ready (rs := [1, 4]) (by kernel_rfl) (by simp) ?_
              refine AllReadyH.cons rfl (fun K hK => ?_) (AllReadyH.cons rfl (fun K hK => ?_) AllReadyH.nil)
              · have y21 := D0r.bx.c1
                go_simp
                refine hK.out _ _ (trivial) (fun hSn => ?_)
                clear hK K hSw
                have hSw := hSn
                clear hSn
                try simp [Act.put]
                refine wpAnyH_ready (rs := [4]) (by kernel_rfl) (by simp) ?_
                refine AllReadyH.cons rfl (fun K hK => ?_) AllReadyH.nil
                go_simp
                go_at_call 52
                refine (pick_any C a len cap nr (N : Int) _ D0r.cur (by omega)).mono ?_
                rintro e9 w22 ⟨p22, n22, rfl, hp22, hq22, -, hn22, hc22, hO22⟩
                have D22 := D0r.step hc22 hO22 hC
                clear hO22
                refine hK.out _ _ (trivial) (fun hSn => ?_)
                clear hK K hSw
                have hSw := hSn
                clear hSn
                try simp [Act.put]
                refine wpAnyH_ready (rs := [6]) (by kernel_rfl) (by simp) ?_
                refine AllReadyH.cons rfl (fun K hK => ?_) AllReadyH.nil
                go_simp
                go_at_call 52
                refine (pick_any C a len cap n22 6 _ D22.cur (by omega)).mono ?_
                rintro e9 w23 ⟨p23, n23, rfl, hp23, hq23, -, hn23, hc23, hO23⟩
                have D23 := D22.step hc23 hO23 hC
                clear hO23
                refine hK.out _ _ (trivial) (fun hSn => ?_)
                clear hK K hSw
                have hSw := hSn
                clear hSn
                try simp [Act.put]
                refine wpAnyH_ready (rs := [9]) (by kernel_rfl) (by simp) ?_
                refine AllReadyH.cons rfl (fun K hK => ?_) AllReadyH.nil
                go_simp
                go_at_call 52
                refine (pick_any C a len cap n23 (N : Int) _ D23.cur (by omega)).mono ?_
                rintro e9 w24 ⟨p24, n24, rfl, hp24, hq24, -, hn24, hc24, hO24⟩
                have D24 := D23.step hc24 hO24 hC
                clear hO24
                refine hK.out _ _ (trivial) (fun hSn => ?_)
                clear hK K hSw
                have hSw := hSn
                clear hSn
                try simp [Act.put]
                refine wpAnyH_take (i := 10) (v := .agg #[.int .i64 p22, .int .i64 p23, .int .i64 p24]) rfl (by kernel_rfl) (by kernel_rfl) (by kernel_rfl) (fun _ _ _ h => h) (Or.inl ⟨by rfl, ?_⟩) hSw ?_
                · intro wz hsz
                  obtain ⟨⟩ := hsz
                  go_simp
                try simp [Act.put]
                refine wpAnyH_ready (rs := [11]) (by kernel_rfl) (by simp) ?_
                refine AllReadyH.cons rfl (fun K hK => ?_) AllReadyH.nil
                go_simp
                have D25 := D24.al ((Below.refl w24.heap.size w24).alloc (Nat.le_refl _) (.cells #[.int .i64 p22, .int .i64 p23, .int .i64 p24] 69))
                refine hK.out _ _ (trivial) (fun hSn => ?_)
                clear hK K hSw
                have hSw := hSn
                clear hSn
                try simp [Act.put]
                obtain ⟨v', w9, hrun9, hown9, hgr9, -, hat9⟩ := run_append_own_at (P := Try.prog) (w24.alloc (.cells #[.int .i64 p22, .int .i64 p23, .int .i64 p24] 69)) (w.heap.size + 2) 24 24 69 i2 (.agg #[.int .i64 0, .int .i64 0, .int .i64 0]) 3 24 Try.underlying24 hj hy0 hy1 hy2 rfl (by decide) (.slice a2 j c2) j (vL H (j * 3)) D25.o2 ⟨w24.heap.size, 0, none⟩ 1 1 [.int .i64 p22, .int .i64 p23, .int .i64 p24] rfl (cell_bx _ _) (fun u hu => by simp at hu; rcases hu with rfl | rfl | rfl <;> rfl) (by unfold maxLen; omega) (by omega) D25.sz
                obtain ⟨a', c', rfl⟩ := owns_shape hown9
                refine wpAnyH_ready (rs := [12]) (by kernel_rfl) (by simp) ?_
                refine AllReadyH.cons rfl (fun K hK => ?_) AllReadyH.nil
                refine held_ap (by kernel_rfl) (.tmp 75) (.tmp 85) 24 rfl rfl rfl hrun9 ?_
                refine hK.out _ _ (trivial) (fun hSn => ?_)
                clear hK K hSw
                have hSw := hSn
                clear hSn
                try simp [Act.put]
                refine wpAnyH_take (i := 13) (v := .pointer (some ⟨w.heap.size + 1, 1, none⟩)) rfl (by kernel_rfl) (by kernel_rfl) (by kernel_rfl) (fun _ _ _ h => h) (Or.inl ⟨by rfl, ?_⟩) hSw ?_
                · intro wz hsz
                  obtain ⟨⟩ := hsz
                  go_simp
                try simp [Act.put]
                have b9 := D25.bx.below (D25.grow (v := .slice a2 j c2) (fun q hq => (World.ownsRow.lt D25.o2 q hq).1) hgr9) (by omega)
                have hcc9 := b9.c1
                have hff9 := b9.fz 1
                have HD9 : Hid (Dch w (w9.setCell ⟨w.heap.size + 1, 1, none⟩ (.slice a' (j + 1) c')) C a len cap n24 a1 N c1 G a' (j + 1) c' _) := D25.app2 hgr9 hown9 hat9 hC
                clear hgr9 hown9 hat9 hrun9 b9
                refine wpAnyH_ready (rs := [14]) (by kernel_rfl) (by simp) ?_
                refine AllReadyH.cons rfl (fun K hK => ?_) AllReadyH.nil
                go_simp
                refine hK.out _ _ (trivial) (fun hSn => ?_)
                clear hK K hSw
                have hSw := hSn
                clear hSn
                try simp [Act.put]
                refine wpAnyH_done (by kernel_rfl) ?_ _
                go_wp2
                exact ⟨⟨R, j + 1, n24, a', c', _, by go_num, by omega, by omega, HD9⟩, by simp [intOf]⟩
              · go_simp
                go_at_call 52
                refine (pick_any C a len cap nr (N : Int) _ D0r.cur (by omega)).mono ?_
                rintro e9 w26 ⟨p26, n26, rfl, hp26, hq26, -, hn26, hc26, hO26⟩
                have D26 := D0r.step hc26 hO26 hC
                clear hO26
                refine hK.out _ _ (trivial) (fun hSn => ?_)
                clear hK K hSw
                have hSw := hSn
                clear hSn
                try simp [Act.put]
                refine wpAnyH_ready (rs := [1, 6]) (by kernel_rfl) (by simp) ?_
                refine AllReadyH.cons rfl (fun K hK => ?_) (AllReadyH.cons rfl (fun K hK => ?_) AllReadyH.nil)
                · have y27 := D26.bx.c1
                  go_simp
                  refine hK.out _ _ (trivial) (fun hSn => ?_)
                  clear hK K hSw
                  have hSw := hSn
                  clear hSn
                  try simp [Act.put]
                  refine wpAnyH_ready (rs := [6]) (by kernel_rfl) (by simp) ?_
                  refine AllReadyH.cons rfl (fun K hK => ?_) AllReadyH.nil
                  go_simp
                  go_at_call 52
                  refine (pick_any C a len cap n26 6 _ D26.cur (by omega)).mono ?_
                  rintro e9 w28 ⟨p28, n28, rfl, hp28, hq28, -, hn28, hc28, hO28⟩
                  have D28 := D26.step hc28 hO28 hC
                  clear hO28
                  refine hK.out _ _ (trivial) (fun hSn => ?_)
                  clear hK K hSw
                  have hSw := hSn
                  clear hSn
                  try simp [Act.put]
                  refine wpAnyH_ready (rs := [9]) (by kernel_rfl) (by simp) ?_
                  refine AllReadyH.cons rfl (fun K hK => ?_) AllReadyH.nil
                  go_simp
                  go_at_call 52
                  refine (pick_any C a len cap n28 (N : Int) _ D28.cur (by omega)).mono ?_
                  rintro e9 w29 ⟨p29, n29, rfl, hp29, hq29, -, hn29, hc29, hO29⟩
                  have D29 := D28.step hc29 hO29 hC
                  clear hO29
                  refine hK.out _ _ (trivial) (fun hSn => ?_)
                  clear hK K hSw
                  have hSw := hSn
                  clear hSn
                  try simp [Act.put]
                  refine wpAnyH_take (i := 10) (v := .agg #[.int .i64 p26, .int .i64 p28, .int .i64 p29]) rfl (by kernel_rfl) (by kernel_rfl) (by kernel_rfl) (fun _ _ _ h => h) (Or.inl ⟨by rfl, ?_⟩) hSw ?_
                  · intro wz hsz
                    obtain ⟨⟩ := hsz
                    go_simp
                  try simp [Act.put]
                  refine wpAnyH_ready (rs := [11]) (by kernel_rfl) (by simp) ?_
                  refine AllReadyH.cons rfl (fun K hK => ?_) AllReadyH.nil
                  go_simp
                  have D30 := D29.al ((Below.refl w29.heap.size w29).alloc (Nat.le_refl _) (.cells #[.int .i64 p26, .int .i64 p28, .int .i64 p29] 69))
                  refine hK.out _ _ (trivial) (fun hSn => ?_)
                  clear hK K hSw
                  have hSw := hSn
                  clear hSn
                  try simp [Act.put]
                  obtain ⟨v', w9, hrun9, hown9, hgr9, -, hat9⟩ := run_append_own_at (P := Try.prog) (w29.alloc (.cells #[.int .i64 p26, .int .i64 p28, .int .i64 p29] 69)) (w.heap.size + 2) 24 24 69 i2 (.agg #[.int .i64 0, .int .i64 0, .int .i64 0]) 3 24 Try.underlying24 hj hy0 hy1 hy2 rfl (by decide) (.slice a2 j c2) j (vL H (j * 3)) D30.o2 ⟨w29.heap.size, 0, none⟩ 1 1 [.int .i64 p26, .int .i64 p28, .int .i64 p29] rfl (cell_bx _ _) (fun u hu => by simp at hu; rcases hu with rfl | rfl | rfl <;> rfl) (by unfold maxLen; omega) (by omega) D30.sz
                  obtain ⟨a', c', rfl⟩ := owns_shape hown9
                  refine wpAnyH_ready (rs := [12]) (by kernel_rfl) (by simp) ?_
                  refine AllReadyH.cons rfl (fun K hK => ?_) AllReadyH.nil
                  refine held_ap (by kernel_rfl) (.tmp 75) (.tmp 85) 24 rfl rfl rfl hrun9 ?_
                  refine hK.out _ _ (trivial) (fun hSn => ?_)
                  clear hK K hSw
                  have hSw := hSn
                  clear hSn
                  try simp [Act.put]
                  refine wpAnyH_take (i := 13) (v := .pointer (some ⟨w.heap.size + 1, 1, none⟩)) rfl (by kernel_rfl) (by kernel_rfl) (by kernel_rfl) (fun _ _ _ h => h) (Or.inl ⟨by rfl, ?_⟩) hSw ?_
                  · intro wz hsz
                    obtain ⟨⟩ := hsz
                    go_simp
                  try simp [Act.put]
                  have b9 := D30.bx.below (D30.grow (v := .slice a2 j c2) (fun q hq => (World.ownsRow.lt D30.o2 q hq).1) hgr9) (by omega)
                  have hcc9 := b9.c1
                  have hff9 := b9.fz 1
                  have HD9 : Hid (Dch w (w9.setCell ⟨w.heap.size + 1, 1, none⟩ (.slice a' (j + 1) c')) C a len cap n29 a1 N c1 G a' (j + 1) c' _) := D30.app2 hgr9 hown9 hat9 hC
                  clear hgr9 hown9 hat9 hrun9 b9
                  refine wpAnyH_ready (rs := [14]) (by kernel_rfl) (by simp) ?_
                  refine AllReadyH.cons rfl (fun K hK => ?_) AllReadyH.nil
                  go_simp
                  refine hK.out _ _ (trivial) (fun hSn => ?_)
                  clear hK K hSw
                  have hSw := hSn
                  clear hSn
                  try simp [Act.put]
                  refine wpAnyH_done (by kernel_rfl) ?_ _
                  go_wp2
                  exact ⟨⟨R, j + 1, n29, a', c', _, by go_num, by omega, by omega, HD9⟩, by simp [intOf]⟩
                · go_simp
                  go_at_call 52
                  refine (pick_any C a len cap n26 6 _ D26.cur (by omega)).mono ?_
                  rintro e9 w31 ⟨p31, n31, rfl, hp31, hq31, -, hn31, hc31, hO31⟩
                  have D31 := D26.step hc31 hO31 hC
                  clear hO31
                  refine hK.out _ _ (trivial) (fun hSn => ?_)
                  clear hK K hSw
                  have hSw := hSn
                  clear hSn
                  try simp [Act.put]
                  refine wpAnyH_ready (rs := [1, 9]) (by kernel_rfl) (by simp) ?_
                  refine AllReadyH.cons rfl (fun K hK => ?_) (AllReadyH.cons rfl (fun K hK => ?_) AllReadyH.nil)
                  · have y32 := D31.bx.c1
                    go_simp
                    refine hK.out _ _ (trivial) (fun hSn => ?_)
                    clear hK K hSw
                    have hSw := hSn
                    clear hSn
                    try simp [Act.put]
                    refine wpAnyH_ready (rs := [9]) (by kernel_rfl) (by simp) ?_
                    refine AllReadyH.cons rfl (fun K hK => ?_) AllReadyH.nil
                    go_simp
                    go_at_call 52
                    refine (pick_any C a len cap n31 (N : Int) _ D31.cur (by omega)).mono ?_
                    rintro e9 w33 ⟨p33, n33, rfl, hp33, hq33, -, hn33, hc33, hO33⟩
                    have D33 := D31.step hc33 hO33 hC
                    clear hO33
                    refine hK.out _ _ (trivial) (fun hSn => ?_)
                    clear hK K hSw
                    have hSw := hSn
                    clear hSn
                    try simp [Act.put]
                    refine wpAnyH_take (i := 10) (v := .agg #[.int .i64 p26, .int .i64 p31, .int .i64 p33]) rfl (by kernel_rfl) (by kernel_rfl) (by kernel_rfl) (fun _ _ _ h => h) (Or.inl ⟨by rfl, ?_⟩) hSw ?_
                    · intro wz hsz
                      obtain ⟨⟩ := hsz
                      go_simp
                    try simp [Act.put]
                    refine wpAnyH_ready (rs := [11]) (by kernel_rfl) (by simp) ?_
                    refine AllReadyH.cons rfl (fun K hK => ?_) AllReadyH.nil
                    go_simp
                    have D34 := D33.al ((Below.refl w33.heap.size w33).alloc (Nat.le_refl _) (.cells #[.int .i64 p26, .int .i64 p31, .int .i64 p33] 69))
                    refine hK.out _ _ (trivial) (fun hSn => ?_)
                    clear hK K hSw
                    have hSw := hSn
                    clear hSn
                    try simp [Act.put]
                    obtain ⟨v', w9, hrun9, hown9, hgr9, -, hat9⟩ := run_append_own_at (P := Try.prog) (w33.alloc (.cells #[.int .i64 p26, .int .i64 p31, .int .i64 p33] 69)) (w.heap.size + 2) 24 24 69 i2 (.agg #[.int .i64 0, .int .i64 0, .int .i64 0]) 3 24 Try.underlying24 hj hy0 hy1 hy2 rfl (by decide) (.slice a2 j c2) j (vL H (j * 3)) D34.o2 ⟨w33.heap.size, 0, none⟩ 1 1 [.int .i64 p26, .int .i64 p31, .int .i64 p33] rfl (cell_bx _ _) (fun u hu => by simp at hu; rcases hu with rfl | rfl | rfl <;> rfl) (by unfold maxLen; omega) (by omega) D34.sz
                    obtain ⟨a', c', rfl⟩ := owns_shape hown9
                    refine wpAnyH_ready (rs := [12]) (by kernel_rfl) (by simp) ?_
                    refine AllReadyH.cons rfl (fun K hK => ?_) AllReadyH.nil
                    refine held_ap (by kernel_rfl) (.tmp 75) (.tmp 85) 24 rfl rfl rfl hrun9 ?_
                    refine hK.out _ _ (trivial) (fun hSn => ?_)
                    clear hK K hSw
                    have hSw := hSn
                    clear hSn
                    try simp [Act.put]
                    refine wpAnyH_take (i := 13) (v := .pointer (some ⟨w.heap.size + 1, 1, none⟩)) rfl (by kernel_rfl) (by kernel_rfl) (by kernel_rfl) (fun _ _ _ h => h) (Or.inl ⟨by rfl, ?_⟩) hSw ?_
                    · intro wz hsz
                      obtain ⟨⟩ := hsz
                      go_simp
                    try simp [Act.put]
                    have b9 := D34.bx.below (D34.grow (v := .slice a2 j c2) (fun q hq => (World.ownsRow.lt D34.o2 q hq).1) hgr9) (by omega)
                    have hcc9 := b9.c1
                    have hff9 := b9.fz 1
                    have HD9 : Hid (Dch w (w9.setCell ⟨w.heap.size + 1, 1, none⟩ (.slice a' (j + 1) c')) C a len cap n33 a1 N c1 G a' (j + 1) c' _) := D34.app2 hgr9 hown9 hat9 hC
                    clear hgr9 hown9 hat9 hrun9 b9
                    refine wpAnyH_ready (rs := [14]) (by kernel_rfl) (by simp) ?_
                    refine AllReadyH.cons rfl (fun K hK => ?_) AllReadyH.nil
                    go_simp
                    refine hK.out _ _ (trivial) (fun hSn => ?_)
                    clear hK K hSw
                    have hSw := hSn
                    clear hSn
                    try simp [Act.put]
                    refine wpAnyH_done (by kernel_rfl) ?_ _
                    go_wp2
                    exact ⟨⟨R, j + 1, n33, a', c', _, by go_num, by omega, by omega, HD9⟩, by simp [intOf]⟩
                  · go_simp
                    go_at_call 52
                    refine (pick_any C a len cap n31 (N : Int) _ D31.cur (by omega)).mono ?_
                    rintro e9 w35 ⟨p35, n35, rfl, hp35, hq35, -, hn35, hc35, hO35⟩
                    have D35 := D31.step hc35 hO35 hC
                    clear hO35
                    refine hK.out _ _ (trivial) (fun hSn => ?_)
                    clear hK K hSw
                    have hSw := hSn
                    clear hSn
                    try simp [Act.put]
                    refine wpAnyH_take (i := 10) (v := .agg #[.int .i64 p26, .int .i64 p31, .int .i64 p35]) rfl (by kernel_rfl) (by kernel_rfl) (by kernel_rfl) (fun _ _ _ h => h) (Or.inl ⟨by rfl, ?_⟩) hSw ?_
                    · intro wz hsz
                      obtain ⟨⟩ := hsz
                      go_simp
                    try simp [Act.put]
                    refine wpAnyH_ready (rs := [1, 11]) (by kernel_rfl) (by simp) ?_
                    refine AllReadyH.cons rfl (fun K hK => ?_) (AllReadyH.cons rfl (fun K hK => ?_) AllReadyH.nil)
                    · have y36 := D35.bx.c1
                      go_simp
                      refine hK.out _ _ (trivial) (fun hSn => ?_)
                      clear hK K hSw
                      have hSw := hSn
                      clear hSn
                      try simp [Act.put]
                      refine wpAnyH_ready (rs := [11]) (by kernel_rfl) (by simp) ?_
                      refine AllReadyH.cons rfl (fun K hK => ?_) AllReadyH.nil
                      go_simp
                      have D37 := D35.al ((Below.refl w35.heap.size w35).alloc (Nat.le_refl _) (.cells #[.int .i64 p26, .int .i64 p31, .int .i64 p35] 69))
                      refine hK.out _ _ (trivial) (fun hSn => ?_)
                      clear hK K hSw
                      have hSw := hSn
                      clear hSn
                      try simp [Act.put]
                      obtain ⟨v', w9, hrun9, hown9, hgr9, -, hat9⟩ := run_append_own_at (P := Try.prog) (w35.alloc (.cells #[.int .i64 p26, .int .i64 p31, .int .i64 p35] 69)) (w.heap.size + 2) 24 24 69 i2 (.agg #[.int .i64 0, .int .i64 0, .int .i64 0]) 3 24 Try.underlying24 hj hy0 hy1 hy2 rfl (by decide) (.slice a2 j c2) j (vL H (j * 3)) D37.o2 ⟨w35.heap.size, 0, none⟩ 1 1 [.int .i64 p26, .int .i64 p31, .int .i64 p35] rfl (cell_bx _ _) (fun u hu => by simp at hu; rcases hu with rfl | rfl | rfl <;> rfl) (by unfold maxLen; omega) (by omega) D37.sz
                      obtain ⟨a', c', rfl⟩ := owns_shape hown9
                      refine wpAnyH_ready (rs := [12]) (by kernel_rfl) (by simp) ?_
                      refine AllReadyH.cons rfl (fun K hK => ?_) AllReadyH.nil
                      refine held_ap (by kernel_rfl) (.tmp 75) (.tmp 85) 24 rfl rfl rfl hrun9 ?_
                      refine hK.out _ _ (trivial) (fun hSn => ?_)
                      clear hK K hSw
                      have hSw := hSn
                      clear hSn
                      try simp [Act.put]
                      refine wpAnyH_take (i := 13) (v := .pointer (some ⟨w.heap.size + 1, 1, none⟩)) rfl (by kernel_rfl) (by kernel_rfl) (by kernel_rfl) (fun _ _ _ h => h) (Or.inl ⟨by rfl, ?_⟩) hSw ?_
                      · intro wz hsz
                        obtain ⟨⟩ := hsz
                        go_simp
                      try simp [Act.put]
                      have b9 := D37.bx.below (D37.grow (v := .slice a2 j c2) (fun q hq => (World.ownsRow.lt D37.o2 q hq).1) hgr9) (by omega)
                      have hcc9 := b9.c1
                      have hff9 := b9.fz 1
                      have HD9 : Hid (Dch w (w9.setCell ⟨w.heap.size + 1, 1, none⟩ (.slice a' (j + 1) c')) C a len cap n35 a1 N c1 G a' (j + 1) c' _) := D37.app2 hgr9 hown9 hat9 hC
                      clear hgr9 hown9 hat9 hrun9 b9
                      refine wpAnyH_ready (rs := [14]) (by kernel_rfl) (by simp) ?_
                      refine AllReadyH.cons rfl (fun K hK => ?_) AllReadyH.nil
                      go_simp
                      refine hK.out _ _ (trivial) (fun hSn => ?_)
                      clear hK K hSw
                      have hSw := hSn
                      clear hSn
                      try simp [Act.put]
                      refine wpAnyH_done (by kernel_rfl) ?_ _
                      go_wp2
                      exact ⟨⟨R, j + 1, n35, a', c', _, by go_num, by omega, by omega, HD9⟩, by simp [intOf]⟩
                    · go_simp
                      have D38 := D35.al ((Below.refl w35.heap.size w35).alloc (Nat.le_refl _) (.cells #[.int .i64 p26, .int .i64 p31, .int .i64 p35] 69))
                      refine hK.out _ _ (trivial) (fun hSn => ?_)
                      clear hK K hSw
                      have hSw := hSn
                      clear hSn
                      try simp [Act.put]
                      refine wpAnyH_ready (rs := [1]) (by kernel_rfl) (by simp) ?_
                      refine AllReadyH.cons rfl (fun K hK => ?_) AllReadyH.nil
                      have y39 := D38.bx.c1
                      go_simp
                      refine hK.out _ _ (trivial) (fun hSn => ?_)
                      clear hK K hSw
                      have hSw := hSn
                      clear hSn
                      try simp [Act.put]
                      obtain ⟨v', w9, hrun9, hown9, hgr9, -, hat9⟩ := run_append_own_at (P := Try.prog) (w35.alloc (.cells #[.int .i64 p26, .int .i64 p31, .int .i64 p35] 69)) (w.heap.size + 2) 24 24 69 i2 (.agg #[.int .i64 0, .int .i64 0, .int .i64 0]) 3 24 Try.underlying24 hj hy0 hy1 hy2 rfl (by decide) (.slice a2 j c2) j (vL H (j * 3)) D38.o2 ⟨w35.heap.size, 0, none⟩ 1 1 [.int .i64 p26, .int .i64 p31, .int .i64 p35] rfl (cell_bx _ _) (fun u hu => by simp at hu; rcases hu with rfl | rfl | rfl <;> rfl) (by unfold maxLen; omega) (by omega) D38.sz
                      obtain ⟨a', c', rfl⟩ := owns_shape hown9
                      refine wpAnyH_ready (rs := [12]) (by kernel_rfl) (by simp) ?_
                      refine AllReadyH.cons rfl (fun K hK => ?_) AllReadyH.nil
                      refine held_ap (by kernel_rfl) (.tmp 75) (.tmp 85) 24 rfl rfl rfl hrun9 ?_
                      refine hK.out _ _ (trivial) (fun hSn => ?_)
                      clear hK K hSw
                      have hSw := hSn
                      clear hSn
                      try simp [Act.put]
                      refine wpAnyH_take (i := 13) (v := .pointer (some ⟨w.heap.size + 1, 1, none⟩)) rfl (by kernel_rfl) (by kernel_rfl) (by kernel_rfl) (fun _ _ _ h => h) (Or.inl ⟨by rfl, ?_⟩) hSw ?_
                      · intro wz hsz
                        obtain ⟨⟩ := hsz
                        go_simp
                      try simp [Act.put]
                      have b9 := D38.bx.below (D38.grow (v := .slice a2 j c2) (fun q hq => (World.ownsRow.lt D38.o2 q hq).1) hgr9) (by omega)
                      have hcc9 := b9.c1
                      have hff9 := b9.fz 1
                      have HD9 : Hid (Dch w (w9.setCell ⟨w.heap.size + 1, 1, none⟩ (.slice a' (j + 1) c')) C a len cap n35 a1 N c1 G a' (j + 1) c' _) := D38.app2 hgr9 hown9 hat9 hC
                      clear hgr9 hown9 hat9 hrun9 b9
                      refine wpAnyH_ready (rs := [14]) (by kernel_rfl) (by simp) ?_
                      refine AllReadyH.cons rfl (fun K hK => ?_) AllReadyH.nil
                      go_simp
                      refine hK.out _ _ (trivial) (fun hSn => ?_)
                      clear hK K hSw
                      have hSw := hSn
                      clear hSn
                      try simp [Act.put]
                      refine wpAnyH_done (by kernel_rfl) ?_ _
                      go_wp2
                      exact ⟨⟨R, j + 1, n35, a', c', _, by go_num, by omega, by omega, HD9⟩, by simp [intOf]⟩
            · have hR0 : R = 0 := by omega
              subst hR0
              have hc := HD.out.cur
              go_wp2_with fail
              refine (pick_any C a len cap nr 24 _ hc (by omega)).mono ?_
              rintro e w6 ⟨p6, n6, rfl, h60, h61, -, hn6, hc6, hO6⟩
              have D6 := HD.out.step hc6 hO6 hC
              obtain ⟨B, rfl, hBl, hBc, hBf⟩ := D6.at1 (by omega)
              clear HD hc hc6 hO6 h61
              by_cases t0 : p6 = 0
              · subst t0
                have D0r := D6.al ((Below.refl w6.heap.size w6).drew)
                clear hBc hBf hBl
                go_upto_region 26 with fail
                refine wp_region_held (S := (fun w' => w'.cell? ⟨w.heap.size + 1, 0, none⟩ = some (.slice (some ⟨B, 0, none⟩) N c1))) (by kernel_rfl) ?_
                change wpAnyH _ _ _ _ _ _ _ _ (World.drew _)
                have hSw := D0r.bx.c0
                refine wpAnyH_take (i := 0) (v := .pointer (some ⟨w.heap.size + 1, 0, none⟩)) rfl (by kernel_rfl) (by kernel_rfl) (by kernel_rfl) (fun _ _ _ h => h) (Or.inl ⟨by rfl, ?_⟩) hSw ?_
                · intro wz hsz
                  have hc8 := hsz
                  go_simp
                try simp [Act.put]
                refine wpAnyH_take (i := 1) (v := .slice (some ⟨B, 0, none⟩) N c1) rfl (by kernel_rfl) (by kernel_rfl) (by kernel_rfl) (fun _ _ _ h => h) (Or.inl ⟨by rfl, ?_⟩) hSw ?_
                · intro wz hsz
                  have hc8 := hsz
                  go_simp
                try simp [Act.put]
                refine wpAnyH_take (i := 2) (v := .pointer (some ⟨C, 0, none⟩)) rfl (by kernel_rfl) (by kernel_rfl) (by kernel_rfl) (fun _ _ _ h => h) (Or.inl ⟨by rfl, ?_⟩) hSw ?_
                · intro wz hsz
                  have hc8 := hsz
                  go_simp
                try simp [Act.put]
                refine wpAnyH_take (i := 3) (v := .int .i64 (N : Int)) rfl (by kernel_rfl) (by kernel_rfl) (by kernel_rfl) (fun _ _ _ h => h) (Or.inl ⟨by rfl, ?_⟩) hSw ?_
                · intro wz hsz
                  have hc8 := hsz
                  go_simp
                try simp [Act.put]
                refine wpAnyH_take (i := 5) (v := .pointer (some ⟨C, 0, none⟩)) rfl (by kernel_rfl) (by kernel_rfl) (by kernel_rfl) (fun _ _ _ h => h) (Or.inl ⟨by rfl, ?_⟩) hSw ?_
                · intro wz hsz
                  have hc8 := hsz
                  go_simp
                try simp [Act.put]
                refine wpAnyH_take (i := 6) (v := .int .i64 (N : Int)) rfl (by kernel_rfl) (by kernel_rfl) (by kernel_rfl) (fun _ _ _ h => h) (Or.inl ⟨by rfl, ?_⟩) hSw ?_
                · intro wz hsz
                  have hc8 := hsz
                  go_simp
                try simp [Act.put]
                refine wpAnyH_ready (rs := [4]) (by kernel_rfl) (by simp) ?_
                refine AllReadyH.cons rfl (fun K hK => ?_) AllReadyH.nil
                go_simp
                go_at_call 52
                refine (pick_any C a len cap n6 (N : Int) _ D0r.cur (by omega)).mono ?_
                rintro e9 w51 ⟨p51, n51, rfl, hp51, hq51, -, hn51, hc51, hO51⟩
                have D51 := D0r.step hc51 hO51 hC
                clear hO51
                refine hK.out _ _ (D51.bx.c0) (fun hSn => ?_)
                clear hK K hSw
                have hSw := hSn
                clear hSn
                try simp [Act.put]
                refine wpAnyH_ready (rs := [7]) (by kernel_rfl) (by simp) ?_
                refine AllReadyH.cons rfl (fun K hK => ?_) AllReadyH.nil
                go_simp
                go_at_call 52
                refine (pick_any C a len cap n51 (N : Int) _ D51.cur (by omega)).mono ?_
                rintro e9 w52 ⟨p52, n52, rfl, hp52, hq52, -, hn52, hc52, hO52⟩
                have D52 := D51.step hc52 hO52 hC
                clear hO52
                refine hK.out _ _ (D52.bx.c0) (fun hSn => ?_)
                clear hK K hSw
                have hSw := hSn
                clear hSn
                try simp [Act.put]
                have hq51' := hq51 (by omega)
                obtain ⟨Q, hQ⟩ : ∃ Q : Nat, p51 = (Q : Int) := ⟨p51.toNat, by omega⟩
                subst hQ
                have i50 : (0 : Int) ≤ (Q : Int) := by omega
                have i51 : (Q : Int) < (N : Int) := by omega
                refine wpAnyH_take (i := 8) (v := .pointer (some ⟨B, Q * 2, none⟩)) rfl (by kernel_rfl) (by kernel_rfl) (by kernel_rfl) (fun _ _ _ h => h) (Or.inl ⟨by rfl, ?_⟩) hSw ?_
                · intro wz hsz
                  have hc8 := hsz
                  go_simp
                  try (intro h9; omega)
                try simp [Act.put]
                refine wpAnyH_take (i := 9) (v := .pointer (some ⟨B, Q * 2 + 1, none⟩)) rfl (by kernel_rfl) (by kernel_rfl) (by kernel_rfl) (fun _ _ _ h => h) (Or.inl ⟨by rfl, ?_⟩) hSw ?_
                · intro wz hsz
                  have hc8 := hsz
                  go_simp
                try simp [Act.put]
                obtain ⟨B', eB, hBl, hBc, hBf⟩ := D52.at1 (by omega)
                obtain rfl : B' = B := by cases eB; rfl
                clear eB
                have hcc := hBc (Q * 2 + 1) (by omega)
                have hff := hBf (Q * 2 + 1)
                have HD8 : Hid (Dch w (w52.setCell ⟨B', Q * 2 + 1, none⟩ (.int .i64 p52)) C a len cap n52 (some ⟨B', 0, none⟩) N c1 (put G (Q * 2 + 1) p52) a2 j c2 H) := D52.put1 hC
                refine wpAnyH_ready (rs := [10]) (by kernel_rfl) (by simp) ?_
                refine AllReadyH.cons rfl (fun K hK => ?_) AllReadyH.nil
                go_simp
                refine hK.out _ _ (HD8.out.bx.c0) (fun hSn => ?_)
                clear hK K hSw
                have hSw := hSn
                clear hSn
                try simp [Act.put]
                refine wpAnyH_done (by kernel_rfl) ?_ _
                have bE := (HD8.out.rb.set 0 (by simp) (.slice (some ⟨B', 0, none⟩) N c1)).set 1 (by simp) (.slice a2 j c2)
                have HA : Hid (AnsCh w (((w52.setCell ⟨B', Q * 2 + 1, none⟩ (.int .i64 p52)).setCell ⟨w.heap.size, 0, none⟩ (.slice (some ⟨B', 0, none⟩) N c1)).setCell ⟨w.heap.size, 1, none⟩ (.slice a2 j c2)) (.returned (chv (some ⟨B', 0, none⟩) N c1 a2 j c2)) C a len cap n) := HD8.out.ans (by omega) (by omega) (by omega) hC _ _
                have y0 := HD8.out.bx.c0
                have y1 := HD8.out.bx.c1
                have z0 := HD8.out.rb.c0
                have z1 := HD8.out.rb.c1
                have zf0 := HD8.out.rb.fz 0
                have zf1 := HD8.out.rb.fz 1
                go_wp2_with fail
                refine ret_cht Try.results28 rfl bE.c0 bE.c1 rfl ?_
                exact HA.out
              
              have t0' : (p6 == 0) = false := by simpa using t0
              by_cases t1 : p6 = 1
              · subst t1
                clear hBc hBf hBl
                have D8 := D6.al ((Below.refl w6.heap.size w6).alloc (Nat.le_refl _) (.cells #[.int .i64 (N : Int), .int .i64 0, .int .i64 0] 69))
                have x1 := D8.bx.c1
                have x5 := D6.bx.c1
                have hNj : j ≤ 9 := by omega
                go_wp2_with (at_builtin; refine wpList_append_own_at _ rfl _ _ 24 rfl (w.heap.size + 2) 69 i2 (.agg #[.int .i64 0, .int .i64 0, .int .i64 0]) 3 24 Try.underlying24 hj hy0 hy1 hy2 rfl (by decide) _ _ _ rfl D8.o2 ⟨w6.heap.size, 0, none⟩ 1 1 [.int .i64 (N : Int), .int .i64 0, .int .i64 0] rfl rfl (cell_bx _ _) (fun u hu => by simp at hu; rcases hu with rfl | rfl <;> rfl) (by unfold maxLen; omega) (by omega) D8.sz ?_; intro v' w9 hown9 hgr9 _ hat9; obtain ⟨a', c', hv9⟩ := owns_shape hown9; subst hv9; have b9 := D8.bx.below (D8.grow (v := .slice a2 j c2) (fun q hq => (World.ownsRow.lt D8.o2 q hq).1) hgr9) (by omega); have hcc9 := b9.c1; have hff9 := b9.fz 1; have D10 := D8.app2 hgr9 hown9 hat9 hC; clear x1; have y0 := D10.bx.c0; have y1 := D10.bx.c1; have z0 := D10.rb.c0; have z1 := D10.rb.c1; have zf0 := D10.rb.fz 0; have zf1 := D10.rb.fz 1)
                have bE := (D10.rb.set 0 (by simp) (.slice (some ⟨B, 0, none⟩) N c1)).set 1 (by simp) (.slice a' (j + 1) c')
                have HA : Hid (AnsCh w (((w9.setCell ⟨w.heap.size + 1, 1, none⟩ (.slice a' (j + 1) c')).setCell ⟨w.heap.size, 0, none⟩ (.slice (some ⟨B, 0, none⟩) N c1)).setCell ⟨w.heap.size, 1, none⟩ (.slice a' (j + 1) c')) (.returned (chv (some ⟨B, 0, none⟩) N c1 a' (j + 1) c')) C a len cap n) := D10.ans (by omega) (by omega) (by omega) hC _ _
                refine ret_cht Try.results28 rfl bE.c0 bE.c1 rfl ?_
                exact HA.out
              have t1' : (p6 == 1) = false := by simpa using t1
              by_cases t2 : p6 = 2
              · subst t2
                have x0 := D6.bx.c0
                have yc := hBc ((N - 1) * 2) (by omega)
                have yf := hBf ((N - 1) * 2)
                have D10 := D6.put1 (i := (N - 1) * 2) (v := (N : Int) - 1) hC
                obtain ⟨M, hM⟩ : ∃ M : Nat, N = M + 1 := ⟨N - 1, by omega⟩
                subst hM
                have e1 : M + 1 - 1 = M := by omega
                rw [e1] at yc yf D10
                have e2 : ((M + 1 : Nat) : Int) - 1 = (M : Int) := by omega
                rw [e2] at D10
                have jM0 : (0 : Int) ≤ (M : Int) := by omega
                have jM1 : (M : Int) < ((M + 1 : Nat) : Int) := by omega
                have y0 := D10.bx.c0
                have y1 := D10.bx.c1
                have z0 := D10.rb.c0
                have z1 := D10.rb.c1
                have zf0 := D10.rb.fz 0
                have zf1 := D10.rb.fz 1
                clear hBc hBf hBl
                have bE := (D10.rb.set 0 (by simp) (.slice (some ⟨B, 0, none⟩) (M + 1) c1)).set 1 (by simp) (.slice a2 j c2)
                have HA : Hid (AnsCh w (((w6.setCell ⟨B, M * 2, none⟩ (.int .i64 (M : Int))).setCell ⟨w.heap.size, 0, none⟩ (.slice (some ⟨B, 0, none⟩) (M + 1) c1)).setCell ⟨w.heap.size, 1, none⟩ (.slice a2 j c2)) (.returned (chv (some ⟨B, 0, none⟩) (M + 1) c1 a2 j c2)) C a len cap n) := D10.ans (by omega) (by omega) (by omega) hC _ _
                go_wp2_with fail
                refine ret_cht Try.results28 rfl bE.c0 bE.c1 rfl ?_
                exact HA.out
              have t2' : (p6 == 2) = false := by simpa using t2
              clear hBc hBf hBl
              have D10 := D6
              have bE := (D10.rb.set 0 (by simp) (.slice (some ⟨B, 0, none⟩) N c1)).set 1 (by simp) (.slice a2 j c2)
              have HA : Hid (AnsCh w ((w6.setCell ⟨w.heap.size, 0, none⟩ (.slice (some ⟨B, 0, none⟩) N c1)).setCell ⟨w.heap.size, 1, none⟩ (.slice a2 j c2)) (.returned (chv (some ⟨B, 0, none⟩) N c1 a2 j c2)) C a len cap n) := D10.ans (by omega) (by omega) (by omega) hC _ _
              have y0 := D10.bx.c0
              have y1 := D10.bx.c1
              have z0 := D10.rb.c0
              have z1 := D10.rb.c1
              have zf0 := D10.rb.fz 0
              have zf1 := D10.rb.fz 1
              go_wp2_with fail
              refine ret_cht Try.results28 rfl bE.c0 bE.c1 rfl ?_
              exact HA.out
end Go.Proofs.YtjefakfongehdaaR
