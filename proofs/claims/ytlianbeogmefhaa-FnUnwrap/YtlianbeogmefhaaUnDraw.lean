/- What DrawUnwrapCounts draws: a list of at most 61 ints, and a size. -/
import Derived.Test.YtlianbeogmefhaaCurPick
import Derived.Test.YtlianbeogmefhaaUnSpec
namespace Go.Proofs.Ytlianbeogmefhaa
open Go.RowKit

theorem lit_ip (w : World) (xs : List Int) (t : TypeId) : IP (w.alloc (.cells (xs.map (Value.int .i64)).toArray t)) w.heap.size xs.length (fun i => xs.getD i 0) := by
  have hr := World.rowIs_alloc w (xs.map (Value.int .i64)).toArray t (fun i => .int .i64 (xs.getD i 0)) (by
    intro i hi
    have hi' : i < xs.length := by simpa using hi
    simp [hi', List.getD])
  have hs : (xs.map (Value.int .i64)).toArray.size = xs.length := by simp
  rw [hs] at hr
  exact ⟨hr.lt, fun _ hi => hr.cell hi, fun j => hr.frozen j⟩
theorem Own.only {w w' : World} {base b : Nat} {v : Value} {k : Nat} {F : Nat → Int} (h : Own w base v k F) (o : Only b w w') (hb : b < base) : Own w' base v k F := by
  obtain ⟨hl, h⟩ := h
  refine ⟨hl, ?_⟩
  rcases h with h | ⟨g, cap, cur, h1, h2, h3, h4⟩
  · exact .inl h
  · exact .inr ⟨g, cap, cur, h1, h2, (o.block g (by omega)).trans h3, h4⟩
theorem Own.shape {w : World} {base : Nat} {v : Value} {k : Nat} {F : Nat → Int} (h : Own w base v k F) : ∃ a cap, v = .slice a k cap := by
  obtain ⟨_, ⟨rfl, rfl⟩ | ⟨g, cap, cur, rfl, _⟩⟩ := h
  · exact ⟨_, _, rfl⟩
  · exact ⟨_, _, rfl⟩
theorem Own.il {w : World} {base : Nat} {a : Option Addr} {k c : Nat} {F : Nat → Int} (h : Own w base (.slice a k c) k F) : IL w a k F := fun h0 => by
  obtain ⟨g, cap, e, _, hP⟩ := h.some h0
  cases e
  exact hP.il h0
theorem vL_put (F : Nat → Int) (k : Nat) (x : Int) : vL (put F k x) (k + 1) = vL F k ++ [.int .i64 x] := by
  rw [vL_succ]
  congr 1
  · unfold vL
    refine List.map_congr_left fun i hi => ?_
    have : i ≠ k := by have := List.mem_range.1 hi; omega
    simp [put, this]
  · simp [put]
theorem own_put {w : World} {base : Nat} {v : Value} {k : Nat} {F : Nat → Int} {x : Int} (h : w.ownsRow base 3 1 v (k + 1) (vL F k ++ [.int .i64 x])) : Own w base v (k + 1) (put F k x) := by
  unfold Own; rw [vL_put]; exact h
theorem draw_ret {w w' : World} {a : Option Addr} {k c : Nat} {F : Nat → Int} {s : Int} (h : Own w' (w.heap.size + 1) (.slice a k c) k F) (hB : Below w.heap.size w w') (hk : k ≤ 61) :
    ∃ (a' : Option Addr) (k' c' : Nat) (F' : Nat → Int) (s' : Int), Ending.returned (.tuple #[.slice a k c, .int .i64 s]) = .returned (.tuple #[.slice a' k' c', .int .i64 s']) ∧ k' ≤ 61 ∧ IL w' a' k' F' ∧ Below w.heap.size w w' :=
  ⟨a, k, c, F, s, rfl, hk, h.il, hB⟩

/-- l8Mod at any number -/
theorem l8Mod_some (n s : Int) (w : World) (h1 : 1 ≤ s) (h2 : s ≤ 1000001) :
    Calls Try.prog 18 #[.int .i64 n, .int .i64 s] w fun e w' => ∃ v, e = .returned (.int .i64 v) ∧ w' = w := by
  have hb := tmod_bd n (s := s) (by omega)
  have hs : s ≠ 0 := by omega
  by_cases hn : n.tmod s < 0
  · go_enter Try.func18, Try.ntmps18
    go_wp2
    go_ret
    first | exact ⟨⟨_, rfl⟩, rfl⟩ | exact ⟨_, rfl, rfl⟩
  · go_enter Try.func18, Try.ntmps18
    go_wp2
    go_ret
    first | exact ⟨⟨_, rfl⟩, rfl⟩ | exact ⟨_, rfl, rfl⟩

set_option maxHeartbeats 1000000 in
theorem size_any (C : Nat) (a : Option Addr) (len cap n : Nat) (w : World) (h : Cur w C a len cap n) (hn : n ≤ 1000000) :
    Calls Try.prog 15 #[.pointer (some ⟨C, 0, none⟩)] w fun e w' => ∃ (s : Int) (n' : Nat), e = .returned (.int .i64 s) ∧ 1 ≤ s ∧ s ≤ 1000001 ∧ n' ≤ n + 2 ∧ Cur w' C a len cap n' ∧ Below C w w' := by
  have hL := lit_ip w [2, 3, 4, 7, 10, 100, 4096, 1000000, 1, 1000001] 3
  have hc := h.below ((Below.refl w.heap.size w).alloc (Nat.le_refl _) (.cells ([2, 3, 4, 7, 10, 100, 4096, 1000000, 1, 1000001].map (Value.int .i64)).toArray 3)) h.lt
  have hne : w.heap.size ≠ C := Nat.ne_of_gt h.lt
  have hBl : Below C w (w.alloc (.cells ([2, 3, 4, 7, 10, 100, 4096, 1000000, 1, 1000001].map (Value.int .i64)).toArray 3)) := (Below.refl C w).alloc (Nat.le_of_lt h.lt) _
  clear h
  go_enter Try.func15, Try.ntmps15
  go_wp2_with fail
  refine (among_any C a len cap n w.heap.size 10 _ _ _ hc hn hL hne (by omega) (by omega)).mono ?_
  rintro e w1 ⟨i, n', hi, rfl, hn', hc1, hO⟩
  have hv : 1 ≤ List.getD [2, 3, 4, 7, 10, 100, 4096, 1000000, 1, 1000001] i (0 : Int) ∧ List.getD [2, 3, 4, 7, 10, 100, 4096, 1000000, 1, 1000001] i (0 : Int) ≤ 1000001 := by
    have : ∀ i : Fin 10, 1 ≤ List.getD [2, 3, 4, 7, 10, 100, 4096, 1000000, 1, 1000001] i.1 (0 : Int) ∧ List.getD [2, 3, 4, 7, 10, 100, 4096, 1000000, 1, 1000001] i.1 (0 : Int) ≤ 1000001 := by decide
    exact this ⟨i, hi⟩
  generalize List.getD [2, 3, 4, 7, 10, 100, 4096, 1000000, 1, 1000001] i (0 : Int) = s at hv
  clear hc hL
  go_wp2
  go_ret
  exact ⟨s, n', rfl, hv.1, hv.2, hn', hc1, hBl.trans hO.below⟩

theorem cur_new (w : World) (a : Option Addr) (len cap : Nat) (hl : len ≤ 1048576) (hb : 0 < len → ∃ b off, a = some ⟨b, off, none⟩ ∧ b < w.heap.size ∧ ∀ i, i < len → ∃ v : Int, w.cell? ⟨b, off + i, none⟩ = some (.int .u8 v) ∧ 0 ≤ v ∧ v ≤ 255) :
    Cur (w.alloc (.cells #[.slice a len cap, .int .i64 0, .int .u64 0] 38)) w.heap.size a len cap 0 := by
  have hB : Below w.heap.size w (w.alloc (.cells #[.slice a len cap, .int .i64 0, .int .u64 0] 38)) := (Below.refl _ _).alloc (Nat.le_refl _) _
  refine ⟨by simp, by simp [go_sem], by simp [go_sem], ⟨0, by simp [go_sem], by omega, by omega⟩, by simp [go_sem], by simp [go_sem], fun h0 => ?_, hl⟩
  obtain ⟨b, off, ha, hbw, hc⟩ := hb h0
  refine ⟨b, off, ha, hbw, fun i hi => ?_⟩
  obtain ⟨v, hv, hv1⟩ := hc i hi
  exact ⟨v, (hB.cell (p := ⟨b, _, none⟩) hbw).trans hv, hv1⟩

set_option maxHeartbeats 4000000 in
theorem draw_any (a : Option Addr) (len cap : Nat) (w : World) (hl : len ≤ 1048576) (hb : 0 < len → ∃ b off, a = some ⟨b, off, none⟩ ∧ b < w.heap.size ∧ ∀ i, i < len → ∃ v : Int, w.cell? ⟨b, off + i, none⟩ = some (.int .u8 v) ∧ 0 ≤ v ∧ v ≤ 255) :
    Calls Try.prog 6 #[.slice a len cap] w fun e w' => ∃ (a' : Option Addr) (k c' : Nat) (F : Nat → Int) (s : Int), e = .returned (.tuple #[.slice a' k c', .int .i64 s]) ∧ k ≤ 61 ∧ IL w' a' k F ∧ Below w.heap.size w w' := by
  obtain ⟨i0, hi, hzz⟩ := Option.map_eq_some_iff.1 infoI
  simp only [Prod.mk.injEq] at hzz
  obtain ⟨hz0, hz1, hz2⟩ := hzz
  have hc0 := cur_new w a len cap hl hb
  have hB0 : Below w.heap.size w (w.alloc (.cells #[.slice a len cap, .int .i64 0, .int .u64 0] 38)) := (Below.refl _ _).alloc (Nat.le_refl _) _
  clear hb
  go_enter Try.func6, Try.ntmps6
  go_wp2_with fail
  refine (size_any w.heap.size a len cap 0 _ hc0 (by omega)).mono ?_
  rintro e w1 ⟨s, n1, rfl, hs1, hs2, hn1, hc1, hb1⟩
  have hB1 := hB0.trans hb1
  clear hc0 hB0 hb1
  go_wp2_with fail
  refine (pick_any w.heap.size a len cap _ _ _ hc1 (by omega)).mono ?_
  rintro e w2 ⟨r0, n2, rfl, hr0, hr1, -, hn2, hc2, hO2⟩
  have hr2 := hr1 (by omega)
  have hB2 := hB1.trans hO2.below
  clear hc1 hB1 hO2 hr1
  go_wp2_with fail
  refine (one_any w.heap.size a len cap _ _ _ hc2 (by omega)).mono ?_
  rintro e w3 ⟨q, n3, rfl, hn3, hc3, hO3⟩
  have hB3 := hB2.trans hO3.below
  clear hc2 hB2 hO3
  cases q with
  | false =>
    go_wp2_with fail
    refine (pick_any w.heap.size a len cap _ s _ hc3 (by omega)).mono ?_
    rintro e w4 ⟨t0, n4, rfl, -, -, -, hn4, hc4, hO4⟩
    have hB4 := hB3.trans hO4.below
    clear hc3 hB3 hO4
    go_wp2_with fail
    go_loopw [6, 7, 8] (fun v i t wr => ∃ (k r m : Nat) (q : Int) (F : Nat → Int), k + r ≤ 61 ∧ i = .int .i64 r ∧ t = .int .i64 q ∧ m ≤ 20 + 4 * k ∧ Own wr (w.heap.size + 1) v k F ∧ Cur wr w.heap.size a len cap m ∧ Below w.heap.size w wr) (fun _ i _ _ => (intOf i).toNat)
    case atStart => exact ⟨0, r0.toNat, n4, t0, fun _ => 0, by omega, by congr 1; omega, rfl, by omega, World.ownsRow_nil _ _ _ _, hc4, hB4⟩
    case round =>
      obtain ⟨k, r, m, q, F, hk, rfl, rfl, hm, hown, hcur, hB⟩ := hrel
      clear hc4 hB4
      by_cases hr : 0 < r
      · have j1 : (0 : Int) < (r : Int) := by omega
        go_wp2_with fail
        refine (l8Mod_some q s _ hs1 hs2).mono ?_
        rintro e w' ⟨x, rfl, hw'⟩
        have hs' := hw'.symm
        clear hw'
        subst hs'
        have hbase : w.heap.size + 1 ≤ wr.heap.size := hcur.lt
        go_wp2_with (at_builtin; refine wpList_append_own _ rfl _ _ 23 rfl (w.heap.size + 1) 3 i0 (.int .i64 0) 1 8 Try.underlying23 hi hz0 hz1 hz2 rfl (by decide) _ _ _ rfl (World.ownsRow.alloc hown _) ⟨wr.heap.size, 0, none⟩ 1 1 [.int .i64 x] rfl rfl (cell_one_new _ _ _) (fun y hy => by simp at hy; subst hy; rfl) (by unfold maxLen; omega) (by omega) (by simp; omega) ?_; intro v' w3 hown' hgrow3 _)
        have hB3 := ((Below.refl (w.heap.size + 1) wr).alloc hbase (.cells #[.int .i64 x] 3)).grown hgrow3 (by simp; omega) (fun z hz => (World.ownsRow.lt hown z hz).1)
        have hcur3 := hcur.below hB3 (Nat.lt_succ_self _)
        have hB5 := hB.trans (hB3.mono (Nat.le_succ _))
        have hown3 : Own w3 (w.heap.size + 1) v' (k + 1) (put F k x) := own_put hown'
        clear hB3 hcur hB hown hown' hgrow3
        go_wp2_with fail
        refine (pick_any w.heap.size a len cap _ _ _ hcur3 (by omega)).mono ?_
        rintro e w5 ⟨p1, m1, rfl, -, -, hp1, hm1, hc5, hO5⟩
        have hown5 := hown3.only hO5 (Nat.lt_succ_self _)
        have hB6 := hB5.trans hO5.below
        clear hcur3 hO5 hown3 hB5
        go_wp2_with fail
        refine (pick_any w.heap.size a len cap _ _ _ hc5 (by omega)).mono ?_
        rintro e w6 ⟨p2, m2, rfl, -, -, hp2, hm2, hc6, hO6⟩
        have hown6 := hown5.only hO6 (Nat.lt_succ_self _)
        have hB7 := hB6.trans hO6.below
        clear hc5 hO6 hown5 hB6
        go_wp2
        exact ⟨⟨k + 1, r - 1, m2, _, _, by omega, by congr 1; omega, rfl, by omega, hown6, hc6, hB7⟩, by simp [intOf]; omega⟩
      · have j1 : ¬ (0 : Int) < (r : Int) := by omega
        go_wp2_with fail
        refine (one_any w.heap.size a len cap _ _ _ hcur (by omega)).mono ?_
        rintro e w5 ⟨b, m1, rfl, hm1, hc5, hO5⟩
        have hown5 := hown.only hO5 (Nat.lt_succ_self _)
        have hB6 := hB.trans hO5.below
        clear hcur hO5 hown hB
        cases b with
        | false =>
          obtain ⟨v0, vc, rfl⟩ := hown5.shape
          go_wp2
          go_ret2
          exact draw_ret (k := k) hown5 hB6 (by omega)
        | true =>
          by_cases hk0 : 0 < k
          · obtain ⟨g, gc, rfl, hg, hP⟩ := hown5.some hk0
            have j2 : (0 : Int) < (k : Int) := by omega
            clear hown5
            go_wp2_with fail
            refine (pick_any w.heap.size a len cap _ _ _ hc5 (by omega)).mono ?_
            rintro e w6 ⟨p, m2, rfl, hp0, hp1, -, hm2, hc6, hO6⟩
            have hP6 := hP.only hO6 (by omega)
            have hB7 := hB6.trans hO6.below
            have hp2 := hp1 (by omega)
            obtain ⟨i, rfl⟩ := Int.eq_ofNat_of_zero_le hp0
            have hi' : i < k := by omega
            clear hc5 hO6 hP hB6 hp1
            have hL := lit_ip w6 [-1, s, s - 1] 3
            have hc7 := hc6.below ((Below.refl w6.heap.size w6).alloc (Nat.le_refl _) (.cells #[.int .i64 (-1), .int .i64 s, .int .i64 (s - 1)] 3)) hc6.lt
            have hP7 := hP6.below ((Below.refl w6.heap.size w6).alloc (Nat.le_refl _) (.cells #[.int .i64 (-1), .int .i64 s, .int .i64 (s - 1)] 3)) hP6.lt
            have hB8 := hB7.alloc hB7.size (.cells #[.int .i64 (-1), .int .i64 s, .int .i64 (s - 1)] 3)
            have hne : w6.heap.size ≠ w.heap.size := Nat.ne_of_gt hc6.lt
            clear hc6 hP6 hB7
            go_wp2_with fail
            refine (among_any w.heap.size a len cap _ _ 3 _ _ _ hc7 (by omega) hL hne (by omega) (by omega)).mono ?_
            rintro e w7 ⟨y, m3, hy, rfl, hm3, hc8, hO8⟩
            have hP8 := hP7.only hO8 (by omega)
            have hB9 := hB8.trans hO8.below
            generalize List.getD [-1, s, s - 1] y 0 = z
            have x0 := hP8.c i hi'
            have f0 := hP8.fz i
            have hP9 := hP8.set hi' z
            have hB10 := hB9.setCell (p := ⟨g, i, none⟩) (by show w.heap.size ≤ g; omega) (.int .i64 z)
            clear hP7 hO8 hB8 hc7 hL hP8 hB9
            go_wp2
            go_ret2
            exact ⟨_, k, gc, _, s, rfl, by omega, hP9.il, hB10⟩
          · have j2 : ¬ (0 : Int) < (k : Int) := by omega
            obtain rfl : k = 0 := by omega
            obtain ⟨v0, vc, rfl⟩ := hown5.shape
            go_wp2
            go_ret2
            exact draw_ret hown5 hB6 (by omega)
  | true =>
    go_wp2_with fail
    refine (pick_any w.heap.size a len cap _ _ _ hc3 (by omega)).mono ?_
    rintro e w3b ⟨r3, n3b, rfl, hr3, hr4, -, hn3b, hc3b, hO3b⟩
    have hr5 := hr4 (by omega)
    have hB3b := hB3.trans hO3b.below
    clear hc3 hB3 hO3b hr4
    have hc3 := hc3b
    have hB3 := hB3b
    clear hc3b hB3b
    go_wp2_with fail
    refine (pick_any w.heap.size a len cap _ s _ hc3 (by omega)).mono ?_
    rintro e w4 ⟨t0, n4, rfl, -, -, -, hn4, hc4, hO4⟩
    have hB4 := hB3.trans hO4.below
    clear hc3 hB3 hO4
    go_wp2_with fail
    go_loopw [6, 7, 8] (fun v i t wr => ∃ (k r m : Nat) (q : Int) (F : Nat → Int), k + r ≤ 61 ∧ i = .int .i64 r ∧ t = .int .i64 q ∧ m ≤ 20 + 4 * k ∧ Own wr (w.heap.size + 1) v k F ∧ Cur wr w.heap.size a len cap m ∧ Below w.heap.size w wr) (fun _ i _ _ => (intOf i).toNat)
    case atStart => exact ⟨0, (59 + r3).toNat, n4, t0, fun _ => 0, by omega, by congr 1; omega, rfl, by omega, World.ownsRow_nil _ _ _ _, hc4, hB4⟩
    case round =>
      obtain ⟨k, r, m, q, F, hk, rfl, rfl, hm, hown, hcur, hB⟩ := hrel
      clear hc4 hB4
      by_cases hr : 0 < r
      · have j1 : (0 : Int) < (r : Int) := by omega
        go_wp2_with fail
        refine (l8Mod_some q s _ hs1 hs2).mono ?_
        rintro e w' ⟨x, rfl, hw'⟩
        have hs' := hw'.symm
        clear hw'
        subst hs'
        have hbase : w.heap.size + 1 ≤ wr.heap.size := hcur.lt
        go_wp2_with (at_builtin; refine wpList_append_own _ rfl _ _ 23 rfl (w.heap.size + 1) 3 i0 (.int .i64 0) 1 8 Try.underlying23 hi hz0 hz1 hz2 rfl (by decide) _ _ _ rfl (World.ownsRow.alloc hown _) ⟨wr.heap.size, 0, none⟩ 1 1 [.int .i64 x] rfl rfl (cell_one_new _ _ _) (fun y hy => by simp at hy; subst hy; rfl) (by unfold maxLen; omega) (by omega) (by simp; omega) ?_; intro v' w3 hown' hgrow3 _)
        have hB3 := ((Below.refl (w.heap.size + 1) wr).alloc hbase (.cells #[.int .i64 x] 3)).grown hgrow3 (by simp; omega) (fun z hz => (World.ownsRow.lt hown z hz).1)
        have hcur3 := hcur.below hB3 (Nat.lt_succ_self _)
        have hB5 := hB.trans (hB3.mono (Nat.le_succ _))
        have hown3 : Own w3 (w.heap.size + 1) v' (k + 1) (put F k x) := own_put hown'
        clear hB3 hcur hB hown hown' hgrow3
        go_wp2_with fail
        refine (pick_any w.heap.size a len cap _ _ _ hcur3 (by omega)).mono ?_
        rintro e w5 ⟨p1, m1, rfl, -, -, hp1, hm1, hc5, hO5⟩
        have hown5 := hown3.only hO5 (Nat.lt_succ_self _)
        have hB6 := hB5.trans hO5.below
        clear hcur3 hO5 hown3 hB5
        go_wp2_with fail
        refine (pick_any w.heap.size a len cap _ _ _ hc5 (by omega)).mono ?_
        rintro e w6 ⟨p2, m2, rfl, -, -, hp2, hm2, hc6, hO6⟩
        have hown6 := hown5.only hO6 (Nat.lt_succ_self _)
        have hB7 := hB6.trans hO6.below
        clear hc5 hO6 hown5 hB6
        go_wp2
        exact ⟨⟨k + 1, r - 1, m2, _, _, by omega, by congr 1; omega, rfl, by omega, hown6, hc6, hB7⟩, by simp [intOf]; omega⟩
      · have j1 : ¬ (0 : Int) < (r : Int) := by omega
        go_wp2_with fail
        refine (one_any w.heap.size a len cap _ _ _ hcur (by omega)).mono ?_
        rintro e w5 ⟨b, m1, rfl, hm1, hc5, hO5⟩
        have hown5 := hown.only hO5 (Nat.lt_succ_self _)
        have hB6 := hB.trans hO5.below
        clear hcur hO5 hown hB
        cases b with
        | false =>
          obtain ⟨v0, vc, rfl⟩ := hown5.shape
          go_wp2
          go_ret2
          exact draw_ret (k := k) hown5 hB6 (by omega)
        | true =>
          by_cases hk0 : 0 < k
          · obtain ⟨g, gc, rfl, hg, hP⟩ := hown5.some hk0
            have j2 : (0 : Int) < (k : Int) := by omega
            clear hown5
            go_wp2_with fail
            refine (pick_any w.heap.size a len cap _ _ _ hc5 (by omega)).mono ?_
            rintro e w6 ⟨p, m2, rfl, hp0, hp1, -, hm2, hc6, hO6⟩
            have hP6 := hP.only hO6 (by omega)
            have hB7 := hB6.trans hO6.below
            have hp2 := hp1 (by omega)
            obtain ⟨i, rfl⟩ := Int.eq_ofNat_of_zero_le hp0
            have hi' : i < k := by omega
            clear hc5 hO6 hP hB6 hp1
            have hL := lit_ip w6 [-1, s, s - 1] 3
            have hc7 := hc6.below ((Below.refl w6.heap.size w6).alloc (Nat.le_refl _) (.cells #[.int .i64 (-1), .int .i64 s, .int .i64 (s - 1)] 3)) hc6.lt
            have hP7 := hP6.below ((Below.refl w6.heap.size w6).alloc (Nat.le_refl _) (.cells #[.int .i64 (-1), .int .i64 s, .int .i64 (s - 1)] 3)) hP6.lt
            have hB8 := hB7.alloc hB7.size (.cells #[.int .i64 (-1), .int .i64 s, .int .i64 (s - 1)] 3)
            have hne : w6.heap.size ≠ w.heap.size := Nat.ne_of_gt hc6.lt
            clear hc6 hP6 hB7
            go_wp2_with fail
            refine (among_any w.heap.size a len cap _ _ 3 _ _ _ hc7 (by omega) hL hne (by omega) (by omega)).mono ?_
            rintro e w7 ⟨y, m3, hy, rfl, hm3, hc8, hO8⟩
            have hP8 := hP7.only hO8 (by omega)
            have hB9 := hB8.trans hO8.below
            generalize List.getD [-1, s, s - 1] y 0 = z
            have x0 := hP8.c i hi'
            have f0 := hP8.fz i
            have hP9 := hP8.set hi' z
            have hB10 := hB9.setCell (p := ⟨g, i, none⟩) (by show w.heap.size ≤ g; omega) (.int .i64 z)
            clear hP7 hO8 hB8 hc7 hL hP8 hB9
            go_wp2
            go_ret2
            exact ⟨_, k, gc, _, s, rfl, by omega, hP9.il, hB10⟩
          · have j2 : ¬ (0 : Int) < (k : Int) := by omega
            obtain rfl : k = 0 := by omega
            obtain ⟨v0, vc, rfl⟩ := hown5.shape
            go_wp2
            go_ret2
            exact draw_ret hown5 hB6 (by omega)
end Go.Proofs.Ytlianbeogmefhaa
