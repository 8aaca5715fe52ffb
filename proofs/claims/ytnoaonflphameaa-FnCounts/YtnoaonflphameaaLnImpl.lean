/- A line of cells, as the program draws it: by goto. -/
import Derived.Test.YtnoaonflphameaaLnWalk
import Derived.WalkMore
import Derived.ScopeJumps
namespace Go.Proofs.Ytnoaonflphameaa
open Go.RowKit

set_option maxHeartbeats 400000 in
theorem within_any (n : Int) (w : World) :
    Calls Try.prog 65 #[.int .i64 n, .int .i64 1000] w fun e w' => e = .returned (.bool (inK n)) ∧ w' = w := by
  by_cases h0 : -1000 ≤ n
  · by_cases h1 : n ≤ 1000
    · rw [inK_mk ⟨h0, h1⟩]
      go_enter Try.func65, Try.ntmps65
      go_wp2
      go_ret
      exact ⟨rfl, rfl⟩
    · rw [inK_f (by omega)]
      go_enter Try.func65, Try.ntmps65
      go_wp2
      go_ret
      exact ⟨rfl, rfl⟩
  · rw [inK_f (by omega)]
    go_enter Try.func65, Try.ntmps65
    go_wp2
    go_ret
    exact ⟨rfl, rfl⟩
set_option maxHeartbeats 400000 in
theorem sizeSign_any (n : Int) (w : World) (h : -100000 ≤ n ∧ n ≤ 100000) :
    Calls Try.prog 66 #[.int .i64 n] w fun e w' => e = .returned (.tuple #[.int .i64 (ab n), .int .i64 (sgn1 n)]) ∧ w' = w := by
  by_cases hz : n < 0
  · have e : ab n = -n := by simp [ab, hz]
    have e2 : sgn1 n = -1 := by simp [sgn1, hz]
    rw [e, e2]
    go_enter Try.func66, Try.ntmps66
    go_wp2
    go_ret2
    exact ⟨rfl, rfl⟩
  · have e : ab n = n := by simp [ab, hz]
    have e2 : sgn1 n = 1 := by simp [sgn1, hz]
    rw [e, e2]
    go_enter Try.func66, Try.ntmps66
    go_wp2
    go_ret2
    exact ⟨rfl, rfl⟩
set_option maxHeartbeats 2000000 in
set_option maxRecDepth 20000 in
theorem implLine_no (x1 y1 x2 y2 : Int) (w : World) (h : lnB x1 y1 x2 y2 = false) :
    Calls Try.prog 34 #[.int .i64 x1, .int .i64 y1, .int .i64 x2, .int .i64 y2] w fun e w' => e = .returned (.slice none 0 0) ∧ w' = w := by
  have c1 := within_any x1
  have c2 := within_any y1
  have c3 := within_any x2
  have c4 := within_any y2
  unfold lnB at h
  generalize inK x1 = q1 at *
  generalize inK y1 = q2 at *
  generalize inK x2 = q3 at *
  generalize inK y2 = q4 at *
  go_enter Try.func34, Try.ntmps34
  go_wp2
  go_step3
  go_wp2_with fail
  refine (c1 _).mono ?_
  rintro e w1 ⟨rfl, hw1⟩
  have hs1 := hw1.symm
  clear hw1
  subst hs1
  cases q1 with
  | false =>
    go_wp2
    first | go_ret | (rw [Exit.noGoto_ret]; go_ret)
    exact ⟨rfl, rfl⟩
  | true =>
    go_wp2_with fail
    refine (c2 _).mono ?_
    rintro e w1 ⟨rfl, hw1⟩
    have hs1 := hw1.symm
    clear hw1
    subst hs1
    cases q2 with
    | false =>
      go_wp2
      first | go_ret | (rw [Exit.noGoto_ret]; go_ret)
      exact ⟨rfl, rfl⟩
    | true =>
      go_wp2_with fail
      refine (c3 _).mono ?_
      rintro e w1 ⟨rfl, hw1⟩
      have hs1 := hw1.symm
      clear hw1
      subst hs1
      cases q3 with
      | false =>
        go_wp2
        first | go_ret | (rw [Exit.noGoto_ret]; go_ret)
        exact ⟨rfl, rfl⟩
      | true =>
        have h4 : q4 = false := by simpa using h
        subst h4
        go_wp2_with fail
        refine (c4 _).mono ?_
        rintro e w1 ⟨rfl, hw1⟩
        have hs1 := hw1.symm
        clear hw1
        subst hs1
        go_wp2
        first | go_ret | (rw [Exit.noGoto_ret]; go_ret)
        exact ⟨rfl, rfl⟩

/-- the frame of the program's LineCells at its label -/
def frm (X1 Y1 x2 y2 ax sx ay sy x y e : Int) (o : Value) (u : Nat → Value) : Act := { tmps := #[.int .i64 X1, .int .i64 Y1, .int .i64 x2, .int .i64 y2, u 4, u 5, u 6, u 7, u 8, .int .i64 ax, .int .i64 sx, .int .i64 ay, .int .i64 sy, o, .int .i64 x, .int .i64 y, .int .i64 e, u 17, u 18, u 19, u 20, u 21, u 22, u 23, u 24, u 25, u 26, u 27, u 28, u 29, u 30, u 31, u 32, u 33, u 34, u 35, u 36, u 37, u 38, u 39, u 40, u 41, u 42, u 43, u 44, u 45, u 46, u 47, u 48, u 49, u 50, u 51, u 52, u 53, u 54, u 55, u 56, u 57, u 58, u 59, u 60, u 61, u 62, u 63, u 64, u 65, u 66, u 67, u 68, u 69, u 70, u 71, u 72, u 73, u 74, u 75, u 76, u 77, u 78, u 79, u 80, u 81, u 82, u 83, u 84, u 85, u 86, u 87, u 88, u 89, u 90, u 91, u 92, u 93, u 94, u 95], defers := [] }
/-- what holds at each jump -/
def JL (X1 Y1 x2 y2 ax sx ay sy : Int) (n base : Nat) (w : World) (a' : Act) (w' : World) : Prop :=
  ∃ (u : Nat → Value) (k : Nat) (x y e : Int) (o : Value) (B : Nat → Nat), a' = frm X1 Y1 x2 y2 ax sx ay sy x y e o u ∧ k ≤ n ∧ x = lnX X1 Y1 x2 y2 k ∧ y = lnY X1 Y1 x2 y2 k ∧ e = (pt ax ay k).2.2 ∧ OwnP w' base o k B (lnX X1 Y1 x2 y2) (lnY X1 Y1 x2 y2) ∧ Below base w w'
theorem JL_mk {X1 Y1 x2 y2 ax sx ay sy : Int} {n base : Nat} {w : World} {a' : Act} {w' : World} {kk : Nat} {xx yy ee : Int} {o : Value} {B : Nat → Nat} (h : a' = frm X1 Y1 x2 y2 ax sx ay sy xx yy ee o (fun i => a'.tmps.getD i undef)) (hk : kk ≤ n) (hx : xx = lnX X1 Y1 x2 y2 kk) (hy : yy = lnY X1 Y1 x2 y2 kk) (he : ee = (pt ax ay kk).2.2) (ho : OwnP w' base o kk B (lnX X1 Y1 x2 y2) (lnY X1 Y1 x2 y2)) (hB : Below base w w') : JL X1 Y1 x2 y2 ax sx ay sy n base w a' w' :=
  ⟨_, kk, xx, yy, ee, o, B, h, hk, hx, hy, he, ho, hB⟩
set_option maxHeartbeats 8000000 in
set_option maxRecDepth 20000 in
theorem implLine_yes (X1 Y1 x2 y2 : Int) (w : World) (h : lnB X1 Y1 x2 y2 = true) :
    Calls Try.prog 34 #[.int .i64 X1, .int .i64 Y1, .int .i64 x2, .int .i64 y2] w fun e w' => AnsPc w w' e (steps (ab (x2 - X1)) (ab (y2 - Y1)) + 1) (lnX X1 Y1 x2 y2) (lnY X1 Y1 x2 y2) ∧ Below w.heap.size w w' := by
  obtain ⟨i0, hi, hzz⟩ := Option.map_eq_some_iff.1 infoSl
  simp only [Prod.mk.injEq] at hzz
  obtain ⟨hz0, hz1, hz2⟩ := hzz
  obtain ⟨h1, h2, h3, h4⟩ := lnB_parts h
  have b1 := inK_t h1
  have b2 := inK_t h2
  have b3 := inK_t h3
  have b4 := inK_t h4
  have hR := fun k hk => rnd_at h k hk
  have p4 : ab (x2 - X1) ≤ 2000 ∧ 0 ≤ ab (x2 - X1) := by unfold ab; split <;> omega
  have q4 : ab (y2 - Y1) ≤ 2000 ∧ 0 ≤ ab (y2 - Y1) := by unfold ab; split <;> omega
  have hn2 : steps (ab (x2 - X1)) (ab (y2 - Y1)) ≤ 2000 := by unfold steps; omega
  have hnm : ((steps (ab (x2 - X1)) (ab (y2 - Y1)) : Nat) : Int) = max (ab (x2 - X1)) (ab (y2 - Y1)) := by unfold steps; omega
  have a1 := sizeSign_any (x2 - X1)
  have a2 := sizeSign_any (y2 - Y1)
  have e0 : pt (ab (x2 - X1)) (ab (y2 - Y1)) 0 = (0, 0, ab (x2 - X1) - ab (y2 - Y1)) := rfl
  have z1 : lnX X1 Y1 x2 y2 0 = X1 := by simp [lnX, e0]
  have z2 : lnY X1 Y1 x2 y2 0 = Y1 := by simp [lnY, e0]
  have s1 := (ab_sgn (x2 - X1)).2.2
  have s2 := (ab_sgn (y2 - Y1)).2.2
  generalize hax : ab (x2 - X1) = ax at *
  generalize hay : ab (y2 - Y1) = ay at *
  generalize sgn1 (x2 - X1) = sx at *
  generalize sgn1 (y2 - Y1) = sy at *
  generalize hst : steps ax ay = n at *
  clear hax hay h hst
  have s3 : -1 ≤ sx ∧ sx ≤ 1 := by omega
  have s4 : -1 ≤ sy ∧ sy ≤ 1 := by omega
  have HR : Hid (∀ k, k ≤ n → Rnd X1 Y1 x2 y2 ax ay sx sy n k (lnX X1 Y1 x2 y2 k) (lnY X1 Y1 x2 y2 k) (pt ax ay k).2.2) := hR
  obtain ⟨wm, hrun, hownm, hgrow⟩ := run_make_own (P := Try.prog) w w.heap.size 72 23 i0 _ 1 Try.underlying72 hi hz0 hz1 .i64 .i64 (n + 1) (by rw [hz2]; omega) (by unfold maxLen; omega) (Nat.le_refl _)
  have hBm : Below w.heap.size w wm := (Below.refl w.heap.size w).grown hgrow (Nat.le_refl _) (fun q hq => by cases hq)
  clear hR s1 s2 hgrow
  go_enter Try.func34, Try.ntmps34
  go_wp2
  refine wp_scope_jumps 0 (JL X1 Y1 x2 y2 ax sx ay sy n w.heap.size w) (fun a' _ => n + 1 - lenOf (a'.tmps.getD 13 undef)) rfl ?_ ?_
  · go_wp2_with fail
    refine (within_any X1 _).mono ?_
    rw [h1]
    rintro e w1 ⟨rfl, hw1⟩
    have hs1 := hw1.symm
    clear hw1
    subst hs1
    go_wp2_with fail
    refine (within_any Y1 _).mono ?_
    rw [h2]
    rintro e w1 ⟨rfl, hw1⟩
    have hs1 := hw1.symm
    clear hw1
    subst hs1
    go_wp2_with fail
    refine (within_any x2 _).mono ?_
    rw [h3]
    rintro e w1 ⟨rfl, hw1⟩
    have hs1 := hw1.symm
    clear hw1
    subst hs1
    go_wp2_with fail
    refine (within_any y2 _).mono ?_
    rw [h4]
    rintro e w1 ⟨rfl, hw1⟩
    have hs1 := hw1.symm
    clear hw1
    subst hs1
    go_wp2_with fail
    refine (a1 _ (by omega)).mono ?_
    rintro e w1 ⟨rfl, hw1⟩
    have hs1 := hw1.symm
    clear hw1
    subst hs1
    go_wp2_with fail
    refine (a2 _ (by omega)).mono ?_
    rintro e w1 ⟨rfl, hw1⟩
    have hs1 := hw1.symm
    clear hw1
    subst hs1
    clear a1 a2 h1 h2 h3 h4
    by_cases hmx : ax < ay
    · have hrun' := hrun
      rw [show ((n + 1 : Nat) : Int) = ay + 1 by omega] at hrun'
      clear hrun hnm
      have hown : OwnP wm w.heap.size (.slice (some ⟨w.heap.size, 0, none⟩) 0 (n + 1)) 0 (fun _ => 0) (lnX X1 Y1 x2 y2) (lnY X1 Y1 x2 y2) := ⟨hownm, fun _ hi => absurd hi (Nat.not_lt_zero _), fun _ _ hi => absurd hi (Nat.not_lt_zero _)⟩
      have R := HR.out 0 (Nat.zero_le _)
      rw [z1, z2, e0] at R
      have hB := hBm
      have hbase : w.heap.size ≤ wm.heap.size := hB.size
      go_wp2_with fail
      go_step3
      clear hrun' z1 z2 e0 HR hownm hBm hmx
      by_cases hlt : 0 < n
      · have hno := R.more hlt
        obtain ⟨nx1, ny1, ne1⟩ := R.next hlt
        have bx := R.bx
        have by' := R.byy
        have be := R.be
        have eXk := R.ex.symm
        have eYk := R.ey.symm
        clear R
        by_cases hx2 : X1 = x2
        · have hy2 : ¬ Y1 = y2 := fun h => hno ⟨hx2, h⟩
          have kx : (X1 == x2) = true := by simpa using hx2
          have ky : (Y1 == y2) = false := by simpa using hy2
          clear hx2 hy2 hno
          by_cases c1 : -ay < 2 * (ax - ay)
          · by_cases c2 : 2 * (ax - ay) < ax
            · rw [if_pos c1, if_pos c2] at ne1
              rw [if_pos c1] at nx1
              rw [if_pos c2] at ny1
              have NX : Hid (lnX X1 Y1 x2 y2 (0 + 1) = X1 + sx) := nx1
              have NY : Hid (lnY X1 Y1 x2 y2 (0 + 1) = Y1 + sy) := ny1
              have NE : Hid ((pt ax ay (0 + 1)).2.2 = (ax - ay) + -ay + ax) := ne1
              clear nx1 ny1 ne1
              go_wp2_with (at_builtin; refine wpList_append_own _ rfl _ _ 72 rfl w.heap.size 23 i0 (.slice none 0 0) 1 24 Try.underlying72 hi hz0 hz1 hz2 rfl (by decide) _ _ _ rfl (World.ownsRow.alloc (World.ownsRow.alloc hown.row _) _) ⟨wm.heap.size + 1, 0, none⟩ 1 1 [hd2 wm.heap.size] rfl rfl (cell_two_new _ _ _ _) (fun X1 hx => by simp at hx; subst hx; rfl) (by unfold maxLen; omega) (by omega) (by simp; omega) ?_; intro v' w3 hown' hgrow3 _; have hO3 := hown.step hbase eXk eYk hown' hgrow3; have hB3 := ((hB.alloc hbase (.cells #[.int .i64 X1, .int .i64 Y1] 3)).alloc (by simp; omega) (.cells #[hd2 wm.heap.size] 23)).grown hgrow3 (by simp; omega) (fun q hq => (World.ownsRow.lt hown.row q hq).1); obtain ⟨sa, sc, rfl⟩ := hO3.shape; clear hown hown' hgrow3)
              go_step3
              exact ⟨rfl, JL_mk (kk := 0 + 1) (xx := X1 + sx) (yy := Y1 + sy) (ee := (ax - ay) - ay + ax) (o := .slice sa (0 + 1) sc) rfl (by omega) NX.out.symm NY.out.symm (by rw [NE.out]; omega) hO3 hB3⟩
            · rw [if_pos c1, if_neg c2] at ne1
              rw [if_pos c1] at nx1
              rw [if_neg c2] at ny1
              have NX : Hid (lnX X1 Y1 x2 y2 (0 + 1) = X1 + sx) := nx1
              have NY : Hid (lnY X1 Y1 x2 y2 (0 + 1) = Y1) := ny1
              have NE : Hid ((pt ax ay (0 + 1)).2.2 = (ax - ay) + -ay + 0) := ne1
              clear nx1 ny1 ne1
              go_wp2_with (at_builtin; refine wpList_append_own _ rfl _ _ 72 rfl w.heap.size 23 i0 (.slice none 0 0) 1 24 Try.underlying72 hi hz0 hz1 hz2 rfl (by decide) _ _ _ rfl (World.ownsRow.alloc (World.ownsRow.alloc hown.row _) _) ⟨wm.heap.size + 1, 0, none⟩ 1 1 [hd2 wm.heap.size] rfl rfl (cell_two_new _ _ _ _) (fun X1 hx => by simp at hx; subst hx; rfl) (by unfold maxLen; omega) (by omega) (by simp; omega) ?_; intro v' w3 hown' hgrow3 _; have hO3 := hown.step hbase eXk eYk hown' hgrow3; have hB3 := ((hB.alloc hbase (.cells #[.int .i64 X1, .int .i64 Y1] 3)).alloc (by simp; omega) (.cells #[hd2 wm.heap.size] 23)).grown hgrow3 (by simp; omega) (fun q hq => (World.ownsRow.lt hown.row q hq).1); obtain ⟨sa, sc, rfl⟩ := hO3.shape; clear hown hown' hgrow3)
              go_step3
              exact ⟨rfl, JL_mk (kk := 0 + 1) (xx := X1 + sx) (yy := Y1) (ee := (ax - ay) - ay) (o := .slice sa (0 + 1) sc) rfl (by omega) NX.out.symm NY.out.symm (by rw [NE.out]; omega) hO3 hB3⟩
          · by_cases c2 : 2 * (ax - ay) < ax
            · rw [if_neg c1, if_pos c2] at ne1
              rw [if_neg c1] at nx1
              rw [if_pos c2] at ny1
              have NX : Hid (lnX X1 Y1 x2 y2 (0 + 1) = X1) := nx1
              have NY : Hid (lnY X1 Y1 x2 y2 (0 + 1) = Y1 + sy) := ny1
              have NE : Hid ((pt ax ay (0 + 1)).2.2 = (ax - ay) + 0 + ax) := ne1
              clear nx1 ny1 ne1
              go_wp2_with (at_builtin; refine wpList_append_own _ rfl _ _ 72 rfl w.heap.size 23 i0 (.slice none 0 0) 1 24 Try.underlying72 hi hz0 hz1 hz2 rfl (by decide) _ _ _ rfl (World.ownsRow.alloc (World.ownsRow.alloc hown.row _) _) ⟨wm.heap.size + 1, 0, none⟩ 1 1 [hd2 wm.heap.size] rfl rfl (cell_two_new _ _ _ _) (fun X1 hx => by simp at hx; subst hx; rfl) (by unfold maxLen; omega) (by omega) (by simp; omega) ?_; intro v' w3 hown' hgrow3 _; have hO3 := hown.step hbase eXk eYk hown' hgrow3; have hB3 := ((hB.alloc hbase (.cells #[.int .i64 X1, .int .i64 Y1] 3)).alloc (by simp; omega) (.cells #[hd2 wm.heap.size] 23)).grown hgrow3 (by simp; omega) (fun q hq => (World.ownsRow.lt hown.row q hq).1); obtain ⟨sa, sc, rfl⟩ := hO3.shape; clear hown hown' hgrow3)
              go_step3
              exact ⟨rfl, JL_mk (kk := 0 + 1) (xx := X1) (yy := Y1 + sy) (ee := (ax - ay) + ax) (o := .slice sa (0 + 1) sc) rfl (by omega) NX.out.symm NY.out.symm (by rw [NE.out]; omega) hO3 hB3⟩
            · rw [if_neg c1, if_neg c2] at ne1
              rw [if_neg c1] at nx1
              rw [if_neg c2] at ny1
              have NX : Hid (lnX X1 Y1 x2 y2 (0 + 1) = X1) := nx1
              have NY : Hid (lnY X1 Y1 x2 y2 (0 + 1) = Y1) := ny1
              have NE : Hid ((pt ax ay (0 + 1)).2.2 = (ax - ay) + 0 + 0) := ne1
              clear nx1 ny1 ne1
              go_wp2_with (at_builtin; refine wpList_append_own _ rfl _ _ 72 rfl w.heap.size 23 i0 (.slice none 0 0) 1 24 Try.underlying72 hi hz0 hz1 hz2 rfl (by decide) _ _ _ rfl (World.ownsRow.alloc (World.ownsRow.alloc hown.row _) _) ⟨wm.heap.size + 1, 0, none⟩ 1 1 [hd2 wm.heap.size] rfl rfl (cell_two_new _ _ _ _) (fun X1 hx => by simp at hx; subst hx; rfl) (by unfold maxLen; omega) (by omega) (by simp; omega) ?_; intro v' w3 hown' hgrow3 _; have hO3 := hown.step hbase eXk eYk hown' hgrow3; have hB3 := ((hB.alloc hbase (.cells #[.int .i64 X1, .int .i64 Y1] 3)).alloc (by simp; omega) (.cells #[hd2 wm.heap.size] 23)).grown hgrow3 (by simp; omega) (fun q hq => (World.ownsRow.lt hown.row q hq).1); obtain ⟨sa, sc, rfl⟩ := hO3.shape; clear hown hown' hgrow3)
              go_step3
              exact ⟨rfl, JL_mk (kk := 0 + 1) (xx := X1) (yy := Y1) (ee := (ax - ay)) (o := .slice sa (0 + 1) sc) rfl (by omega) NX.out.symm NY.out.symm (by rw [NE.out]; omega) hO3 hB3⟩
        · have kx : (X1 == x2) = false := by simpa using hx2
          clear hx2 hno
          by_cases c1 : -ay < 2 * (ax - ay)
          · by_cases c2 : 2 * (ax - ay) < ax
            · rw [if_pos c1, if_pos c2] at ne1
              rw [if_pos c1] at nx1
              rw [if_pos c2] at ny1
              have NX : Hid (lnX X1 Y1 x2 y2 (0 + 1) = X1 + sx) := nx1
              have NY : Hid (lnY X1 Y1 x2 y2 (0 + 1) = Y1 + sy) := ny1
              have NE : Hid ((pt ax ay (0 + 1)).2.2 = (ax - ay) + -ay + ax) := ne1
              clear nx1 ny1 ne1
              go_wp2_with (at_builtin; refine wpList_append_own _ rfl _ _ 72 rfl w.heap.size 23 i0 (.slice none 0 0) 1 24 Try.underlying72 hi hz0 hz1 hz2 rfl (by decide) _ _ _ rfl (World.ownsRow.alloc (World.ownsRow.alloc hown.row _) _) ⟨wm.heap.size + 1, 0, none⟩ 1 1 [hd2 wm.heap.size] rfl rfl (cell_two_new _ _ _ _) (fun X1 hx => by simp at hx; subst hx; rfl) (by unfold maxLen; omega) (by omega) (by simp; omega) ?_; intro v' w3 hown' hgrow3 _; have hO3 := hown.step hbase eXk eYk hown' hgrow3; have hB3 := ((hB.alloc hbase (.cells #[.int .i64 X1, .int .i64 Y1] 3)).alloc (by simp; omega) (.cells #[hd2 wm.heap.size] 23)).grown hgrow3 (by simp; omega) (fun q hq => (World.ownsRow.lt hown.row q hq).1); obtain ⟨sa, sc, rfl⟩ := hO3.shape; clear hown hown' hgrow3)
              go_step3
              exact ⟨rfl, JL_mk (kk := 0 + 1) (xx := X1 + sx) (yy := Y1 + sy) (ee := (ax - ay) - ay + ax) (o := .slice sa (0 + 1) sc) rfl (by omega) NX.out.symm NY.out.symm (by rw [NE.out]; omega) hO3 hB3⟩
            · rw [if_pos c1, if_neg c2] at ne1
              rw [if_pos c1] at nx1
              rw [if_neg c2] at ny1
              have NX : Hid (lnX X1 Y1 x2 y2 (0 + 1) = X1 + sx) := nx1
              have NY : Hid (lnY X1 Y1 x2 y2 (0 + 1) = Y1) := ny1
              have NE : Hid ((pt ax ay (0 + 1)).2.2 = (ax - ay) + -ay + 0) := ne1
              clear nx1 ny1 ne1
              go_wp2_with (at_builtin; refine wpList_append_own _ rfl _ _ 72 rfl w.heap.size 23 i0 (.slice none 0 0) 1 24 Try.underlying72 hi hz0 hz1 hz2 rfl (by decide) _ _ _ rfl (World.ownsRow.alloc (World.ownsRow.alloc hown.row _) _) ⟨wm.heap.size + 1, 0, none⟩ 1 1 [hd2 wm.heap.size] rfl rfl (cell_two_new _ _ _ _) (fun X1 hx => by simp at hx; subst hx; rfl) (by unfold maxLen; omega) (by omega) (by simp; omega) ?_; intro v' w3 hown' hgrow3 _; have hO3 := hown.step hbase eXk eYk hown' hgrow3; have hB3 := ((hB.alloc hbase (.cells #[.int .i64 X1, .int .i64 Y1] 3)).alloc (by simp; omega) (.cells #[hd2 wm.heap.size] 23)).grown hgrow3 (by simp; omega) (fun q hq => (World.ownsRow.lt hown.row q hq).1); obtain ⟨sa, sc, rfl⟩ := hO3.shape; clear hown hown' hgrow3)
              go_step3
              exact ⟨rfl, JL_mk (kk := 0 + 1) (xx := X1 + sx) (yy := Y1) (ee := (ax - ay) - ay) (o := .slice sa (0 + 1) sc) rfl (by omega) NX.out.symm NY.out.symm (by rw [NE.out]; omega) hO3 hB3⟩
          · by_cases c2 : 2 * (ax - ay) < ax
            · rw [if_neg c1, if_pos c2] at ne1
              rw [if_neg c1] at nx1
              rw [if_pos c2] at ny1
              have NX : Hid (lnX X1 Y1 x2 y2 (0 + 1) = X1) := nx1
              have NY : Hid (lnY X1 Y1 x2 y2 (0 + 1) = Y1 + sy) := ny1
              have NE : Hid ((pt ax ay (0 + 1)).2.2 = (ax - ay) + 0 + ax) := ne1
              clear nx1 ny1 ne1
              go_wp2_with (at_builtin; refine wpList_append_own _ rfl _ _ 72 rfl w.heap.size 23 i0 (.slice none 0 0) 1 24 Try.underlying72 hi hz0 hz1 hz2 rfl (by decide) _ _ _ rfl (World.ownsRow.alloc (World.ownsRow.alloc hown.row _) _) ⟨wm.heap.size + 1, 0, none⟩ 1 1 [hd2 wm.heap.size] rfl rfl (cell_two_new _ _ _ _) (fun X1 hx => by simp at hx; subst hx; rfl) (by unfold maxLen; omega) (by omega) (by simp; omega) ?_; intro v' w3 hown' hgrow3 _; have hO3 := hown.step hbase eXk eYk hown' hgrow3; have hB3 := ((hB.alloc hbase (.cells #[.int .i64 X1, .int .i64 Y1] 3)).alloc (by simp; omega) (.cells #[hd2 wm.heap.size] 23)).grown hgrow3 (by simp; omega) (fun q hq => (World.ownsRow.lt hown.row q hq).1); obtain ⟨sa, sc, rfl⟩ := hO3.shape; clear hown hown' hgrow3)
              go_step3
              exact ⟨rfl, JL_mk (kk := 0 + 1) (xx := X1) (yy := Y1 + sy) (ee := (ax - ay) + ax) (o := .slice sa (0 + 1) sc) rfl (by omega) NX.out.symm NY.out.symm (by rw [NE.out]; omega) hO3 hB3⟩
            · rw [if_neg c1, if_neg c2] at ne1
              rw [if_neg c1] at nx1
              rw [if_neg c2] at ny1
              have NX : Hid (lnX X1 Y1 x2 y2 (0 + 1) = X1) := nx1
              have NY : Hid (lnY X1 Y1 x2 y2 (0 + 1) = Y1) := ny1
              have NE : Hid ((pt ax ay (0 + 1)).2.2 = (ax - ay) + 0 + 0) := ne1
              clear nx1 ny1 ne1
              go_wp2_with (at_builtin; refine wpList_append_own _ rfl _ _ 72 rfl w.heap.size 23 i0 (.slice none 0 0) 1 24 Try.underlying72 hi hz0 hz1 hz2 rfl (by decide) _ _ _ rfl (World.ownsRow.alloc (World.ownsRow.alloc hown.row _) _) ⟨wm.heap.size + 1, 0, none⟩ 1 1 [hd2 wm.heap.size] rfl rfl (cell_two_new _ _ _ _) (fun X1 hx => by simp at hx; subst hx; rfl) (by unfold maxLen; omega) (by omega) (by simp; omega) ?_; intro v' w3 hown' hgrow3 _; have hO3 := hown.step hbase eXk eYk hown' hgrow3; have hB3 := ((hB.alloc hbase (.cells #[.int .i64 X1, .int .i64 Y1] 3)).alloc (by simp; omega) (.cells #[hd2 wm.heap.size] 23)).grown hgrow3 (by simp; omega) (fun q hq => (World.ownsRow.lt hown.row q hq).1); obtain ⟨sa, sc, rfl⟩ := hO3.shape; clear hown hown' hgrow3)
              go_step3
              exact ⟨rfl, JL_mk (kk := 0 + 1) (xx := X1) (yy := Y1) (ee := (ax - ay)) (o := .slice sa (0 + 1) sc) rfl (by omega) NX.out.symm NY.out.symm (by rw [NE.out]; omega) hO3 hB3⟩
      · have hke : 0 = n := by omega
        subst hke
        obtain ⟨kx0, ky0⟩ := R.fin rfl
        have eXk := R.ex.symm
        have eYk := R.ey.symm
        have bx := R.bx
        clear R
        have kx : (X1 == x2) = true := by simpa using kx0
        have ky : (Y1 == y2) = true := by simpa using ky0
        clear kx0 ky0
        go_wp2_with (at_builtin; refine wpList_append_own _ rfl _ _ 72 rfl w.heap.size 23 i0 (.slice none 0 0) 1 24 Try.underlying72 hi hz0 hz1 hz2 rfl (by decide) _ _ _ rfl (World.ownsRow.alloc (World.ownsRow.alloc hown.row _) _) ⟨wm.heap.size + 1, 0, none⟩ 1 1 [hd2 wm.heap.size] rfl rfl (cell_two_new _ _ _ _) (fun X1 hx => by simp at hx; subst hx; rfl) (by unfold maxLen; omega) (by omega) (by simp; omega) ?_; intro v' w3 hown' hgrow3 _; have hO3 := hown.step hbase eXk eYk hown' hgrow3; have hB3 := ((hB.alloc hbase (.cells #[.int .i64 X1, .int .i64 Y1] 3)).alloc (by simp; omega) (.cells #[hd2 wm.heap.size] 23)).grown hgrow3 (by simp; omega) (fun q hq => (World.ownsRow.lt hown.row q hq).1); obtain ⟨sa, sc, rfl⟩ := hO3.shape; clear hown hown' hgrow3)
        simp only [Exit.jump]
        go_ret
        exact ⟨ansPc_own hO3 (Nat.le_refl _), hB3⟩
    · have hrun' := hrun
      rw [show ((n + 1 : Nat) : Int) = ax + 1 by omega] at hrun'
      clear hrun hnm
      have hown : OwnP wm w.heap.size (.slice (some ⟨w.heap.size, 0, none⟩) 0 (n + 1)) 0 (fun _ => 0) (lnX X1 Y1 x2 y2) (lnY X1 Y1 x2 y2) := ⟨hownm, fun _ hi => absurd hi (Nat.not_lt_zero _), fun _ _ hi => absurd hi (Nat.not_lt_zero _)⟩
      have R := HR.out 0 (Nat.zero_le _)
      rw [z1, z2, e0] at R
      have hB := hBm
      have hbase : w.heap.size ≤ wm.heap.size := hB.size
      go_wp2_with fail
      go_step3
      clear hrun' z1 z2 e0 HR hownm hBm hmx
      by_cases hlt : 0 < n
      · have hno := R.more hlt
        obtain ⟨nx1, ny1, ne1⟩ := R.next hlt
        have bx := R.bx
        have by' := R.byy
        have be := R.be
        have eXk := R.ex.symm
        have eYk := R.ey.symm
        clear R
        by_cases hx2 : X1 = x2
        · have hy2 : ¬ Y1 = y2 := fun h => hno ⟨hx2, h⟩
          have kx : (X1 == x2) = true := by simpa using hx2
          have ky : (Y1 == y2) = false := by simpa using hy2
          clear hx2 hy2 hno
          by_cases c1 : -ay < 2 * (ax - ay)
          · by_cases c2 : 2 * (ax - ay) < ax
            · rw [if_pos c1, if_pos c2] at ne1
              rw [if_pos c1] at nx1
              rw [if_pos c2] at ny1
              have NX : Hid (lnX X1 Y1 x2 y2 (0 + 1) = X1 + sx) := nx1
              have NY : Hid (lnY X1 Y1 x2 y2 (0 + 1) = Y1 + sy) := ny1
              have NE : Hid ((pt ax ay (0 + 1)).2.2 = (ax - ay) + -ay + ax) := ne1
              clear nx1 ny1 ne1
              go_wp2_with (at_builtin; refine wpList_append_own _ rfl _ _ 72 rfl w.heap.size 23 i0 (.slice none 0 0) 1 24 Try.underlying72 hi hz0 hz1 hz2 rfl (by decide) _ _ _ rfl (World.ownsRow.alloc (World.ownsRow.alloc hown.row _) _) ⟨wm.heap.size + 1, 0, none⟩ 1 1 [hd2 wm.heap.size] rfl rfl (cell_two_new _ _ _ _) (fun X1 hx => by simp at hx; subst hx; rfl) (by unfold maxLen; omega) (by omega) (by simp; omega) ?_; intro v' w3 hown' hgrow3 _; have hO3 := hown.step hbase eXk eYk hown' hgrow3; have hB3 := ((hB.alloc hbase (.cells #[.int .i64 X1, .int .i64 Y1] 3)).alloc (by simp; omega) (.cells #[hd2 wm.heap.size] 23)).grown hgrow3 (by simp; omega) (fun q hq => (World.ownsRow.lt hown.row q hq).1); obtain ⟨sa, sc, rfl⟩ := hO3.shape; clear hown hown' hgrow3)
              go_step3
              exact ⟨rfl, JL_mk (kk := 0 + 1) (xx := X1 + sx) (yy := Y1 + sy) (ee := (ax - ay) - ay + ax) (o := .slice sa (0 + 1) sc) rfl (by omega) NX.out.symm NY.out.symm (by rw [NE.out]; omega) hO3 hB3⟩
            · rw [if_pos c1, if_neg c2] at ne1
              rw [if_pos c1] at nx1
              rw [if_neg c2] at ny1
              have NX : Hid (lnX X1 Y1 x2 y2 (0 + 1) = X1 + sx) := nx1
              have NY : Hid (lnY X1 Y1 x2 y2 (0 + 1) = Y1) := ny1
              have NE : Hid ((pt ax ay (0 + 1)).2.2 = (ax - ay) + -ay + 0) := ne1
              clear nx1 ny1 ne1
              go_wp2_with (at_builtin; refine wpList_append_own _ rfl _ _ 72 rfl w.heap.size 23 i0 (.slice none 0 0) 1 24 Try.underlying72 hi hz0 hz1 hz2 rfl (by decide) _ _ _ rfl (World.ownsRow.alloc (World.ownsRow.alloc hown.row _) _) ⟨wm.heap.size + 1, 0, none⟩ 1 1 [hd2 wm.heap.size] rfl rfl (cell_two_new _ _ _ _) (fun X1 hx => by simp at hx; subst hx; rfl) (by unfold maxLen; omega) (by omega) (by simp; omega) ?_; intro v' w3 hown' hgrow3 _; have hO3 := hown.step hbase eXk eYk hown' hgrow3; have hB3 := ((hB.alloc hbase (.cells #[.int .i64 X1, .int .i64 Y1] 3)).alloc (by simp; omega) (.cells #[hd2 wm.heap.size] 23)).grown hgrow3 (by simp; omega) (fun q hq => (World.ownsRow.lt hown.row q hq).1); obtain ⟨sa, sc, rfl⟩ := hO3.shape; clear hown hown' hgrow3)
              go_step3
              exact ⟨rfl, JL_mk (kk := 0 + 1) (xx := X1 + sx) (yy := Y1) (ee := (ax - ay) - ay) (o := .slice sa (0 + 1) sc) rfl (by omega) NX.out.symm NY.out.symm (by rw [NE.out]; omega) hO3 hB3⟩
          · by_cases c2 : 2 * (ax - ay) < ax
            · rw [if_neg c1, if_pos c2] at ne1
              rw [if_neg c1] at nx1
              rw [if_pos c2] at ny1
              have NX : Hid (lnX X1 Y1 x2 y2 (0 + 1) = X1) := nx1
              have NY : Hid (lnY X1 Y1 x2 y2 (0 + 1) = Y1 + sy) := ny1
              have NE : Hid ((pt ax ay (0 + 1)).2.2 = (ax - ay) + 0 + ax) := ne1
              clear nx1 ny1 ne1
              go_wp2_with (at_builtin; refine wpList_append_own _ rfl _ _ 72 rfl w.heap.size 23 i0 (.slice none 0 0) 1 24 Try.underlying72 hi hz0 hz1 hz2 rfl (by decide) _ _ _ rfl (World.ownsRow.alloc (World.ownsRow.alloc hown.row _) _) ⟨wm.heap.size + 1, 0, none⟩ 1 1 [hd2 wm.heap.size] rfl rfl (cell_two_new _ _ _ _) (fun X1 hx => by simp at hx; subst hx; rfl) (by unfold maxLen; omega) (by omega) (by simp; omega) ?_; intro v' w3 hown' hgrow3 _; have hO3 := hown.step hbase eXk eYk hown' hgrow3; have hB3 := ((hB.alloc hbase (.cells #[.int .i64 X1, .int .i64 Y1] 3)).alloc (by simp; omega) (.cells #[hd2 wm.heap.size] 23)).grown hgrow3 (by simp; omega) (fun q hq => (World.ownsRow.lt hown.row q hq).1); obtain ⟨sa, sc, rfl⟩ := hO3.shape; clear hown hown' hgrow3)
              go_step3
              exact ⟨rfl, JL_mk (kk := 0 + 1) (xx := X1) (yy := Y1 + sy) (ee := (ax - ay) + ax) (o := .slice sa (0 + 1) sc) rfl (by omega) NX.out.symm NY.out.symm (by rw [NE.out]; omega) hO3 hB3⟩
            · rw [if_neg c1, if_neg c2] at ne1
              rw [if_neg c1] at nx1
              rw [if_neg c2] at ny1
              have NX : Hid (lnX X1 Y1 x2 y2 (0 + 1) = X1) := nx1
              have NY : Hid (lnY X1 Y1 x2 y2 (0 + 1) = Y1) := ny1
              have NE : Hid ((pt ax ay (0 + 1)).2.2 = (ax - ay) + 0 + 0) := ne1
              clear nx1 ny1 ne1
              go_wp2_with (at_builtin; refine wpList_append_own _ rfl _ _ 72 rfl w.heap.size 23 i0 (.slice none 0 0) 1 24 Try.underlying72 hi hz0 hz1 hz2 rfl (by decide) _ _ _ rfl (World.ownsRow.alloc (World.ownsRow.alloc hown.row _) _) ⟨wm.heap.size + 1, 0, none⟩ 1 1 [hd2 wm.heap.size] rfl rfl (cell_two_new _ _ _ _) (fun X1 hx => by simp at hx; subst hx; rfl) (by unfold maxLen; omega) (by omega) (by simp; omega) ?_; intro v' w3 hown' hgrow3 _; have hO3 := hown.step hbase eXk eYk hown' hgrow3; have hB3 := ((hB.alloc hbase (.cells #[.int .i64 X1, .int .i64 Y1] 3)).alloc (by simp; omega) (.cells #[hd2 wm.heap.size] 23)).grown hgrow3 (by simp; omega) (fun q hq => (World.ownsRow.lt hown.row q hq).1); obtain ⟨sa, sc, rfl⟩ := hO3.shape; clear hown hown' hgrow3)
              go_step3
              exact ⟨rfl, JL_mk (kk := 0 + 1) (xx := X1) (yy := Y1) (ee := (ax - ay)) (o := .slice sa (0 + 1) sc) rfl (by omega) NX.out.symm NY.out.symm (by rw [NE.out]; omega) hO3 hB3⟩
        · have kx : (X1 == x2) = false := by simpa using hx2
          clear hx2 hno
          by_cases c1 : -ay < 2 * (ax - ay)
          · by_cases c2 : 2 * (ax - ay) < ax
            · rw [if_pos c1, if_pos c2] at ne1
              rw [if_pos c1] at nx1
              rw [if_pos c2] at ny1
              have NX : Hid (lnX X1 Y1 x2 y2 (0 + 1) = X1 + sx) := nx1
              have NY : Hid (lnY X1 Y1 x2 y2 (0 + 1) = Y1 + sy) := ny1
              have NE : Hid ((pt ax ay (0 + 1)).2.2 = (ax - ay) + -ay + ax) := ne1
              clear nx1 ny1 ne1
              go_wp2_with (at_builtin; refine wpList_append_own _ rfl _ _ 72 rfl w.heap.size 23 i0 (.slice none 0 0) 1 24 Try.underlying72 hi hz0 hz1 hz2 rfl (by decide) _ _ _ rfl (World.ownsRow.alloc (World.ownsRow.alloc hown.row _) _) ⟨wm.heap.size + 1, 0, none⟩ 1 1 [hd2 wm.heap.size] rfl rfl (cell_two_new _ _ _ _) (fun X1 hx => by simp at hx; subst hx; rfl) (by unfold maxLen; omega) (by omega) (by simp; omega) ?_; intro v' w3 hown' hgrow3 _; have hO3 := hown.step hbase eXk eYk hown' hgrow3; have hB3 := ((hB.alloc hbase (.cells #[.int .i64 X1, .int .i64 Y1] 3)).alloc (by simp; omega) (.cells #[hd2 wm.heap.size] 23)).grown hgrow3 (by simp; omega) (fun q hq => (World.ownsRow.lt hown.row q hq).1); obtain ⟨sa, sc, rfl⟩ := hO3.shape; clear hown hown' hgrow3)
              go_step3
              exact ⟨rfl, JL_mk (kk := 0 + 1) (xx := X1 + sx) (yy := Y1 + sy) (ee := (ax - ay) - ay + ax) (o := .slice sa (0 + 1) sc) rfl (by omega) NX.out.symm NY.out.symm (by rw [NE.out]; omega) hO3 hB3⟩
            · rw [if_pos c1, if_neg c2] at ne1
              rw [if_pos c1] at nx1
              rw [if_neg c2] at ny1
              have NX : Hid (lnX X1 Y1 x2 y2 (0 + 1) = X1 + sx) := nx1
              have NY : Hid (lnY X1 Y1 x2 y2 (0 + 1) = Y1) := ny1
              have NE : Hid ((pt ax ay (0 + 1)).2.2 = (ax - ay) + -ay + 0) := ne1
              clear nx1 ny1 ne1
              go_wp2_with (at_builtin; refine wpList_append_own _ rfl _ _ 72 rfl w.heap.size 23 i0 (.slice none 0 0) 1 24 Try.underlying72 hi hz0 hz1 hz2 rfl (by decide) _ _ _ rfl (World.ownsRow.alloc (World.ownsRow.alloc hown.row _) _) ⟨wm.heap.size + 1, 0, none⟩ 1 1 [hd2 wm.heap.size] rfl rfl (cell_two_new _ _ _ _) (fun X1 hx => by simp at hx; subst hx; rfl) (by unfold maxLen; omega) (by omega) (by simp; omega) ?_; intro v' w3 hown' hgrow3 _; have hO3 := hown.step hbase eXk eYk hown' hgrow3; have hB3 := ((hB.alloc hbase (.cells #[.int .i64 X1, .int .i64 Y1] 3)).alloc (by simp; omega) (.cells #[hd2 wm.heap.size] 23)).grown hgrow3 (by simp; omega) (fun q hq => (World.ownsRow.lt hown.row q hq).1); obtain ⟨sa, sc, rfl⟩ := hO3.shape; clear hown hown' hgrow3)
              go_step3
              exact ⟨rfl, JL_mk (kk := 0 + 1) (xx := X1 + sx) (yy := Y1) (ee := (ax - ay) - ay) (o := .slice sa (0 + 1) sc) rfl (by omega) NX.out.symm NY.out.symm (by rw [NE.out]; omega) hO3 hB3⟩
          · by_cases c2 : 2 * (ax - ay) < ax
            · rw [if_neg c1, if_pos c2] at ne1
              rw [if_neg c1] at nx1
              rw [if_pos c2] at ny1
              have NX : Hid (lnX X1 Y1 x2 y2 (0 + 1) = X1) := nx1
              have NY : Hid (lnY X1 Y1 x2 y2 (0 + 1) = Y1 + sy) := ny1
              have NE : Hid ((pt ax ay (0 + 1)).2.2 = (ax - ay) + 0 + ax) := ne1
              clear nx1 ny1 ne1
              go_wp2_with (at_builtin; refine wpList_append_own _ rfl _ _ 72 rfl w.heap.size 23 i0 (.slice none 0 0) 1 24 Try.underlying72 hi hz0 hz1 hz2 rfl (by decide) _ _ _ rfl (World.ownsRow.alloc (World.ownsRow.alloc hown.row _) _) ⟨wm.heap.size + 1, 0, none⟩ 1 1 [hd2 wm.heap.size] rfl rfl (cell_two_new _ _ _ _) (fun X1 hx => by simp at hx; subst hx; rfl) (by unfold maxLen; omega) (by omega) (by simp; omega) ?_; intro v' w3 hown' hgrow3 _; have hO3 := hown.step hbase eXk eYk hown' hgrow3; have hB3 := ((hB.alloc hbase (.cells #[.int .i64 X1, .int .i64 Y1] 3)).alloc (by simp; omega) (.cells #[hd2 wm.heap.size] 23)).grown hgrow3 (by simp; omega) (fun q hq => (World.ownsRow.lt hown.row q hq).1); obtain ⟨sa, sc, rfl⟩ := hO3.shape; clear hown hown' hgrow3)
              go_step3
              exact ⟨rfl, JL_mk (kk := 0 + 1) (xx := X1) (yy := Y1 + sy) (ee := (ax - ay) + ax) (o := .slice sa (0 + 1) sc) rfl (by omega) NX.out.symm NY.out.symm (by rw [NE.out]; omega) hO3 hB3⟩
            · rw [if_neg c1, if_neg c2] at ne1
              rw [if_neg c1] at nx1
              rw [if_neg c2] at ny1
              have NX : Hid (lnX X1 Y1 x2 y2 (0 + 1) = X1) := nx1
              have NY : Hid (lnY X1 Y1 x2 y2 (0 + 1) = Y1) := ny1
              have NE : Hid ((pt ax ay (0 + 1)).2.2 = (ax - ay) + 0 + 0) := ne1
              clear nx1 ny1 ne1
              go_wp2_with (at_builtin; refine wpList_append_own _ rfl _ _ 72 rfl w.heap.size 23 i0 (.slice none 0 0) 1 24 Try.underlying72 hi hz0 hz1 hz2 rfl (by decide) _ _ _ rfl (World.ownsRow.alloc (World.ownsRow.alloc hown.row _) _) ⟨wm.heap.size + 1, 0, none⟩ 1 1 [hd2 wm.heap.size] rfl rfl (cell_two_new _ _ _ _) (fun X1 hx => by simp at hx; subst hx; rfl) (by unfold maxLen; omega) (by omega) (by simp; omega) ?_; intro v' w3 hown' hgrow3 _; have hO3 := hown.step hbase eXk eYk hown' hgrow3; have hB3 := ((hB.alloc hbase (.cells #[.int .i64 X1, .int .i64 Y1] 3)).alloc (by simp; omega) (.cells #[hd2 wm.heap.size] 23)).grown hgrow3 (by simp; omega) (fun q hq => (World.ownsRow.lt hown.row q hq).1); obtain ⟨sa, sc, rfl⟩ := hO3.shape; clear hown hown' hgrow3)
              go_step3
              exact ⟨rfl, JL_mk (kk := 0 + 1) (xx := X1) (yy := Y1) (ee := (ax - ay)) (o := .slice sa (0 + 1) sc) rfl (by omega) NX.out.symm NY.out.symm (by rw [NE.out]; omega) hO3 hB3⟩
      · have hke : 0 = n := by omega
        subst hke
        obtain ⟨kx0, ky0⟩ := R.fin rfl
        have eXk := R.ex.symm
        have eYk := R.ey.symm
        have bx := R.bx
        clear R
        have kx : (X1 == x2) = true := by simpa using kx0
        have ky : (Y1 == y2) = true := by simpa using ky0
        clear kx0 ky0
        go_wp2_with (at_builtin; refine wpList_append_own _ rfl _ _ 72 rfl w.heap.size 23 i0 (.slice none 0 0) 1 24 Try.underlying72 hi hz0 hz1 hz2 rfl (by decide) _ _ _ rfl (World.ownsRow.alloc (World.ownsRow.alloc hown.row _) _) ⟨wm.heap.size + 1, 0, none⟩ 1 1 [hd2 wm.heap.size] rfl rfl (cell_two_new _ _ _ _) (fun X1 hx => by simp at hx; subst hx; rfl) (by unfold maxLen; omega) (by omega) (by simp; omega) ?_; intro v' w3 hown' hgrow3 _; have hO3 := hown.step hbase eXk eYk hown' hgrow3; have hB3 := ((hB.alloc hbase (.cells #[.int .i64 X1, .int .i64 Y1] 3)).alloc (by simp; omega) (.cells #[hd2 wm.heap.size] 23)).grown hgrow3 (by simp; omega) (fun q hq => (World.ownsRow.lt hown.row q hq).1); obtain ⟨sa, sc, rfl⟩ := hO3.shape; clear hown hown' hgrow3)
        simp only [Exit.jump]
        go_ret
        exact ⟨ansPc_own hO3 (Nat.le_refl _), hB3⟩
  · clear a1 a2 h1 h2 h3 h4 hrun hownm hBm hnm z1 z2 e0
    rintro a' wr ⟨u, k, x, y, e, o, B, rfl, hk, ecx, ecy, ece, hown, hB⟩
    have R := HR.out k hk
    rw [← ecx, ← ecy, ← ece] at R
    obtain ⟨sa0, sc0, rfl⟩ := hown.shape
    have hbase : w.heap.size ≤ wr.heap.size := hB.size
    unfold frm
    clear ecx ecy ece HR
    by_cases hlt : k < n
    · have hno := R.more hlt
      obtain ⟨nx1, ny1, ne1⟩ := R.next hlt
      have bx := R.bx
      have by' := R.byy
      have be := R.be
      have eXk := R.ex.symm
      have eYk := R.ey.symm
      clear R
      by_cases hx2 : x = x2
      · have hy2 : ¬ y = y2 := fun h => hno ⟨hx2, h⟩
        have kx : (x == x2) = true := by simpa using hx2
        have ky : (y == y2) = false := by simpa using hy2
        clear hx2 hy2 hno
        by_cases c1 : -ay < 2 * e
        · by_cases c2 : 2 * e < ax
          · rw [if_pos c1, if_pos c2] at ne1
            rw [if_pos c1] at nx1
            rw [if_pos c2] at ny1
            have NX : Hid (lnX X1 Y1 x2 y2 (k + 1) = x + sx) := nx1
            have NY : Hid (lnY X1 Y1 x2 y2 (k + 1) = y + sy) := ny1
            have NE : Hid ((pt ax ay (k + 1)).2.2 = e + -ay + ax) := ne1
            clear nx1 ny1 ne1
            go_wp2_with (at_builtin; refine wpList_append_own _ rfl _ _ 72 rfl w.heap.size 23 i0 (.slice none 0 0) 1 24 Try.underlying72 hi hz0 hz1 hz2 rfl (by decide) _ _ _ rfl (World.ownsRow.alloc (World.ownsRow.alloc hown.row _) _) ⟨wr.heap.size + 1, 0, none⟩ 1 1 [hd2 wr.heap.size] rfl rfl (cell_two_new _ _ _ _) (fun x hx => by simp at hx; subst hx; rfl) (by unfold maxLen; omega) (by omega) (by simp; omega) ?_; intro v' w3 hown' hgrow3 _; have hO3 := hown.step hbase eXk eYk hown' hgrow3; have hB3 := ((hB.alloc hbase (.cells #[.int .i64 x, .int .i64 y] 3)).alloc (by simp; omega) (.cells #[hd2 wr.heap.size] 23)).grown hgrow3 (by simp; omega) (fun q hq => (World.ownsRow.lt hown.row q hq).1); obtain ⟨sa, sc, rfl⟩ := hO3.shape; clear hown hown' hgrow3)
            go_step3
            exact ⟨rfl, JL_mk (kk := k + 1) (xx := x + sx) (yy := y + sy) (ee := e - ay + ax) (o := .slice sa (k + 1) sc) rfl (by omega) NX.out.symm NY.out.symm (by rw [NE.out]; omega) hO3 hB3, by simp [lenOf]; omega⟩
          · rw [if_pos c1, if_neg c2] at ne1
            rw [if_pos c1] at nx1
            rw [if_neg c2] at ny1
            have NX : Hid (lnX X1 Y1 x2 y2 (k + 1) = x + sx) := nx1
            have NY : Hid (lnY X1 Y1 x2 y2 (k + 1) = y) := ny1
            have NE : Hid ((pt ax ay (k + 1)).2.2 = e + -ay + 0) := ne1
            clear nx1 ny1 ne1
            go_wp2_with (at_builtin; refine wpList_append_own _ rfl _ _ 72 rfl w.heap.size 23 i0 (.slice none 0 0) 1 24 Try.underlying72 hi hz0 hz1 hz2 rfl (by decide) _ _ _ rfl (World.ownsRow.alloc (World.ownsRow.alloc hown.row _) _) ⟨wr.heap.size + 1, 0, none⟩ 1 1 [hd2 wr.heap.size] rfl rfl (cell_two_new _ _ _ _) (fun x hx => by simp at hx; subst hx; rfl) (by unfold maxLen; omega) (by omega) (by simp; omega) ?_; intro v' w3 hown' hgrow3 _; have hO3 := hown.step hbase eXk eYk hown' hgrow3; have hB3 := ((hB.alloc hbase (.cells #[.int .i64 x, .int .i64 y] 3)).alloc (by simp; omega) (.cells #[hd2 wr.heap.size] 23)).grown hgrow3 (by simp; omega) (fun q hq => (World.ownsRow.lt hown.row q hq).1); obtain ⟨sa, sc, rfl⟩ := hO3.shape; clear hown hown' hgrow3)
            go_step3
            exact ⟨rfl, JL_mk (kk := k + 1) (xx := x + sx) (yy := y) (ee := e - ay) (o := .slice sa (k + 1) sc) rfl (by omega) NX.out.symm NY.out.symm (by rw [NE.out]; omega) hO3 hB3, by simp [lenOf]; omega⟩
        · by_cases c2 : 2 * e < ax
          · rw [if_neg c1, if_pos c2] at ne1
            rw [if_neg c1] at nx1
            rw [if_pos c2] at ny1
            have NX : Hid (lnX X1 Y1 x2 y2 (k + 1) = x) := nx1
            have NY : Hid (lnY X1 Y1 x2 y2 (k + 1) = y + sy) := ny1
            have NE : Hid ((pt ax ay (k + 1)).2.2 = e + 0 + ax) := ne1
            clear nx1 ny1 ne1
            go_wp2_with (at_builtin; refine wpList_append_own _ rfl _ _ 72 rfl w.heap.size 23 i0 (.slice none 0 0) 1 24 Try.underlying72 hi hz0 hz1 hz2 rfl (by decide) _ _ _ rfl (World.ownsRow.alloc (World.ownsRow.alloc hown.row _) _) ⟨wr.heap.size + 1, 0, none⟩ 1 1 [hd2 wr.heap.size] rfl rfl (cell_two_new _ _ _ _) (fun x hx => by simp at hx; subst hx; rfl) (by unfold maxLen; omega) (by omega) (by simp; omega) ?_; intro v' w3 hown' hgrow3 _; have hO3 := hown.step hbase eXk eYk hown' hgrow3; have hB3 := ((hB.alloc hbase (.cells #[.int .i64 x, .int .i64 y] 3)).alloc (by simp; omega) (.cells #[hd2 wr.heap.size] 23)).grown hgrow3 (by simp; omega) (fun q hq => (World.ownsRow.lt hown.row q hq).1); obtain ⟨sa, sc, rfl⟩ := hO3.shape; clear hown hown' hgrow3)
            go_step3
            exact ⟨rfl, JL_mk (kk := k + 1) (xx := x) (yy := y + sy) (ee := e + ax) (o := .slice sa (k + 1) sc) rfl (by omega) NX.out.symm NY.out.symm (by rw [NE.out]; omega) hO3 hB3, by simp [lenOf]; omega⟩
          · rw [if_neg c1, if_neg c2] at ne1
            rw [if_neg c1] at nx1
            rw [if_neg c2] at ny1
            have NX : Hid (lnX X1 Y1 x2 y2 (k + 1) = x) := nx1
            have NY : Hid (lnY X1 Y1 x2 y2 (k + 1) = y) := ny1
            have NE : Hid ((pt ax ay (k + 1)).2.2 = e + 0 + 0) := ne1
            clear nx1 ny1 ne1
            go_wp2_with (at_builtin; refine wpList_append_own _ rfl _ _ 72 rfl w.heap.size 23 i0 (.slice none 0 0) 1 24 Try.underlying72 hi hz0 hz1 hz2 rfl (by decide) _ _ _ rfl (World.ownsRow.alloc (World.ownsRow.alloc hown.row _) _) ⟨wr.heap.size + 1, 0, none⟩ 1 1 [hd2 wr.heap.size] rfl rfl (cell_two_new _ _ _ _) (fun x hx => by simp at hx; subst hx; rfl) (by unfold maxLen; omega) (by omega) (by simp; omega) ?_; intro v' w3 hown' hgrow3 _; have hO3 := hown.step hbase eXk eYk hown' hgrow3; have hB3 := ((hB.alloc hbase (.cells #[.int .i64 x, .int .i64 y] 3)).alloc (by simp; omega) (.cells #[hd2 wr.heap.size] 23)).grown hgrow3 (by simp; omega) (fun q hq => (World.ownsRow.lt hown.row q hq).1); obtain ⟨sa, sc, rfl⟩ := hO3.shape; clear hown hown' hgrow3)
            go_step3
            exact ⟨rfl, JL_mk (kk := k + 1) (xx := x) (yy := y) (ee := e) (o := .slice sa (k + 1) sc) rfl (by omega) NX.out.symm NY.out.symm (by rw [NE.out]; omega) hO3 hB3, by simp [lenOf]; omega⟩
      · have kx : (x == x2) = false := by simpa using hx2
        clear hx2 hno
        by_cases c1 : -ay < 2 * e
        · by_cases c2 : 2 * e < ax
          · rw [if_pos c1, if_pos c2] at ne1
            rw [if_pos c1] at nx1
            rw [if_pos c2] at ny1
            have NX : Hid (lnX X1 Y1 x2 y2 (k + 1) = x + sx) := nx1
            have NY : Hid (lnY X1 Y1 x2 y2 (k + 1) = y + sy) := ny1
            have NE : Hid ((pt ax ay (k + 1)).2.2 = e + -ay + ax) := ne1
            clear nx1 ny1 ne1
            go_wp2_with (at_builtin; refine wpList_append_own _ rfl _ _ 72 rfl w.heap.size 23 i0 (.slice none 0 0) 1 24 Try.underlying72 hi hz0 hz1 hz2 rfl (by decide) _ _ _ rfl (World.ownsRow.alloc (World.ownsRow.alloc hown.row _) _) ⟨wr.heap.size + 1, 0, none⟩ 1 1 [hd2 wr.heap.size] rfl rfl (cell_two_new _ _ _ _) (fun x hx => by simp at hx; subst hx; rfl) (by unfold maxLen; omega) (by omega) (by simp; omega) ?_; intro v' w3 hown' hgrow3 _; have hO3 := hown.step hbase eXk eYk hown' hgrow3; have hB3 := ((hB.alloc hbase (.cells #[.int .i64 x, .int .i64 y] 3)).alloc (by simp; omega) (.cells #[hd2 wr.heap.size] 23)).grown hgrow3 (by simp; omega) (fun q hq => (World.ownsRow.lt hown.row q hq).1); obtain ⟨sa, sc, rfl⟩ := hO3.shape; clear hown hown' hgrow3)
            go_step3
            exact ⟨rfl, JL_mk (kk := k + 1) (xx := x + sx) (yy := y + sy) (ee := e - ay + ax) (o := .slice sa (k + 1) sc) rfl (by omega) NX.out.symm NY.out.symm (by rw [NE.out]; omega) hO3 hB3, by simp [lenOf]; omega⟩
          · rw [if_pos c1, if_neg c2] at ne1
            rw [if_pos c1] at nx1
            rw [if_neg c2] at ny1
            have NX : Hid (lnX X1 Y1 x2 y2 (k + 1) = x + sx) := nx1
            have NY : Hid (lnY X1 Y1 x2 y2 (k + 1) = y) := ny1
            have NE : Hid ((pt ax ay (k + 1)).2.2 = e + -ay + 0) := ne1
            clear nx1 ny1 ne1
            go_wp2_with (at_builtin; refine wpList_append_own _ rfl _ _ 72 rfl w.heap.size 23 i0 (.slice none 0 0) 1 24 Try.underlying72 hi hz0 hz1 hz2 rfl (by decide) _ _ _ rfl (World.ownsRow.alloc (World.ownsRow.alloc hown.row _) _) ⟨wr.heap.size + 1, 0, none⟩ 1 1 [hd2 wr.heap.size] rfl rfl (cell_two_new _ _ _ _) (fun x hx => by simp at hx; subst hx; rfl) (by unfold maxLen; omega) (by omega) (by simp; omega) ?_; intro v' w3 hown' hgrow3 _; have hO3 := hown.step hbase eXk eYk hown' hgrow3; have hB3 := ((hB.alloc hbase (.cells #[.int .i64 x, .int .i64 y] 3)).alloc (by simp; omega) (.cells #[hd2 wr.heap.size] 23)).grown hgrow3 (by simp; omega) (fun q hq => (World.ownsRow.lt hown.row q hq).1); obtain ⟨sa, sc, rfl⟩ := hO3.shape; clear hown hown' hgrow3)
            go_step3
            exact ⟨rfl, JL_mk (kk := k + 1) (xx := x + sx) (yy := y) (ee := e - ay) (o := .slice sa (k + 1) sc) rfl (by omega) NX.out.symm NY.out.symm (by rw [NE.out]; omega) hO3 hB3, by simp [lenOf]; omega⟩
        · by_cases c2 : 2 * e < ax
          · rw [if_neg c1, if_pos c2] at ne1
            rw [if_neg c1] at nx1
            rw [if_pos c2] at ny1
            have NX : Hid (lnX X1 Y1 x2 y2 (k + 1) = x) := nx1
            have NY : Hid (lnY X1 Y1 x2 y2 (k + 1) = y + sy) := ny1
            have NE : Hid ((pt ax ay (k + 1)).2.2 = e + 0 + ax) := ne1
            clear nx1 ny1 ne1
            go_wp2_with (at_builtin; refine wpList_append_own _ rfl _ _ 72 rfl w.heap.size 23 i0 (.slice none 0 0) 1 24 Try.underlying72 hi hz0 hz1 hz2 rfl (by decide) _ _ _ rfl (World.ownsRow.alloc (World.ownsRow.alloc hown.row _) _) ⟨wr.heap.size + 1, 0, none⟩ 1 1 [hd2 wr.heap.size] rfl rfl (cell_two_new _ _ _ _) (fun x hx => by simp at hx; subst hx; rfl) (by unfold maxLen; omega) (by omega) (by simp; omega) ?_; intro v' w3 hown' hgrow3 _; have hO3 := hown.step hbase eXk eYk hown' hgrow3; have hB3 := ((hB.alloc hbase (.cells #[.int .i64 x, .int .i64 y] 3)).alloc (by simp; omega) (.cells #[hd2 wr.heap.size] 23)).grown hgrow3 (by simp; omega) (fun q hq => (World.ownsRow.lt hown.row q hq).1); obtain ⟨sa, sc, rfl⟩ := hO3.shape; clear hown hown' hgrow3)
            go_step3
            exact ⟨rfl, JL_mk (kk := k + 1) (xx := x) (yy := y + sy) (ee := e + ax) (o := .slice sa (k + 1) sc) rfl (by omega) NX.out.symm NY.out.symm (by rw [NE.out]; omega) hO3 hB3, by simp [lenOf]; omega⟩
          · rw [if_neg c1, if_neg c2] at ne1
            rw [if_neg c1] at nx1
            rw [if_neg c2] at ny1
            have NX : Hid (lnX X1 Y1 x2 y2 (k + 1) = x) := nx1
            have NY : Hid (lnY X1 Y1 x2 y2 (k + 1) = y) := ny1
            have NE : Hid ((pt ax ay (k + 1)).2.2 = e + 0 + 0) := ne1
            clear nx1 ny1 ne1
            go_wp2_with (at_builtin; refine wpList_append_own _ rfl _ _ 72 rfl w.heap.size 23 i0 (.slice none 0 0) 1 24 Try.underlying72 hi hz0 hz1 hz2 rfl (by decide) _ _ _ rfl (World.ownsRow.alloc (World.ownsRow.alloc hown.row _) _) ⟨wr.heap.size + 1, 0, none⟩ 1 1 [hd2 wr.heap.size] rfl rfl (cell_two_new _ _ _ _) (fun x hx => by simp at hx; subst hx; rfl) (by unfold maxLen; omega) (by omega) (by simp; omega) ?_; intro v' w3 hown' hgrow3 _; have hO3 := hown.step hbase eXk eYk hown' hgrow3; have hB3 := ((hB.alloc hbase (.cells #[.int .i64 x, .int .i64 y] 3)).alloc (by simp; omega) (.cells #[hd2 wr.heap.size] 23)).grown hgrow3 (by simp; omega) (fun q hq => (World.ownsRow.lt hown.row q hq).1); obtain ⟨sa, sc, rfl⟩ := hO3.shape; clear hown hown' hgrow3)
            go_step3
            exact ⟨rfl, JL_mk (kk := k + 1) (xx := x) (yy := y) (ee := e) (o := .slice sa (k + 1) sc) rfl (by omega) NX.out.symm NY.out.symm (by rw [NE.out]; omega) hO3 hB3, by simp [lenOf]; omega⟩
    · have hke : k = n := by omega
      subst hke
      obtain ⟨kx0, ky0⟩ := R.fin rfl
      have eXk := R.ex.symm
      have eYk := R.ey.symm
      have bx := R.bx
      clear R
      have kx : (x == x2) = true := by simpa using kx0
      have ky : (y == y2) = true := by simpa using ky0
      clear kx0 ky0
      go_wp2_with (at_builtin; refine wpList_append_own _ rfl _ _ 72 rfl w.heap.size 23 i0 (.slice none 0 0) 1 24 Try.underlying72 hi hz0 hz1 hz2 rfl (by decide) _ _ _ rfl (World.ownsRow.alloc (World.ownsRow.alloc hown.row _) _) ⟨wr.heap.size + 1, 0, none⟩ 1 1 [hd2 wr.heap.size] rfl rfl (cell_two_new _ _ _ _) (fun x hx => by simp at hx; subst hx; rfl) (by unfold maxLen; omega) (by omega) (by simp; omega) ?_; intro v' w3 hown' hgrow3 _; have hO3 := hown.step hbase eXk eYk hown' hgrow3; have hB3 := ((hB.alloc hbase (.cells #[.int .i64 x, .int .i64 y] 3)).alloc (by simp; omega) (.cells #[hd2 wr.heap.size] 23)).grown hgrow3 (by simp; omega) (fun q hq => (World.ownsRow.lt hown.row q hq).1); obtain ⟨sa, sc, rfl⟩ := hO3.shape; clear hown hown' hgrow3)
      simp only [Exit.jump]
      go_ret
      exact ⟨ansPc_own hO3 (Nat.le_refl _), hB3⟩

theorem implLine (x1 y1 x2 y2 : Int) (w : World) :
    Calls Try.prog 34 #[.int .i64 x1, .int .i64 y1, .int .i64 x2, .int .i64 y2] w fun e w' => AnsP w w' e (lnN x1 y1 x2 y2) (lnX x1 y1 x2 y2) (lnY x1 y1 x2 y2) ∧ Below w.heap.size w w' := by
  unfold lnN
  cases h : lnB x1 y1 x2 y2 with
  | false => exact (implLine_no x1 y1 x2 y2 w h).mono fun e w' ⟨h1, h2⟩ => ⟨by rw [h1]; exact ansP_nil _ _ _ _, by rw [h2]; exact Below.refl _ _⟩
  | true => exact (implLine_yes x1 y1 x2 y2 w h).mono fun e w' ⟨h1, h2⟩ => ⟨h1.p, h2⟩
end Go.Proofs.Ytnoaonflphameaa
