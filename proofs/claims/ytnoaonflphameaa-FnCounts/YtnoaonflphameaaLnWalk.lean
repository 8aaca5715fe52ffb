/- A line of cells, as the model walks it. -/
import Derived.Test.YtnoaonflphameaaLnSpec
namespace Go.Proofs.Ytnoaonflphameaa
open Go.RowKit

def lenOf : Value → Nat
  | .slice _ k _ => k
  | _ => 0
theorem cell_two_new (w : World) (o : Obj) (x : Value) (t : TypeId) : ∀ j u, [x][j]? = some u → ((w.alloc o).alloc (.cells #[x] t)).cell? ((⟨w.heap.size + 1, 0, none⟩ : Addr).add j) = some u := by
  have h := cell_one_new (w.alloc o) x t
  rw [size_al] at h
  exact h
theorem lnB_parts {x1 y1 x2 y2 : Int} (h : lnB x1 y1 x2 y2 = true) : inK x1 = true ∧ inK y1 = true ∧ inK x2 = true ∧ inK y2 = true := by
  simpa [lnB, and_assoc] using h
set_option maxHeartbeats 2000000 in
set_option maxRecDepth 20000 in
theorem specLine_no (x1 y1 x2 y2 : Int) (w : World) (h : lnB x1 y1 x2 y2 = false) :
    Calls Try.prog 39 #[.int .i64 x1, .int .i64 y1, .int .i64 x2, .int .i64 y2] w fun e w' => e = .returned (.slice none 0 0) ∧ w' = w := by
  have c1 := l12In_any x1
  have c2 := l12In_any y1
  have c3 := l12In_any x2
  have c4 := l12In_any y2
  unfold lnB at h
  generalize inK x1 = q1 at *
  generalize inK y1 = q2 at *
  generalize inK x2 = q3 at *
  generalize inK y2 = q4 at *
  go_enter Try.func39, Try.ntmps39
  go_wp2_with fail
  refine (c1 _).mono ?_
  rintro e w1 ⟨rfl, hw1⟩
  have hs1 := hw1.symm
  clear hw1
  subst hs1
  cases q1 with
  | false =>
    go_wp2
    go_ret
    exact ⟨rfl, rfl⟩
  | true =>
    go_wp2_with fail
    refine (c2 _).mono ?_
    rintro e w1 ⟨rfl, hw1⟩
    have hs1 := hw1.symm
    clear hw1
    subst hs1
    cases q2 with
    | false =>
      go_wp2
      go_ret
      exact ⟨rfl, rfl⟩
    | true =>
      go_wp2_with fail
      refine (c3 _).mono ?_
      rintro e w1 ⟨rfl, hw1⟩
      have hs1 := hw1.symm
      clear hw1
      subst hs1
      cases q3 with
      | false =>
        go_wp2
        go_ret
        exact ⟨rfl, rfl⟩
      | true =>
        have h4 : q4 = false := by simpa using h
        subst h4
        go_wp2_with fail
        refine (c4 _).mono ?_
        rintro e w1 ⟨rfl, hw1⟩
        have hs1 := hw1.symm
        clear hw1
        subst hs1
        go_wp2
        go_ret
        exact ⟨rfl, rfl⟩

set_option maxHeartbeats 8000000 in
set_option maxRecDepth 20000 in
theorem specLine_yes (X1 Y1 x2 y2 : Int) (w : World) (h : lnB X1 Y1 x2 y2 = true) :
    Calls Try.prog 39 #[.int .i64 X1, .int .i64 Y1, .int .i64 x2, .int .i64 y2] w fun e w' => AnsP w w' e (steps (ab (x2 - X1)) (ab (y2 - Y1)) + 1) (lnX X1 Y1 x2 y2) (lnY X1 Y1 x2 y2) ∧ Below w.heap.size w w' := by
  obtain ⟨i0, hi, hzz⟩ := Option.map_eq_some_iff.1 infoSl
  simp only [Prod.mk.injEq] at hzz
  obtain ⟨hz0, hz1, hz2⟩ := hzz
  obtain ⟨h1, h2, h3, h4⟩ := lnB_parts h
  have b1 := inK_t h1
  have b2 := inK_t h2
  have b3 := inK_t h3
  have b4 := inK_t h4
  have hR := fun k hk => rnd_at h k hk
  have p4 : ab (x2 - X1) ≤ 2000 ∧ 0 ≤ ab (x2 - X1) := by unfold ab; split <;> omega
  have q4 : ab (y2 - Y1) ≤ 2000 ∧ 0 ≤ ab (y2 - Y1) := by unfold ab; split <;> omega
  have hn2 : steps (ab (x2 - X1)) (ab (y2 - Y1)) ≤ 2000 := by unfold steps; omega
  have a1 := l4Abs_any (x2 - X1)
  have a2 := l4Abs_any (y2 - Y1)
  have e0 : pt (ab (x2 - X1)) (ab (y2 - Y1)) 0 = (0, 0, ab (x2 - X1) - ab (y2 - Y1)) := rfl
  have z1 : lnX X1 Y1 x2 y2 0 = X1 := by simp [lnX, e0]
  have z2 : lnY X1 Y1 x2 y2 0 = Y1 := by simp [lnY, e0]
  have sX : sgn1 (x2 - X1) = if x2 < X1 then -1 else 1 := by unfold sgn1; split <;> split <;> omega
  have sY : sgn1 (y2 - Y1) = if y2 < Y1 then -1 else 1 := by unfold sgn1; split <;> split <;> omega
  generalize hax : ab (x2 - X1) = ax at *
  generalize hay : ab (y2 - Y1) = ay at *
  generalize sgn1 (x2 - X1) = sx at *
  generalize sgn1 (y2 - Y1) = sy at *
  generalize hst : steps ax ay = n at *
  clear hax hay h
  go_enter Try.func39, Try.ntmps39
  go_wp2_with fail
  refine (l12In_any X1 _).mono ?_
  rw [h1]
  rintro e w1 ⟨rfl, hw1⟩
  have hs1 := hw1.symm
  clear hw1
  subst hs1
  go_wp2_with fail
  refine (l12In_any Y1 _).mono ?_
  rw [h2]
  rintro e w1 ⟨rfl, hw1⟩
  have hs1 := hw1.symm
  clear hw1
  subst hs1
  go_wp2_with fail
  refine (l12In_any x2 _).mono ?_
  rw [h3]
  rintro e w1 ⟨rfl, hw1⟩
  have hs1 := hw1.symm
  clear hw1
  subst hs1
  go_wp2_with fail
  refine (l12In_any y2 _).mono ?_
  rw [h4]
  rintro e w1 ⟨rfl, hw1⟩
  have hs1 := hw1.symm
  clear hw1
  subst hs1
  go_wp2_with fail
  refine (a1 _ (by omega)).mono ?_
  rintro e w1 ⟨rfl, hw1⟩
  have hs1 := hw1.symm
  clear hw1
  subst hs1
  go_wp2_with fail
  refine (a2 _ (by omega)).mono ?_
  rintro e w1 ⟨rfl, hw1⟩
  have hs1 := hw1.symm
  clear hw1 a1 a2 h1 h2 h3 h4
  subst hs1
  have HR : Hid (∀ k, k ≤ n → Rnd X1 Y1 x2 y2 ax ay sx sy n k (lnX X1 Y1 x2 y2 k) (lnY X1 Y1 x2 y2 k) (pt ax ay k).2.2) := hR
  clear hR
  by_cases hx : x2 < X1
  · rw [if_pos hx] at sX
    subst sX
    by_cases hy : y2 < Y1
    · rw [if_pos hy] at sY
      subst sY
      go_wp2
      go_loopw [0, 1, 13, 14] (fun p q r o wr => ∃ (k : Nat) (x y e : Int) (B : Nat → Nat), k ≤ n ∧ p = .int .i64 x ∧ q = .int .i64 y ∧ r = .int .i64 e ∧ x = lnX X1 Y1 x2 y2 k ∧ y = lnY X1 Y1 x2 y2 k ∧ e = (pt ax ay k).2.2 ∧ OwnP wr w.heap.size o k B (lnX X1 Y1 x2 y2) (lnY X1 Y1 x2 y2) ∧ Below w.heap.size w wr) (fun _ _ _ o _ => n + 1 - lenOf o)
      case atStart => exact ⟨0, X1, Y1, ax - ay, _, Nat.zero_le _, rfl, rfl, rfl, z1.symm, z2.symm, by rw [e0], OwnP.nil _ _ _ _, Below.refl _ _⟩
      case round =>
        obtain ⟨k, x, y, e, B, hk, rfl, rfl, rfl, ecx, ecy, ece, hown, hB⟩ := hrel
        have R := HR.out k hk
        rw [← ecx, ← ecy, ← ece] at R
        obtain ⟨sa0, sc0, rfl⟩ := hown.shape
        have hbase : w.heap.size ≤ wr.heap.size := hB.size
        clear ecx ecy ece e0 z1 z2 HR
        by_cases hlt : k < n
        · have hno := R.more hlt
          obtain ⟨nx1, ny1, ne1⟩ := R.next hlt
          have bx := R.bx
          have by' := R.byy
          have be := R.be
          have eXk := R.ex.symm
          have eYk := R.ey.symm
          clear R
          by_cases hx2 : x = x2
          · have hy2 : ¬ y = y2 := fun h => hno ⟨hx2, h⟩
            have kx : (x == x2) = true := by simpa using hx2
            have ky : (y == y2) = false := by simpa using hy2
            clear hx2 hy2 hno
            by_cases c1 : -ay < 2 * e
            · by_cases c2 : 2 * e < ax
              · rw [if_pos c1, if_pos c2] at ne1
                rw [if_pos c1] at nx1
                rw [if_pos c2] at ny1
                have NX : Hid (lnX X1 Y1 x2 y2 (k + 1) = x + (-1)) := nx1
                have NY : Hid (lnY X1 Y1 x2 y2 (k + 1) = y + (-1)) := ny1
                have NE : Hid ((pt ax ay (k + 1)).2.2 = e + -ay + ax) := ne1
                clear nx1 ny1 ne1
                go_wp2_with (at_builtin; refine wpList_append_own _ rfl _ _ 72 rfl w.heap.size 23 i0 (.slice none 0 0) 1 24 Try.underlying72 hi hz0 hz1 hz2 rfl (by decide) _ _ _ rfl (World.ownsRow.alloc (World.ownsRow.alloc hown.row _) _) ⟨wr.heap.size + 1, 0, none⟩ 1 1 [hd2 wr.heap.size] rfl rfl (cell_two_new _ _ _ _) (fun x hx => by simp at hx; subst hx; rfl) (by unfold maxLen; omega) (by omega) (by simp; omega) ?_; intro v' w3 hown' hgrow3 _; have hO3 := hown.step hbase eXk eYk hown' hgrow3; have hB3 := ((hB.alloc hbase (.cells #[.int .i64 x, .int .i64 y] 3)).alloc (by simp; omega) (.cells #[hd2 wr.heap.size] 23)).grown hgrow3 (by simp; omega) (fun q hq => (World.ownsRow.lt hown.row q hq).1); obtain ⟨sa, sc, rfl⟩ := hO3.shape; clear hown hown' hgrow3)
                exact ⟨⟨k + 1, _, _, _, _, by omega, rfl, rfl, rfl, NX.out.symm, NY.out.symm, by rw [NE.out]; omega, hO3, hB3⟩, by simp [lenOf]; omega⟩
              · rw [if_pos c1, if_neg c2] at ne1
                rw [if_pos c1] at nx1
                rw [if_neg c2] at ny1
                have NX : Hid (lnX X1 Y1 x2 y2 (k + 1) = x + (-1)) := nx1
                have NY : Hid (lnY X1 Y1 x2 y2 (k + 1) = y) := ny1
                have NE : Hid ((pt ax ay (k + 1)).2.2 = e + -ay + 0) := ne1
                clear nx1 ny1 ne1
                go_wp2_with (at_builtin; refine wpList_append_own _ rfl _ _ 72 rfl w.heap.size 23 i0 (.slice none 0 0) 1 24 Try.underlying72 hi hz0 hz1 hz2 rfl (by decide) _ _ _ rfl (World.ownsRow.alloc (World.ownsRow.alloc hown.row _) _) ⟨wr.heap.size + 1, 0, none⟩ 1 1 [hd2 wr.heap.size] rfl rfl (cell_two_new _ _ _ _) (fun x hx => by simp at hx; subst hx; rfl) (by unfold maxLen; omega) (by omega) (by simp; omega) ?_; intro v' w3 hown' hgrow3 _; have hO3 := hown.step hbase eXk eYk hown' hgrow3; have hB3 := ((hB.alloc hbase (.cells #[.int .i64 x, .int .i64 y] 3)).alloc (by simp; omega) (.cells #[hd2 wr.heap.size] 23)).grown hgrow3 (by simp; omega) (fun q hq => (World.ownsRow.lt hown.row q hq).1); obtain ⟨sa, sc, rfl⟩ := hO3.shape; clear hown hown' hgrow3)
                exact ⟨⟨k + 1, _, _, _, _, by omega, rfl, rfl, rfl, NX.out.symm, NY.out.symm, by rw [NE.out]; omega, hO3, hB3⟩, by simp [lenOf]; omega⟩
            · by_cases c2 : 2 * e < ax
              · rw [if_neg c1, if_pos c2] at ne1
                rw [if_neg c1] at nx1
                rw [if_pos c2] at ny1
                have NX : Hid (lnX X1 Y1 x2 y2 (k + 1) = x) := nx1
                have NY : Hid (lnY X1 Y1 x2 y2 (k + 1) = y + (-1)) := ny1
                have NE : Hid ((pt ax ay (k + 1)).2.2 = e + 0 + ax) := ne1
                clear nx1 ny1 ne1
                go_wp2_with (at_builtin; refine wpList_append_own _ rfl _ _ 72 rfl w.heap.size 23 i0 (.slice none 0 0) 1 24 Try.underlying72 hi hz0 hz1 hz2 rfl (by decide) _ _ _ rfl (World.ownsRow.alloc (World.ownsRow.alloc hown.row _) _) ⟨wr.heap.size + 1, 0, none⟩ 1 1 [hd2 wr.heap.size] rfl rfl (cell_two_new _ _ _ _) (fun x hx => by simp at hx; subst hx; rfl) (by unfold maxLen; omega) (by omega) (by simp; omega) ?_; intro v' w3 hown' hgrow3 _; have hO3 := hown.step hbase eXk eYk hown' hgrow3; have hB3 := ((hB.alloc hbase (.cells #[.int .i64 x, .int .i64 y] 3)).alloc (by simp; omega) (.cells #[hd2 wr.heap.size] 23)).grown hgrow3 (by simp; omega) (fun q hq => (World.ownsRow.lt hown.row q hq).1); obtain ⟨sa, sc, rfl⟩ := hO3.shape; clear hown hown' hgrow3)
                exact ⟨⟨k + 1, _, _, _, _, by omega, rfl, rfl, rfl, NX.out.symm, NY.out.symm, by rw [NE.out]; omega, hO3, hB3⟩, by simp [lenOf]; omega⟩
              · rw [if_neg c1, if_neg c2] at ne1
                rw [if_neg c1] at nx1
                rw [if_neg c2] at ny1
                have NX : Hid (lnX X1 Y1 x2 y2 (k + 1) = x) := nx1
                have NY : Hid (lnY X1 Y1 x2 y2 (k + 1) = y) := ny1
                have NE : Hid ((pt ax ay (k + 1)).2.2 = e + 0 + 0) := ne1
                clear nx1 ny1 ne1
                go_wp2_with (at_builtin; refine wpList_append_own _ rfl _ _ 72 rfl w.heap.size 23 i0 (.slice none 0 0) 1 24 Try.underlying72 hi hz0 hz1 hz2 rfl (by decide) _ _ _ rfl (World.ownsRow.alloc (World.ownsRow.alloc hown.row _) _) ⟨wr.heap.size + 1, 0, none⟩ 1 1 [hd2 wr.heap.size] rfl rfl (cell_two_new _ _ _ _) (fun x hx => by simp at hx; subst hx; rfl) (by unfold maxLen; omega) (by omega) (by simp; omega) ?_; intro v' w3 hown' hgrow3 _; have hO3 := hown.step hbase eXk eYk hown' hgrow3; have hB3 := ((hB.alloc hbase (.cells #[.int .i64 x, .int .i64 y] 3)).alloc (by simp; omega) (.cells #[hd2 wr.heap.size] 23)).grown hgrow3 (by simp; omega) (fun q hq => (World.ownsRow.lt hown.row q hq).1); obtain ⟨sa, sc, rfl⟩ := hO3.shape; clear hown hown' hgrow3)
                exact ⟨⟨k + 1, _, _, _, _, by omega, rfl, rfl, rfl, NX.out.symm, NY.out.symm, by rw [NE.out]; omega, hO3, hB3⟩, by simp [lenOf]; omega⟩
          · have kx : (x == x2) = false := by simpa using hx2
            clear hx2 hno
            by_cases c1 : -ay < 2 * e
            · by_cases c2 : 2 * e < ax
              · rw [if_pos c1, if_pos c2] at ne1
                rw [if_pos c1] at nx1
                rw [if_pos c2] at ny1
                have NX : Hid (lnX X1 Y1 x2 y2 (k + 1) = x + (-1)) := nx1
                have NY : Hid (lnY X1 Y1 x2 y2 (k + 1) = y + (-1)) := ny1
                have NE : Hid ((pt ax ay (k + 1)).2.2 = e + -ay + ax) := ne1
                clear nx1 ny1 ne1
                go_wp2_with (at_builtin; refine wpList_append_own _ rfl _ _ 72 rfl w.heap.size 23 i0 (.slice none 0 0) 1 24 Try.underlying72 hi hz0 hz1 hz2 rfl (by decide) _ _ _ rfl (World.ownsRow.alloc (World.ownsRow.alloc hown.row _) _) ⟨wr.heap.size + 1, 0, none⟩ 1 1 [hd2 wr.heap.size] rfl rfl (cell_two_new _ _ _ _) (fun x hx => by simp at hx; subst hx; rfl) (by unfold maxLen; omega) (by omega) (by simp; omega) ?_; intro v' w3 hown' hgrow3 _; have hO3 := hown.step hbase eXk eYk hown' hgrow3; have hB3 := ((hB.alloc hbase (.cells #[.int .i64 x, .int .i64 y] 3)).alloc (by simp; omega) (.cells #[hd2 wr.heap.size] 23)).grown hgrow3 (by simp; omega) (fun q hq => (World.ownsRow.lt hown.row q hq).1); obtain ⟨sa, sc, rfl⟩ := hO3.shape; clear hown hown' hgrow3)
                exact ⟨⟨k + 1, _, _, _, _, by omega, rfl, rfl, rfl, NX.out.symm, NY.out.symm, by rw [NE.out]; omega, hO3, hB3⟩, by simp [lenOf]; omega⟩
              · rw [if_pos c1, if_neg c2] at ne1
                rw [if_pos c1] at nx1
                rw [if_neg c2] at ny1
                have NX : Hid (lnX X1 Y1 x2 y2 (k + 1) = x + (-1)) := nx1
                have NY : Hid (lnY X1 Y1 x2 y2 (k + 1) = y) := ny1
                have NE : Hid ((pt ax ay (k + 1)).2.2 = e + -ay + 0) := ne1
                clear nx1 ny1 ne1
                go_wp2_with (at_builtin; refine wpList_append_own _ rfl _ _ 72 rfl w.heap.size 23 i0 (.slice none 0 0) 1 24 Try.underlying72 hi hz0 hz1 hz2 rfl (by decide) _ _ _ rfl (World.ownsRow.alloc (World.ownsRow.alloc hown.row _) _) ⟨wr.heap.size + 1, 0, none⟩ 1 1 [hd2 wr.heap.size] rfl rfl (cell_two_new _ _ _ _) (fun x hx => by simp at hx; subst hx; rfl) (by unfold maxLen; omega) (by omega) (by simp; omega) ?_; intro v' w3 hown' hgrow3 _; have hO3 := hown.step hbase eXk eYk hown' hgrow3; have hB3 := ((hB.alloc hbase (.cells #[.int .i64 x, .int .i64 y] 3)).alloc (by simp; omega) (.cells #[hd2 wr.heap.size] 23)).grown hgrow3 (by simp; omega) (fun q hq => (World.ownsRow.lt hown.row q hq).1); obtain ⟨sa, sc, rfl⟩ := hO3.shape; clear hown hown' hgrow3)
                exact ⟨⟨k + 1, _, _, _, _, by omega, rfl, rfl, rfl, NX.out.symm, NY.out.symm, by rw [NE.out]; omega, hO3, hB3⟩, by simp [lenOf]; omega⟩
            · by_cases c2 : 2 * e < ax
              · rw [if_neg c1, if_pos c2] at ne1
                rw [if_neg c1] at nx1
                rw [if_pos c2] at ny1
                have NX : Hid (lnX X1 Y1 x2 y2 (k + 1) = x) := nx1
                have NY : Hid (lnY X1 Y1 x2 y2 (k + 1) = y + (-1)) := ny1
                have NE : Hid ((pt ax ay (k + 1)).2.2 = e + 0 + ax) := ne1
                clear nx1 ny1 ne1
                go_wp2_with (at_builtin; refine wpList_append_own _ rfl _ _ 72 rfl w.heap.size 23 i0 (.slice none 0 0) 1 24 Try.underlying72 hi hz0 hz1 hz2 rfl (by decide) _ _ _ rfl (World.ownsRow.alloc (World.ownsRow.alloc hown.row _) _) ⟨wr.heap.size + 1, 0, none⟩ 1 1 [hd2 wr.heap.size] rfl rfl (cell_two_new _ _ _ _) (fun x hx => by simp at hx; subst hx; rfl) (by unfold maxLen; omega) (by omega) (by simp; omega) ?_; intro v' w3 hown' hgrow3 _; have hO3 := hown.step hbase eXk eYk hown' hgrow3; have hB3 := ((hB.alloc hbase (.cells #[.int .i64 x, .int .i64 y] 3)).alloc (by simp; omega) (.cells #[hd2 wr.heap.size] 23)).grown hgrow3 (by simp; omega) (fun q hq => (World.ownsRow.lt hown.row q hq).1); obtain ⟨sa, sc, rfl⟩ := hO3.shape; clear hown hown' hgrow3)
                exact ⟨⟨k + 1, _, _, _, _, by omega, rfl, rfl, rfl, NX.out.symm, NY.out.symm, by rw [NE.out]; omega, hO3, hB3⟩, by simp [lenOf]; omega⟩
              · rw [if_neg c1, if_neg c2] at ne1
                rw [if_neg c1] at nx1
                rw [if_neg c2] at ny1
                have NX : Hid (lnX X1 Y1 x2 y2 (k + 1) = x) := nx1
                have NY : Hid (lnY X1 Y1 x2 y2 (k + 1) = y) := ny1
                have NE : Hid ((pt ax ay (k + 1)).2.2 = e + 0 + 0) := ne1
                clear nx1 ny1 ne1
                go_wp2_with (at_builtin; refine wpList_append_own _ rfl _ _ 72 rfl w.heap.size 23 i0 (.slice none 0 0) 1 24 Try.underlying72 hi hz0 hz1 hz2 rfl (by decide) _ _ _ rfl (World.ownsRow.alloc (World.ownsRow.alloc hown.row _) _) ⟨wr.heap.size + 1, 0, none⟩ 1 1 [hd2 wr.heap.size] rfl rfl (cell_two_new _ _ _ _) (fun x hx => by simp at hx; subst hx; rfl) (by unfold maxLen; omega) (by omega) (by simp; omega) ?_; intro v' w3 hown' hgrow3 _; have hO3 := hown.step hbase eXk eYk hown' hgrow3; have hB3 := ((hB.alloc hbase (.cells #[.int .i64 x, .int .i64 y] 3)).alloc (by simp; omega) (.cells #[hd2 wr.heap.size] 23)).grown hgrow3 (by simp; omega) (fun q hq => (World.ownsRow.lt hown.row q hq).1); obtain ⟨sa, sc, rfl⟩ := hO3.shape; clear hown hown' hgrow3)
                exact ⟨⟨k + 1, _, _, _, _, by omega, rfl, rfl, rfl, NX.out.symm, NY.out.symm, by rw [NE.out]; omega, hO3, hB3⟩, by simp [lenOf]; omega⟩
        · have hke : k = n := by omega
          subst hke
          obtain ⟨kx0, ky0⟩ := R.fin rfl
          have eXk := R.ex.symm
          have eYk := R.ey.symm
          have bx := R.bx
          clear R
          have kx : (x == x2) = true := by simpa using kx0
          have ky : (y == y2) = true := by simpa using ky0
          clear kx0 ky0
          go_wp2_with (at_builtin; refine wpList_append_own _ rfl _ _ 72 rfl w.heap.size 23 i0 (.slice none 0 0) 1 24 Try.underlying72 hi hz0 hz1 hz2 rfl (by decide) _ _ _ rfl (World.ownsRow.alloc (World.ownsRow.alloc hown.row _) _) ⟨wr.heap.size + 1, 0, none⟩ 1 1 [hd2 wr.heap.size] rfl rfl (cell_two_new _ _ _ _) (fun x hx => by simp at hx; subst hx; rfl) (by unfold maxLen; omega) (by omega) (by simp; omega) ?_; intro v' w3 hown' hgrow3 _; have hO3 := hown.step hbase eXk eYk hown' hgrow3; have hB3 := ((hB.alloc hbase (.cells #[.int .i64 x, .int .i64 y] 3)).alloc (by simp; omega) (.cells #[hd2 wr.heap.size] 23)).grown hgrow3 (by simp; omega) (fun q hq => (World.ownsRow.lt hown.row q hq).1); obtain ⟨sa, sc, rfl⟩ := hO3.shape; clear hown hown' hgrow3)
          go_ret
          exact ⟨ansP_own hO3 (Nat.le_refl _), hB3⟩
    · rw [if_neg hy] at sY
      subst sY
      go_wp2
      go_loopw [0, 1, 13, 14] (fun p q r o wr => ∃ (k : Nat) (x y e : Int) (B : Nat → Nat), k ≤ n ∧ p = .int .i64 x ∧ q = .int .i64 y ∧ r = .int .i64 e ∧ x = lnX X1 Y1 x2 y2 k ∧ y = lnY X1 Y1 x2 y2 k ∧ e = (pt ax ay k).2.2 ∧ OwnP wr w.heap.size o k B (lnX X1 Y1 x2 y2) (lnY X1 Y1 x2 y2) ∧ Below w.heap.size w wr) (fun _ _ _ o _ => n + 1 - lenOf o)
      case atStart => exact ⟨0, X1, Y1, ax - ay, _, Nat.zero_le _, rfl, rfl, rfl, z1.symm, z2.symm, by rw [e0], OwnP.nil _ _ _ _, Below.refl _ _⟩
      case round =>
        obtain ⟨k, x, y, e, B, hk, rfl, rfl, rfl, ecx, ecy, ece, hown, hB⟩ := hrel
        have R := HR.out k hk
        rw [← ecx, ← ecy, ← ece] at R
        obtain ⟨sa0, sc0, rfl⟩ := hown.shape
        have hbase : w.heap.size ≤ wr.heap.size := hB.size
        clear ecx ecy ece e0 z1 z2 HR
        by_cases hlt : k < n
        · have hno := R.more hlt
          obtain ⟨nx1, ny1, ne1⟩ := R.next hlt
          have bx := R.bx
          have by' := R.byy
          have be := R.be
          have eXk := R.ex.symm
          have eYk := R.ey.symm
          clear R
          by_cases hx2 : x = x2
          · have hy2 : ¬ y = y2 := fun h => hno ⟨hx2, h⟩
            have kx : (x == x2) = true := by simpa using hx2
            have ky : (y == y2) = false := by simpa using hy2
            clear hx2 hy2 hno
            by_cases c1 : -ay < 2 * e
            · by_cases c2 : 2 * e < ax
              · rw [if_pos c1, if_pos c2] at ne1
                rw [if_pos c1] at nx1
                rw [if_pos c2] at ny1
                have NX : Hid (lnX X1 Y1 x2 y2 (k + 1) = x + (-1)) := nx1
                have NY : Hid (lnY X1 Y1 x2 y2 (k + 1) = y + 1) := ny1
                have NE : Hid ((pt ax ay (k + 1)).2.2 = e + -ay + ax) := ne1
                clear nx1 ny1 ne1
                go_wp2_with (at_builtin; refine wpList_append_own _ rfl _ _ 72 rfl w.heap.size 23 i0 (.slice none 0 0) 1 24 Try.underlying72 hi hz0 hz1 hz2 rfl (by decide) _ _ _ rfl (World.ownsRow.alloc (World.ownsRow.alloc hown.row _) _) ⟨wr.heap.size + 1, 0, none⟩ 1 1 [hd2 wr.heap.size] rfl rfl (cell_two_new _ _ _ _) (fun x hx => by simp at hx; subst hx; rfl) (by unfold maxLen; omega) (by omega) (by simp; omega) ?_; intro v' w3 hown' hgrow3 _; have hO3 := hown.step hbase eXk eYk hown' hgrow3; have hB3 := ((hB.alloc hbase (.cells #[.int .i64 x, .int .i64 y] 3)).alloc (by simp; omega) (.cells #[hd2 wr.heap.size] 23)).grown hgrow3 (by simp; omega) (fun q hq => (World.ownsRow.lt hown.row q hq).1); obtain ⟨sa, sc, rfl⟩ := hO3.shape; clear hown hown' hgrow3)
                exact ⟨⟨k + 1, _, _, _, _, by omega, rfl, rfl, rfl, NX.out.symm, NY.out.symm, by rw [NE.out]; omega, hO3, hB3⟩, by simp [lenOf]; omega⟩
              · rw [if_pos c1, if_neg c2] at ne1
                rw [if_pos c1] at nx1
                rw [if_neg c2] at ny1
                have NX : Hid (lnX X1 Y1 x2 y2 (k + 1) = x + (-1)) := nx1
                have NY : Hid (lnY X1 Y1 x2 y2 (k + 1) = y) := ny1
                have NE : Hid ((pt ax ay (k + 1)).2.2 = e + -ay + 0) := ne1
                clear nx1 ny1 ne1
                go_wp2_with (at_builtin; refine wpList_append_own _ rfl _ _ 72 rfl w.heap.size 23 i0 (.slice none 0 0) 1 24 Try.underlying72 hi hz0 hz1 hz2 rfl (by decide) _ _ _ rfl (World.ownsRow.alloc (World.ownsRow.alloc hown.row _) _) ⟨wr.heap.size + 1, 0, none⟩ 1 1 [hd2 wr.heap.size] rfl rfl (cell_two_new _ _ _ _) (fun x hx => by simp at hx; subst hx; rfl) (by unfold maxLen; omega) (by omega) (by simp; omega) ?_; intro v' w3 hown' hgrow3 _; have hO3 := hown.step hbase eXk eYk hown' hgrow3; have hB3 := ((hB.alloc hbase (.cells #[.int .i64 x, .int .i64 y] 3)).alloc (by simp; omega) (.cells #[hd2 wr.heap.size] 23)).grown hgrow3 (by simp; omega) (fun q hq => (World.ownsRow.lt hown.row q hq).1); obtain ⟨sa, sc, rfl⟩ := hO3.shape; clear hown hown' hgrow3)
                exact ⟨⟨k + 1, _, _, _, _, by omega, rfl, rfl, rfl, NX.out.symm, NY.out.symm, by rw [NE.out]; omega, hO3, hB3⟩, by simp [lenOf]; omega⟩
            · by_cases c2 : 2 * e < ax
              · rw [if_neg c1, if_pos c2] at ne1
                rw [if_neg c1] at nx1
                rw [if_pos c2] at ny1
                have NX : Hid (lnX X1 Y1 x2 y2 (k + 1) = x) := nx1
                have NY : Hid (lnY X1 Y1 x2 y2 (k + 1) = y + 1) := ny1
                have NE : Hid ((pt ax ay (k + 1)).2.2 = e + 0 + ax) := ne1
                clear nx1 ny1 ne1
                go_wp2_with (at_builtin; refine wpList_append_own _ rfl _ _ 72 rfl w.heap.size 23 i0 (.slice none 0 0) 1 24 Try.underlying72 hi hz0 hz1 hz2 rfl (by decide) _ _ _ rfl (World.ownsRow.alloc (World.ownsRow.alloc hown.row _) _) ⟨wr.heap.size + 1, 0, none⟩ 1 1 [hd2 wr.heap.size] rfl rfl (cell_two_new _ _ _ _) (fun x hx => by simp at hx; subst hx; rfl) (by unfold maxLen; omega) (by omega) (by simp; omega) ?_; intro v' w3 hown' hgrow3 _; have hO3 := hown.step hbase eXk eYk hown' hgrow3; have hB3 := ((hB.alloc hbase (.cells #[.int .i64 x, .int .i64 y] 3)).alloc (by simp; omega) (.cells #[hd2 wr.heap.size] 23)).grown hgrow3 (by simp; omega) (fun q hq => (World.ownsRow.lt hown.row q hq).1); obtain ⟨sa, sc, rfl⟩ := hO3.shape; clear hown hown' hgrow3)
                exact ⟨⟨k + 1, _, _, _, _, by omega, rfl, rfl, rfl, NX.out.symm, NY.out.symm, by rw [NE.out]; omega, hO3, hB3⟩, by simp [lenOf]; omega⟩
              · rw [if_neg c1, if_neg c2] at ne1
                rw [if_neg c1] at nx1
                rw [if_neg c2] at ny1
                have NX : Hid (lnX X1 Y1 x2 y2 (k + 1) = x) := nx1
                have NY : Hid (lnY X1 Y1 x2 y2 (k + 1) = y) := ny1
                have NE : Hid ((pt ax ay (k + 1)).2.2 = e + 0 + 0) := ne1
                clear nx1 ny1 ne1
                go_wp2_with (at_builtin; refine wpList_append_own _ rfl _ _ 72 rfl w.heap.size 23 i0 (.slice none 0 0) 1 24 Try.underlying72 hi hz0 hz1 hz2 rfl (by decide) _ _ _ rfl (World.ownsRow.alloc (World.ownsRow.alloc hown.row _) _) ⟨wr.heap.size + 1, 0, none⟩ 1 1 [hd2 wr.heap.size] rfl rfl (cell_two_new _ _ _ _) (fun x hx => by simp at hx; subst hx; rfl) (by unfold maxLen; omega) (by omega) (by simp; omega) ?_; intro v' w3 hown' hgrow3 _; have hO3 := hown.step hbase eXk eYk hown' hgrow3; have hB3 := ((hB.alloc hbase (.cells #[.int .i64 x, .int .i64 y] 3)).alloc (by simp; omega) (.cells #[hd2 wr.heap.size] 23)).grown hgrow3 (by simp; omega) (fun q hq => (World.ownsRow.lt hown.row q hq).1); obtain ⟨sa, sc, rfl⟩ := hO3.shape; clear hown hown' hgrow3)
                exact ⟨⟨k + 1, _, _, _, _, by omega, rfl, rfl, rfl, NX.out.symm, NY.out.symm, by rw [NE.out]; omega, hO3, hB3⟩, by simp [lenOf]; omega⟩
          · have kx : (x == x2) = false := by simpa using hx2
            clear hx2 hno
            by_cases c1 : -ay < 2 * e
            · by_cases c2 : 2 * e < ax
              · rw [if_pos c1, if_pos c2] at ne1
                rw [if_pos c1] at nx1
                rw [if_pos c2] at ny1
                have NX : Hid (lnX X1 Y1 x2 y2 (k + 1) = x + (-1)) := nx1
                have NY : Hid (lnY X1 Y1 x2 y2 (k + 1) = y + 1) := ny1
                have NE : Hid ((pt ax ay (k + 1)).2.2 = e + -ay + ax) := ne1
                clear nx1 ny1 ne1
                go_wp2_with (at_builtin; refine wpList_append_own _ rfl _ _ 72 rfl w.heap.size 23 i0 (.slice none 0 0) 1 24 Try.underlying72 hi hz0 hz1 hz2 rfl (by decide) _ _ _ rfl (World.ownsRow.alloc (World.ownsRow.alloc hown.row _) _) ⟨wr.heap.size + 1, 0, none⟩ 1 1 [hd2 wr.heap.size] rfl rfl (cell_two_new _ _ _ _) (fun x hx => by simp at hx; subst hx; rfl) (by unfold maxLen; omega) (by omega) (by simp; omega) ?_; intro v' w3 hown' hgrow3 _; have hO3 := hown.step hbase eXk eYk hown' hgrow3; have hB3 := ((hB.alloc hbase (.cells #[.int .i64 x, .int .i64 y] 3)).alloc (by simp; omega) (.cells #[hd2 wr.heap.size] 23)).grown hgrow3 (by simp; omega) (fun q hq => (World.ownsRow.lt hown.row q hq).1); obtain ⟨sa, sc, rfl⟩ := hO3.shape; clear hown hown' hgrow3)
                exact ⟨⟨k + 1, _, _, _, _, by omega, rfl, rfl, rfl, NX.out.symm, NY.out.symm, by rw [NE.out]; omega, hO3, hB3⟩, by simp [lenOf]; omega⟩
              · rw [if_pos c1, if_neg c2] at ne1
                rw [if_pos c1] at nx1
                rw [if_neg c2] at ny1
                have NX : Hid (lnX X1 Y1 x2 y2 (k + 1) = x + (-1)) := nx1
                have NY : Hid (lnY X1 Y1 x2 y2 (k + 1) = y) := ny1
                have NE : Hid ((pt ax ay (k + 1)).2.2 = e + -ay + 0) := ne1
                clear nx1 ny1 ne1
                go_wp2_with (at_builtin; refine wpList_append_own _ rfl _ _ 72 rfl w.heap.size 23 i0 (.slice none 0 0) 1 24 Try.underlying72 hi hz0 hz1 hz2 rfl (by decide) _ _ _ rfl (World.ownsRow.alloc (World.ownsRow.alloc hown.row _) _) ⟨wr.heap.size + 1, 0, none⟩ 1 1 [hd2 wr.heap.size] rfl rfl (cell_two_new _ _ _ _) (fun x hx => by simp at hx; subst hx; rfl) (by unfold maxLen; omega) (by omega) (by simp; omega) ?_; intro v' w3 hown' hgrow3 _; have hO3 := hown.step hbase eXk eYk hown' hgrow3; have hB3 := ((hB.alloc hbase (.cells #[.int .i64 x, .int .i64 y] 3)).alloc (by simp; omega) (.cells #[hd2 wr.heap.size] 23)).grown hgrow3 (by simp; omega) (fun q hq => (World.ownsRow.lt hown.row q hq).1); obtain ⟨sa, sc, rfl⟩ := hO3.shape; clear hown hown' hgrow3)
                exact ⟨⟨k + 1, _, _, _, _, by omega, rfl, rfl, rfl, NX.out.symm, NY.out.symm, by rw [NE.out]; omega, hO3, hB3⟩, by simp [lenOf]; omega⟩
            · by_cases c2 : 2 * e < ax
              · rw [if_neg c1, if_pos c2] at ne1
                rw [if_neg c1] at nx1
                rw [if_pos c2] at ny1
                have NX : Hid (lnX X1 Y1 x2 y2 (k + 1) = x) := nx1
                have NY : Hid (lnY X1 Y1 x2 y2 (k + 1) = y + 1) := ny1
                have NE : Hid ((pt ax ay (k + 1)).2.2 = e + 0 + ax) := ne1
                clear nx1 ny1 ne1
                go_wp2_with (at_builtin; refine wpList_append_own _ rfl _ _ 72 rfl w.heap.size 23 i0 (.slice none 0 0) 1 24 Try.underlying72 hi hz0 hz1 hz2 rfl (by decide) _ _ _ rfl (World.ownsRow.alloc (World.ownsRow.alloc hown.row _) _) ⟨wr.heap.size + 1, 0, none⟩ 1 1 [hd2 wr.heap.size] rfl rfl (cell_two_new _ _ _ _) (fun x hx => by simp at hx; subst hx; rfl) (by unfold maxLen; omega) (by omega) (by simp; omega) ?_; intro v' w3 hown' hgrow3 _; have hO3 := hown.step hbase eXk eYk hown' hgrow3; have hB3 := ((hB.alloc hbase (.cells #[.int .i64 x, .int .i64 y] 3)).alloc (by simp; omega) (.cells #[hd2 wr.heap.size] 23)).grown hgrow3 (by simp; omega) (fun q hq => (World.ownsRow.lt hown.row q hq).1); obtain ⟨sa, sc, rfl⟩ := hO3.shape; clear hown hown' hgrow3)
                exact ⟨⟨k + 1, _, _, _, _, by omega, rfl, rfl, rfl, NX.out.symm, NY.out.symm, by rw [NE.out]; omega, hO3, hB3⟩, by simp [lenOf]; omega⟩
              · rw [if_neg c1, if_neg c2] at ne1
                rw [if_neg c1] at nx1
                rw [if_neg c2] at ny1
                have NX : Hid (lnX X1 Y1 x2 y2 (k + 1) = x) := nx1
                have NY : Hid (lnY X1 Y1 x2 y2 (k + 1) = y) := ny1
                have NE : Hid ((pt ax ay (k + 1)).2.2 = e + 0 + 0) := ne1
                clear nx1 ny1 ne1
                go_wp2_with (at_builtin; refine wpList_append_own _ rfl _ _ 72 rfl w.heap.size 23 i0 (.slice none 0 0) 1 24 Try.underlying72 hi hz0 hz1 hz2 rfl (by decide) _ _ _ rfl (World.ownsRow.alloc (World.ownsRow.alloc hown.row _) _) ⟨wr.heap.size + 1, 0, none⟩ 1 1 [hd2 wr.heap.size] rfl rfl (cell_two_new _ _ _ _) (fun x hx => by simp at hx; subst hx; rfl) (by unfold maxLen; omega) (by omega) (by simp; omega) ?_; intro v' w3 hown' hgrow3 _; have hO3 := hown.step hbase eXk eYk hown' hgrow3; have hB3 := ((hB.alloc hbase (.cells #[.int .i64 x, .int .i64 y] 3)).alloc (by simp; omega) (.cells #[hd2 wr.heap.size] 23)).grown hgrow3 (by simp; omega) (fun q hq => (World.ownsRow.lt hown.row q hq).1); obtain ⟨sa, sc, rfl⟩ := hO3.shape; clear hown hown' hgrow3)
                exact ⟨⟨k + 1, _, _, _, _, by omega, rfl, rfl, rfl, NX.out.symm, NY.out.symm, by rw [NE.out]; omega, hO3, hB3⟩, by simp [lenOf]; omega⟩
        · have hke : k = n := by omega
          subst hke
          obtain ⟨kx0, ky0⟩ := R.fin rfl
          have eXk := R.ex.symm
          have eYk := R.ey.symm
          have bx := R.bx
          clear R
          have kx : (x == x2) = true := by simpa using kx0
          have ky : (y == y2) = true := by simpa using ky0
          clear kx0 ky0
          go_wp2_with (at_builtin; refine wpList_append_own _ rfl _ _ 72 rfl w.heap.size 23 i0 (.slice none 0 0) 1 24 Try.underlying72 hi hz0 hz1 hz2 rfl (by decide) _ _ _ rfl (World.ownsRow.alloc (World.ownsRow.alloc hown.row _) _) ⟨wr.heap.size + 1, 0, none⟩ 1 1 [hd2 wr.heap.size] rfl rfl (cell_two_new _ _ _ _) (fun x hx => by simp at hx; subst hx; rfl) (by unfold maxLen; omega) (by omega) (by simp; omega) ?_; intro v' w3 hown' hgrow3 _; have hO3 := hown.step hbase eXk eYk hown' hgrow3; have hB3 := ((hB.alloc hbase (.cells #[.int .i64 x, .int .i64 y] 3)).alloc (by simp; omega) (.cells #[hd2 wr.heap.size] 23)).grown hgrow3 (by simp; omega) (fun q hq => (World.ownsRow.lt hown.row q hq).1); obtain ⟨sa, sc, rfl⟩ := hO3.shape; clear hown hown' hgrow3)
          go_ret
          exact ⟨ansP_own hO3 (Nat.le_refl _), hB3⟩
  · rw [if_neg hx] at sX
    subst sX
    by_cases hy : y2 < Y1
    · rw [if_pos hy] at sY
      subst sY
      go_wp2
      go_loopw [0, 1, 13, 14] (fun p q r o wr => ∃ (k : Nat) (x y e : Int) (B : Nat → Nat), k ≤ n ∧ p = .int .i64 x ∧ q = .int .i64 y ∧ r = .int .i64 e ∧ x = lnX X1 Y1 x2 y2 k ∧ y = lnY X1 Y1 x2 y2 k ∧ e = (pt ax ay k).2.2 ∧ OwnP wr w.heap.size o k B (lnX X1 Y1 x2 y2) (lnY X1 Y1 x2 y2) ∧ Below w.heap.size w wr) (fun _ _ _ o _ => n + 1 - lenOf o)
      case atStart => exact ⟨0, X1, Y1, ax - ay, _, Nat.zero_le _, rfl, rfl, rfl, z1.symm, z2.symm, by rw [e0], OwnP.nil _ _ _ _, Below.refl _ _⟩
      case round =>
        obtain ⟨k, x, y, e, B, hk, rfl, rfl, rfl, ecx, ecy, ece, hown, hB⟩ := hrel
        have R := HR.out k hk
        rw [← ecx, ← ecy, ← ece] at R
        obtain ⟨sa0, sc0, rfl⟩ := hown.shape
        have hbase : w.heap.size ≤ wr.heap.size := hB.size
        clear ecx ecy ece e0 z1 z2 HR
        by_cases hlt : k < n
        · have hno := R.more hlt
          obtain ⟨nx1, ny1, ne1⟩ := R.next hlt
          have bx := R.bx
          have by' := R.byy
          have be := R.be
          have eXk := R.ex.symm
          have eYk := R.ey.symm
          clear R
          by_cases hx2 : x = x2
          · have hy2 : ¬ y = y2 := fun h => hno ⟨hx2, h⟩
            have kx : (x == x2) = true := by simpa using hx2
            have ky : (y == y2) = false := by simpa using hy2
            clear hx2 hy2 hno
            by_cases c1 : -ay < 2 * e
            · by_cases c2 : 2 * e < ax
              · rw [if_pos c1, if_pos c2] at ne1
                rw [if_pos c1] at nx1
                rw [if_pos c2] at ny1
                have NX : Hid (lnX X1 Y1 x2 y2 (k + 1) = x + 1) := nx1
                have NY : Hid (lnY X1 Y1 x2 y2 (k + 1) = y + (-1)) := ny1
                have NE : Hid ((pt ax ay (k + 1)).2.2 = e + -ay + ax) := ne1
                clear nx1 ny1 ne1
                go_wp2_with (at_builtin; refine wpList_append_own _ rfl _ _ 72 rfl w.heap.size 23 i0 (.slice none 0 0) 1 24 Try.underlying72 hi hz0 hz1 hz2 rfl (by decide) _ _ _ rfl (World.ownsRow.alloc (World.ownsRow.alloc hown.row _) _) ⟨wr.heap.size + 1, 0, none⟩ 1 1 [hd2 wr.heap.size] rfl rfl (cell_two_new _ _ _ _) (fun x hx => by simp at hx; subst hx; rfl) (by unfold maxLen; omega) (by omega) (by simp; omega) ?_; intro v' w3 hown' hgrow3 _; have hO3 := hown.step hbase eXk eYk hown' hgrow3; have hB3 := ((hB.alloc hbase (.cells #[.int .i64 x, .int .i64 y] 3)).alloc (by simp; omega) (.cells #[hd2 wr.heap.size] 23)).grown hgrow3 (by simp; omega) (fun q hq => (World.ownsRow.lt hown.row q hq).1); obtain ⟨sa, sc, rfl⟩ := hO3.shape; clear hown hown' hgrow3)
                exact ⟨⟨k + 1, _, _, _, _, by omega, rfl, rfl, rfl, NX.out.symm, NY.out.symm, by rw [NE.out]; omega, hO3, hB3⟩, by simp [lenOf]; omega⟩
              · rw [if_pos c1, if_neg c2] at ne1
                rw [if_pos c1] at nx1
                rw [if_neg c2] at ny1
                have NX : Hid (lnX X1 Y1 x2 y2 (k + 1) = x + 1) := nx1
                have NY : Hid (lnY X1 Y1 x2 y2 (k + 1) = y) := ny1
                have NE : Hid ((pt ax ay (k + 1)).2.2 = e + -ay + 0) := ne1
                clear nx1 ny1 ne1
                go_wp2_with (at_builtin; refine wpList_append_own _ rfl _ _ 72 rfl w.heap.size 23 i0 (.slice none 0 0) 1 24 Try.underlying72 hi hz0 hz1 hz2 rfl (by decide) _ _ _ rfl (World.ownsRow.alloc (World.ownsRow.alloc hown.row _) _) ⟨wr.heap.size + 1, 0, none⟩ 1 1 [hd2 wr.heap.size] rfl rfl (cell_two_new _ _ _ _) (fun x hx => by simp at hx; subst hx; rfl) (by unfold maxLen; omega) (by omega) (by simp; omega) ?_; intro v' w3 hown' hgrow3 _; have hO3 := hown.step hbase eXk eYk hown' hgrow3; have hB3 := ((hB.alloc hbase (.cells #[.int .i64 x, .int .i64 y] 3)).alloc (by simp; omega) (.cells #[hd2 wr.heap.size] 23)).grown hgrow3 (by simp; omega) (fun q hq => (World.ownsRow.lt hown.row q hq).1); obtain ⟨sa, sc, rfl⟩ := hO3.shape; clear hown hown' hgrow3)
                exact ⟨⟨k + 1, _, _, _, _, by omega, rfl, rfl, rfl, NX.out.symm, NY.out.symm, by rw [NE.out]; omega, hO3, hB3⟩, by simp [lenOf]; omega⟩
            · by_cases c2 : 2 * e < ax
              · rw [if_neg c1, if_pos c2] at ne1
                rw [if_neg c1] at nx1
                rw [if_pos c2] at ny1
                have NX : Hid (lnX X1 Y1 x2 y2 (k + 1) = x) := nx1
                have NY : Hid (lnY X1 Y1 x2 y2 (k + 1) = y + (-1)) := ny1
                have NE : Hid ((pt ax ay (k + 1)).2.2 = e + 0 + ax) := ne1
                clear nx1 ny1 ne1
                go_wp2_with (at_builtin; refine wpList_append_own _ rfl _ _ 72 rfl w.heap.size 23 i0 (.slice none 0 0) 1 24 Try.underlying72 hi hz0 hz1 hz2 rfl (by decide) _ _ _ rfl (World.ownsRow.alloc (World.ownsRow.alloc hown.row _) _) ⟨wr.heap.size + 1, 0, none⟩ 1 1 [hd2 wr.heap.size] rfl rfl (cell_two_new _ _ _ _) (fun x hx => by simp at hx; subst hx; rfl) (by unfold maxLen; omega) (by omega) (by simp; omega) ?_; intro v' w3 hown' hgrow3 _; have hO3 := hown.step hbase eXk eYk hown' hgrow3; have hB3 := ((hB.alloc hbase (.cells #[.int .i64 x, .int .i64 y] 3)).alloc (by simp; omega) (.cells #[hd2 wr.heap.size] 23)).grown hgrow3 (by simp; omega) (fun q hq => (World.ownsRow.lt hown.row q hq).1); obtain ⟨sa, sc, rfl⟩ := hO3.shape; clear hown hown' hgrow3)
                exact ⟨⟨k + 1, _, _, _, _, by omega, rfl, rfl, rfl, NX.out.symm, NY.out.symm, by rw [NE.out]; omega, hO3, hB3⟩, by simp [lenOf]; omega⟩
              · rw [if_neg c1, if_neg c2] at ne1
                rw [if_neg c1] at nx1
                rw [if_neg c2] at ny1
                have NX : Hid (lnX X1 Y1 x2 y2 (k + 1) = x) := nx1
                have NY : Hid (lnY X1 Y1 x2 y2 (k + 1) = y) := ny1
                have NE : Hid ((pt ax ay (k + 1)).2.2 = e + 0 + 0) := ne1
                clear nx1 ny1 ne1
                go_wp2_with (at_builtin; refine wpList_append_own _ rfl _ _ 72 rfl w.heap.size 23 i0 (.slice none 0 0) 1 24 Try.underlying72 hi hz0 hz1 hz2 rfl (by decide) _ _ _ rfl (World.ownsRow.alloc (World.ownsRow.alloc hown.row _) _) ⟨wr.heap.size + 1, 0, none⟩ 1 1 [hd2 wr.heap.size] rfl rfl (cell_two_new _ _ _ _) (fun x hx => by simp at hx; subst hx; rfl) (by unfold maxLen; omega) (by omega) (by simp; omega) ?_; intro v' w3 hown' hgrow3 _; have hO3 := hown.step hbase eXk eYk hown' hgrow3; have hB3 := ((hB.alloc hbase (.cells #[.int .i64 x, .int .i64 y] 3)).alloc (by simp; omega) (.cells #[hd2 wr.heap.size] 23)).grown hgrow3 (by simp; omega) (fun q hq => (World.ownsRow.lt hown.row q hq).1); obtain ⟨sa, sc, rfl⟩ := hO3.shape; clear hown hown' hgrow3)
                exact ⟨⟨k + 1, _, _, _, _, by omega, rfl, rfl, rfl, NX.out.symm, NY.out.symm, by rw [NE.out]; omega, hO3, hB3⟩, by simp [lenOf]; omega⟩
          · have kx : (x == x2) = false := by simpa using hx2
            clear hx2 hno
            by_cases c1 : -ay < 2 * e
            · by_cases c2 : 2 * e < ax
              · rw [if_pos c1, if_pos c2] at ne1
                rw [if_pos c1] at nx1
                rw [if_pos c2] at ny1
                have NX : Hid (lnX X1 Y1 x2 y2 (k + 1) = x + 1) := nx1
                have NY : Hid (lnY X1 Y1 x2 y2 (k + 1) = y + (-1)) := ny1
                have NE : Hid ((pt ax ay (k + 1)).2.2 = e + -ay + ax) := ne1
                clear nx1 ny1 ne1
                go_wp2_with (at_builtin; refine wpList_append_own _ rfl _ _ 72 rfl w.heap.size 23 i0 (.slice none 0 0) 1 24 Try.underlying72 hi hz0 hz1 hz2 rfl (by decide) _ _ _ rfl (World.ownsRow.alloc (World.ownsRow.alloc hown.row _) _) ⟨wr.heap.size + 1, 0, none⟩ 1 1 [hd2 wr.heap.size] rfl rfl (cell_two_new _ _ _ _) (fun x hx => by simp at hx; subst hx; rfl) (by unfold maxLen; omega) (by omega) (by simp; omega) ?_; intro v' w3 hown' hgrow3 _; have hO3 := hown.step hbase eXk eYk hown' hgrow3; have hB3 := ((hB.alloc hbase (.cells #[.int .i64 x, .int .i64 y] 3)).alloc (by simp; omega) (.cells #[hd2 wr.heap.size] 23)).grown hgrow3 (by simp; omega) (fun q hq => (World.ownsRow.lt hown.row q hq).1); obtain ⟨sa, sc, rfl⟩ := hO3.shape; clear hown hown' hgrow3)
                exact ⟨⟨k + 1, _, _, _, _, by omega, rfl, rfl, rfl, NX.out.symm, NY.out.symm, by rw [NE.out]; omega, hO3, hB3⟩, by simp [lenOf]; omega⟩
              · rw [if_pos c1, if_neg c2] at ne1
                rw [if_pos c1] at nx1
                rw [if_neg c2] at ny1
                have NX : Hid (lnX X1 Y1 x2 y2 (k + 1) = x + 1) := nx1
                have NY : Hid (lnY X1 Y1 x2 y2 (k + 1) = y) := ny1
                have NE : Hid ((pt ax ay (k + 1)).2.2 = e + -ay + 0) := ne1
                clear nx1 ny1 ne1
                go_wp2_with (at_builtin; refine wpList_append_own _ rfl _ _ 72 rfl w.heap.size 23 i0 (.slice none 0 0) 1 24 Try.underlying72 hi hz0 hz1 hz2 rfl (by decide) _ _ _ rfl (World.ownsRow.alloc (World.ownsRow.alloc hown.row _) _) ⟨wr.heap.size + 1, 0, none⟩ 1 1 [hd2 wr.heap.size] rfl rfl (cell_two_new _ _ _ _) (fun x hx => by simp at hx; subst hx; rfl) (by unfold maxLen; omega) (by omega) (by simp; omega) ?_; intro v' w3 hown' hgrow3 _; have hO3 := hown.step hbase eXk eYk hown' hgrow3; have hB3 := ((hB.alloc hbase (.cells #[.int .i64 x, .int .i64 y] 3)).alloc (by simp; omega) (.cells #[hd2 wr.heap.size] 23)).grown hgrow3 (by simp; omega) (fun q hq => (World.ownsRow.lt hown.row q hq).1); obtain ⟨sa, sc, rfl⟩ := hO3.shape; clear hown hown' hgrow3)
                exact ⟨⟨k + 1, _, _, _, _, by omega, rfl, rfl, rfl, NX.out.symm, NY.out.symm, by rw [NE.out]; omega, hO3, hB3⟩, by simp [lenOf]; omega⟩
            · by_cases c2 : 2 * e < ax
              · rw [if_neg c1, if_pos c2] at ne1
                rw [if_neg c1] at nx1
                rw [if_pos c2] at ny1
                have NX : Hid (lnX X1 Y1 x2 y2 (k + 1) = x) := nx1
                have NY : Hid (lnY X1 Y1 x2 y2 (k + 1) = y + (-1)) := ny1
                have NE : Hid ((pt ax ay (k + 1)).2.2 = e + 0 + ax) := ne1
                clear nx1 ny1 ne1
                go_wp2_with (at_builtin; refine wpList_append_own _ rfl _ _ 72 rfl w.heap.size 23 i0 (.slice none 0 0) 1 24 Try.underlying72 hi hz0 hz1 hz2 rfl (by decide) _ _ _ rfl (World.ownsRow.alloc (World.ownsRow.alloc hown.row _) _) ⟨wr.heap.size + 1, 0, none⟩ 1 1 [hd2 wr.heap.size] rfl rfl (cell_two_new _ _ _ _) (fun x hx => by simp at hx; subst hx; rfl) (by unfold maxLen; omega) (by omega) (by simp; omega) ?_; intro v' w3 hown' hgrow3 _; have hO3 := hown.step hbase eXk eYk hown' hgrow3; have hB3 := ((hB.alloc hbase (.cells #[.int .i64 x, .int .i64 y] 3)).alloc (by simp; omega) (.cells #[hd2 wr.heap.size] 23)).grown hgrow3 (by simp; omega) (fun q hq => (World.ownsRow.lt hown.row q hq).1); obtain ⟨sa, sc, rfl⟩ := hO3.shape; clear hown hown' hgrow3)
                exact ⟨⟨k + 1, _, _, _, _, by omega, rfl, rfl, rfl, NX.out.symm, NY.out.symm, by rw [NE.out]; omega, hO3, hB3⟩, by simp [lenOf]; omega⟩
              · rw [if_neg c1, if_neg c2] at ne1
                rw [if_neg c1] at nx1
                rw [if_neg c2] at ny1
                have NX : Hid (lnX X1 Y1 x2 y2 (k + 1) = x) := nx1
                have NY : Hid (lnY X1 Y1 x2 y2 (k + 1) = y) := ny1
                have NE : Hid ((pt ax ay (k + 1)).2.2 = e + 0 + 0) := ne1
                clear nx1 ny1 ne1
                go_wp2_with (at_builtin; refine wpList_append_own _ rfl _ _ 72 rfl w.heap.size 23 i0 (.slice none 0 0) 1 24 Try.underlying72 hi hz0 hz1 hz2 rfl (by decide) _ _ _ rfl (World.ownsRow.alloc (World.ownsRow.alloc hown.row _) _) ⟨wr.heap.size + 1, 0, none⟩ 1 1 [hd2 wr.heap.size] rfl rfl (cell_two_new _ _ _ _) (fun x hx => by simp at hx; subst hx; rfl) (by unfold maxLen; omega) (by omega) (by simp; omega) ?_; intro v' w3 hown' hgrow3 _; have hO3 := hown.step hbase eXk eYk hown' hgrow3; have hB3 := ((hB.alloc hbase (.cells #[.int .i64 x, .int .i64 y] 3)).alloc (by simp; omega) (.cells #[hd2 wr.heap.size] 23)).grown hgrow3 (by simp; omega) (fun q hq => (World.ownsRow.lt hown.row q hq).1); obtain ⟨sa, sc, rfl⟩ := hO3.shape; clear hown hown' hgrow3)
                exact ⟨⟨k + 1, _, _, _, _, by omega, rfl, rfl, rfl, NX.out.symm, NY.out.symm, by rw [NE.out]; omega, hO3, hB3⟩, by simp [lenOf]; omega⟩
        · have hke : k = n := by omega
          subst hke
          obtain ⟨kx0, ky0⟩ := R.fin rfl
          have eXk := R.ex.symm
          have eYk := R.ey.symm
          have bx := R.bx
          clear R
          have kx : (x == x2) = true := by simpa using kx0
          have ky : (y == y2) = true := by simpa using ky0
          clear kx0 ky0
          go_wp2_with (at_builtin; refine wpList_append_own _ rfl _ _ 72 rfl w.heap.size 23 i0 (.slice none 0 0) 1 24 Try.underlying72 hi hz0 hz1 hz2 rfl (by decide) _ _ _ rfl (World.ownsRow.alloc (World.ownsRow.alloc hown.row _) _) ⟨wr.heap.size + 1, 0, none⟩ 1 1 [hd2 wr.heap.size] rfl rfl (cell_two_new _ _ _ _) (fun x hx => by simp at hx; subst hx; rfl) (by unfold maxLen; omega) (by omega) (by simp; omega) ?_; intro v' w3 hown' hgrow3 _; have hO3 := hown.step hbase eXk eYk hown' hgrow3; have hB3 := ((hB.alloc hbase (.cells #[.int .i64 x, .int .i64 y] 3)).alloc (by simp; omega) (.cells #[hd2 wr.heap.size] 23)).grown hgrow3 (by simp; omega) (fun q hq => (World.ownsRow.lt hown.row q hq).1); obtain ⟨sa, sc, rfl⟩ := hO3.shape; clear hown hown' hgrow3)
          go_ret
          exact ⟨ansP_own hO3 (Nat.le_refl _), hB3⟩
    · rw [if_neg hy] at sY
      subst sY
      go_wp2
      go_loopw [0, 1, 13, 14] (fun p q r o wr => ∃ (k : Nat) (x y e : Int) (B : Nat → Nat), k ≤ n ∧ p = .int .i64 x ∧ q = .int .i64 y ∧ r = .int .i64 e ∧ x = lnX X1 Y1 x2 y2 k ∧ y = lnY X1 Y1 x2 y2 k ∧ e = (pt ax ay k).2.2 ∧ OwnP wr w.heap.size o k B (lnX X1 Y1 x2 y2) (lnY X1 Y1 x2 y2) ∧ Below w.heap.size w wr) (fun _ _ _ o _ => n + 1 - lenOf o)
      case atStart => exact ⟨0, X1, Y1, ax - ay, _, Nat.zero_le _, rfl, rfl, rfl, z1.symm, z2.symm, by rw [e0], OwnP.nil _ _ _ _, Below.refl _ _⟩
      case round =>
        obtain ⟨k, x, y, e, B, hk, rfl, rfl, rfl, ecx, ecy, ece, hown, hB⟩ := hrel
        have R := HR.out k hk
        rw [← ecx, ← ecy, ← ece] at R
        obtain ⟨sa0, sc0, rfl⟩ := hown.shape
        have hbase : w.heap.size ≤ wr.heap.size := hB.size
        clear ecx ecy ece e0 z1 z2 HR
        by_cases hlt : k < n
        · have hno := R.more hlt
          obtain ⟨nx1, ny1, ne1⟩ := R.next hlt
          have bx := R.bx
          have by' := R.byy
          have be := R.be
          have eXk := R.ex.symm
          have eYk := R.ey.symm
          clear R
          by_cases hx2 : x = x2
          · have hy2 : ¬ y = y2 := fun h => hno ⟨hx2, h⟩
            have kx : (x == x2) = true := by simpa using hx2
            have ky : (y == y2) = false := by simpa using hy2
            clear hx2 hy2 hno
            by_cases c1 : -ay < 2 * e
            · by_cases c2 : 2 * e < ax
              · rw [if_pos c1, if_pos c2] at ne1
                rw [if_pos c1] at nx1
                rw [if_pos c2] at ny1
                have NX : Hid (lnX X1 Y1 x2 y2 (k + 1) = x + 1) := nx1
                have NY : Hid (lnY X1 Y1 x2 y2 (k + 1) = y + 1) := ny1
                have NE : Hid ((pt ax ay (k + 1)).2.2 = e + -ay + ax) := ne1
                clear nx1 ny1 ne1
                go_wp2_with (at_builtin; refine wpList_append_own _ rfl _ _ 72 rfl w.heap.size 23 i0 (.slice none 0 0) 1 24 Try.underlying72 hi hz0 hz1 hz2 rfl (by decide) _ _ _ rfl (World.ownsRow.alloc (World.ownsRow.alloc hown.row _) _) ⟨wr.heap.size + 1, 0, none⟩ 1 1 [hd2 wr.heap.size] rfl rfl (cell_two_new _ _ _ _) (fun x hx => by simp at hx; subst hx; rfl) (by unfold maxLen; omega) (by omega) (by simp; omega) ?_; intro v' w3 hown' hgrow3 _; have hO3 := hown.step hbase eXk eYk hown' hgrow3; have hB3 := ((hB.alloc hbase (.cells #[.int .i64 x, .int .i64 y] 3)).alloc (by simp; omega) (.cells #[hd2 wr.heap.size] 23)).grown hgrow3 (by simp; omega) (fun q hq => (World.ownsRow.lt hown.row q hq).1); obtain ⟨sa, sc, rfl⟩ := hO3.shape; clear hown hown' hgrow3)
                exact ⟨⟨k + 1, _, _, _, _, by omega, rfl, rfl, rfl, NX.out.symm, NY.out.symm, by rw [NE.out]; omega, hO3, hB3⟩, by simp [lenOf]; omega⟩
              · rw [if_pos c1, if_neg c2] at ne1
                rw [if_pos c1] at nx1
                rw [if_neg c2] at ny1
                have NX : Hid (lnX X1 Y1 x2 y2 (k + 1) = x + 1) := nx1
                have NY : Hid (lnY X1 Y1 x2 y2 (k + 1) = y) := ny1
                have NE : Hid ((pt ax ay (k + 1)).2.2 = e + -ay + 0) := ne1
                clear nx1 ny1 ne1
                go_wp2_with (at_builtin; refine wpList_append_own _ rfl _ _ 72 rfl w.heap.size 23 i0 (.slice none 0 0) 1 24 Try.underlying72 hi hz0 hz1 hz2 rfl (by decide) _ _ _ rfl (World.ownsRow.alloc (World.ownsRow.alloc hown.row _) _) ⟨wr.heap.size + 1, 0, none⟩ 1 1 [hd2 wr.heap.size] rfl rfl (cell_two_new _ _ _ _) (fun x hx => by simp at hx; subst hx; rfl) (by unfold maxLen; omega) (by omega) (by simp; omega) ?_; intro v' w3 hown' hgrow3 _; have hO3 := hown.step hbase eXk eYk hown' hgrow3; have hB3 := ((hB.alloc hbase (.cells #[.int .i64 x, .int .i64 y] 3)).alloc (by simp; omega) (.cells #[hd2 wr.heap.size] 23)).grown hgrow3 (by simp; omega) (fun q hq => (World.ownsRow.lt hown.row q hq).1); obtain ⟨sa, sc, rfl⟩ := hO3.shape; clear hown hown' hgrow3)
                exact ⟨⟨k + 1, _, _, _, _, by omega, rfl, rfl, rfl, NX.out.symm, NY.out.symm, by rw [NE.out]; omega, hO3, hB3⟩, by simp [lenOf]; omega⟩
            · by_cases c2 : 2 * e < ax
              · rw [if_neg c1, if_pos c2] at ne1
                rw [if_neg c1] at nx1
                rw [if_pos c2] at ny1
                have NX : Hid (lnX X1 Y1 x2 y2 (k + 1) = x) := nx1
                have NY : Hid (lnY X1 Y1 x2 y2 (k + 1) = y + 1) := ny1
                have NE : Hid ((pt ax ay (k + 1)).2.2 = e + 0 + ax) := ne1
                clear nx1 ny1 ne1
                go_wp2_with (at_builtin; refine wpList_append_own _ rfl _ _ 72 rfl w.heap.size 23 i0 (.slice none 0 0) 1 24 Try.underlying72 hi hz0 hz1 hz2 rfl (by decide) _ _ _ rfl (World.ownsRow.alloc (World.ownsRow.alloc hown.row _) _) ⟨wr.heap.size + 1, 0, none⟩ 1 1 [hd2 wr.heap.size] rfl rfl (cell_two_new _ _ _ _) (fun x hx => by simp at hx; subst hx; rfl) (by unfold maxLen; omega) (by omega) (by simp; omega) ?_; intro v' w3 hown' hgrow3 _; have hO3 := hown.step hbase eXk eYk hown' hgrow3; have hB3 := ((hB.alloc hbase (.cells #[.int .i64 x, .int .i64 y] 3)).alloc (by simp; omega) (.cells #[hd2 wr.heap.size] 23)).grown hgrow3 (by simp; omega) (fun q hq => (World.ownsRow.lt hown.row q hq).1); obtain ⟨sa, sc, rfl⟩ := hO3.shape; clear hown hown' hgrow3)
                exact ⟨⟨k + 1, _, _, _, _, by omega, rfl, rfl, rfl, NX.out.symm, NY.out.symm, by rw [NE.out]; omega, hO3, hB3⟩, by simp [lenOf]; omega⟩
              · rw [if_neg c1, if_neg c2] at ne1
                rw [if_neg c1] at nx1
                rw [if_neg c2] at ny1
                have NX : Hid (lnX X1 Y1 x2 y2 (k + 1) = x) := nx1
                have NY : Hid (lnY X1 Y1 x2 y2 (k + 1) = y) := ny1
                have NE : Hid ((pt ax ay (k + 1)).2.2 = e + 0 + 0) := ne1
                clear nx1 ny1 ne1
                go_wp2_with (at_builtin; refine wpList_append_own _ rfl _ _ 72 rfl w.heap.size 23 i0 (.slice none 0 0) 1 24 Try.underlying72 hi hz0 hz1 hz2 rfl (by decide) _ _ _ rfl (World.ownsRow.alloc (World.ownsRow.alloc hown.row _) _) ⟨wr.heap.size + 1, 0, none⟩ 1 1 [hd2 wr.heap.size] rfl rfl (cell_two_new _ _ _ _) (fun x hx => by simp at hx; subst hx; rfl) (by unfold maxLen; omega) (by omega) (by simp; omega) ?_; intro v' w3 hown' hgrow3 _; have hO3 := hown.step hbase eXk eYk hown' hgrow3; have hB3 := ((hB.alloc hbase (.cells #[.int .i64 x, .int .i64 y] 3)).alloc (by simp; omega) (.cells #[hd2 wr.heap.size] 23)).grown hgrow3 (by simp; omega) (fun q hq => (World.ownsRow.lt hown.row q hq).1); obtain ⟨sa, sc, rfl⟩ := hO3.shape; clear hown hown' hgrow3)
                exact ⟨⟨k + 1, _, _, _, _, by omega, rfl, rfl, rfl, NX.out.symm, NY.out.symm, by rw [NE.out]; omega, hO3, hB3⟩, by simp [lenOf]; omega⟩
          · have kx : (x == x2) = false := by simpa using hx2
            clear hx2 hno
            by_cases c1 : -ay < 2 * e
            · by_cases c2 : 2 * e < ax
              · rw [if_pos c1, if_pos c2] at ne1
                rw [if_pos c1] at nx1
                rw [if_pos c2] at ny1
                have NX : Hid (lnX X1 Y1 x2 y2 (k + 1) = x + 1) := nx1
                have NY : Hid (lnY X1 Y1 x2 y2 (k + 1) = y + 1) := ny1
                have NE : Hid ((pt ax ay (k + 1)).2.2 = e + -ay + ax) := ne1
                clear nx1 ny1 ne1
                go_wp2_with (at_builtin; refine wpList_append_own _ rfl _ _ 72 rfl w.heap.size 23 i0 (.slice none 0 0) 1 24 Try.underlying72 hi hz0 hz1 hz2 rfl (by decide) _ _ _ rfl (World.ownsRow.alloc (World.ownsRow.alloc hown.row _) _) ⟨wr.heap.size + 1, 0, none⟩ 1 1 [hd2 wr.heap.size] rfl rfl (cell_two_new _ _ _ _) (fun x hx => by simp at hx; subst hx; rfl) (by unfold maxLen; omega) (by omega) (by simp; omega) ?_; intro v' w3 hown' hgrow3 _; have hO3 := hown.step hbase eXk eYk hown' hgrow3; have hB3 := ((hB.alloc hbase (.cells #[.int .i64 x, .int .i64 y] 3)).alloc (by simp; omega) (.cells #[hd2 wr.heap.size] 23)).grown hgrow3 (by simp; omega) (fun q hq => (World.ownsRow.lt hown.row q hq).1); obtain ⟨sa, sc, rfl⟩ := hO3.shape; clear hown hown' hgrow3)
                exact ⟨⟨k + 1, _, _, _, _, by omega, rfl, rfl, rfl, NX.out.symm, NY.out.symm, by rw [NE.out]; omega, hO3, hB3⟩, by simp [lenOf]; omega⟩
              · rw [if_pos c1, if_neg c2] at ne1
                rw [if_pos c1] at nx1
                rw [if_neg c2] at ny1
                have NX : Hid (lnX X1 Y1 x2 y2 (k + 1) = x + 1) := nx1
                have NY : Hid (lnY X1 Y1 x2 y2 (k + 1) = y) := ny1
                have NE : Hid ((pt ax ay (k + 1)).2.2 = e + -ay + 0) := ne1
                clear nx1 ny1 ne1
                go_wp2_with (at_builtin; refine wpList_append_own _ rfl _ _ 72 rfl w.heap.size 23 i0 (.slice none 0 0) 1 24 Try.underlying72 hi hz0 hz1 hz2 rfl (by decide) _ _ _ rfl (World.ownsRow.alloc (World.ownsRow.alloc hown.row _) _) ⟨wr.heap.size + 1, 0, none⟩ 1 1 [hd2 wr.heap.size] rfl rfl (cell_two_new _ _ _ _) (fun x hx => by simp at hx; subst hx; rfl) (by unfold maxLen; omega) (by omega) (by simp; omega) ?_; intro v' w3 hown' hgrow3 _; have hO3 := hown.step hbase eXk eYk hown' hgrow3; have hB3 := ((hB.alloc hbase (.cells #[.int .i64 x, .int .i64 y] 3)).alloc (by simp; omega) (.cells #[hd2 wr.heap.size] 23)).grown hgrow3 (by simp; omega) (fun q hq => (World.ownsRow.lt hown.row q hq).1); obtain ⟨sa, sc, rfl⟩ := hO3.shape; clear hown hown' hgrow3)
                exact ⟨⟨k + 1, _, _, _, _, by omega, rfl, rfl, rfl, NX.out.symm, NY.out.symm, by rw [NE.out]; omega, hO3, hB3⟩, by simp [lenOf]; omega⟩
            · by_cases c2 : 2 * e < ax
              · rw [if_neg c1, if_pos c2] at ne1
                rw [if_neg c1] at nx1
                rw [if_pos c2] at ny1
                have NX : Hid (lnX X1 Y1 x2 y2 (k + 1) = x) := nx1
                have NY : Hid (lnY X1 Y1 x2 y2 (k + 1) = y + 1) := ny1
                have NE : Hid ((pt ax ay (k + 1)).2.2 = e + 0 + ax) := ne1
                clear nx1 ny1 ne1
                go_wp2_with (at_builtin; refine wpList_append_own _ rfl _ _ 72 rfl w.heap.size 23 i0 (.slice none 0 0) 1 24 Try.underlying72 hi hz0 hz1 hz2 rfl (by decide) _ _ _ rfl (World.ownsRow.alloc (World.ownsRow.alloc hown.row _) _) ⟨wr.heap.size + 1, 0, none⟩ 1 1 [hd2 wr.heap.size] rfl rfl (cell_two_new _ _ _ _) (fun x hx => by simp at hx; subst hx; rfl) (by unfold maxLen; omega) (by omega) (by simp; omega) ?_; intro v' w3 hown' hgrow3 _; have hO3 := hown.step hbase eXk eYk hown' hgrow3; have hB3 := ((hB.alloc hbase (.cells #[.int .i64 x, .int .i64 y] 3)).alloc (by simp; omega) (.cells #[hd2 wr.heap.size] 23)).grown hgrow3 (by simp; omega) (fun q hq => (World.ownsRow.lt hown.row q hq).1); obtain ⟨sa, sc, rfl⟩ := hO3.shape; clear hown hown' hgrow3)
                exact ⟨⟨k + 1, _, _, _, _, by omega, rfl, rfl, rfl, NX.out.symm, NY.out.symm, by rw [NE.out]; omega, hO3, hB3⟩, by simp [lenOf]; omega⟩
              · rw [if_neg c1, if_neg c2] at ne1
                rw [if_neg c1] at nx1
                rw [if_neg c2] at ny1
                have NX : Hid (lnX X1 Y1 x2 y2 (k + 1) = x) := nx1
                have NY : Hid (lnY X1 Y1 x2 y2 (k + 1) = y) := ny1
                have NE : Hid ((pt ax ay (k + 1)).2.2 = e + 0 + 0) := ne1
                clear nx1 ny1 ne1
                go_wp2_with (at_builtin; refine wpList_append_own _ rfl _ _ 72 rfl w.heap.size 23 i0 (.slice none 0 0) 1 24 Try.underlying72 hi hz0 hz1 hz2 rfl (by decide) _ _ _ rfl (World.ownsRow.alloc (World.ownsRow.alloc hown.row _) _) ⟨wr.heap.size + 1, 0, none⟩ 1 1 [hd2 wr.heap.size] rfl rfl (cell_two_new _ _ _ _) (fun x hx => by simp at hx; subst hx; rfl) (by unfold maxLen; omega) (by omega) (by simp; omega) ?_; intro v' w3 hown' hgrow3 _; have hO3 := hown.step hbase eXk eYk hown' hgrow3; have hB3 := ((hB.alloc hbase (.cells #[.int .i64 x, .int .i64 y] 3)).alloc (by simp; omega) (.cells #[hd2 wr.heap.size] 23)).grown hgrow3 (by simp; omega) (fun q hq => (World.ownsRow.lt hown.row q hq).1); obtain ⟨sa, sc, rfl⟩ := hO3.shape; clear hown hown' hgrow3)
                exact ⟨⟨k + 1, _, _, _, _, by omega, rfl, rfl, rfl, NX.out.symm, NY.out.symm, by rw [NE.out]; omega, hO3, hB3⟩, by simp [lenOf]; omega⟩
        · have hke : k = n := by omega
          subst hke
          obtain ⟨kx0, ky0⟩ := R.fin rfl
          have eXk := R.ex.symm
          have eYk := R.ey.symm
          have bx := R.bx
          clear R
          have kx : (x == x2) = true := by simpa using kx0
          have ky : (y == y2) = true := by simpa using ky0
          clear kx0 ky0
          go_wp2_with (at_builtin; refine wpList_append_own _ rfl _ _ 72 rfl w.heap.size 23 i0 (.slice none 0 0) 1 24 Try.underlying72 hi hz0 hz1 hz2 rfl (by decide) _ _ _ rfl (World.ownsRow.alloc (World.ownsRow.alloc hown.row _) _) ⟨wr.heap.size + 1, 0, none⟩ 1 1 [hd2 wr.heap.size] rfl rfl (cell_two_new _ _ _ _) (fun x hx => by simp at hx; subst hx; rfl) (by unfold maxLen; omega) (by omega) (by simp; omega) ?_; intro v' w3 hown' hgrow3 _; have hO3 := hown.step hbase eXk eYk hown' hgrow3; have hB3 := ((hB.alloc hbase (.cells #[.int .i64 x, .int .i64 y] 3)).alloc (by simp; omega) (.cells #[hd2 wr.heap.size] 23)).grown hgrow3 (by simp; omega) (fun q hq => (World.ownsRow.lt hown.row q hq).1); obtain ⟨sa, sc, rfl⟩ := hO3.shape; clear hown hown' hgrow3)
          go_ret
          exact ⟨ansP_own hO3 (Nat.le_refl _), hB3⟩

theorem specLine (x1 y1 x2 y2 : Int) (w : World) :
    Calls Try.prog 39 #[.int .i64 x1, .int .i64 y1, .int .i64 x2, .int .i64 y2] w fun e w' => AnsP w w' e (lnN x1 y1 x2 y2) (lnX x1 y1 x2 y2) (lnY x1 y1 x2 y2) ∧ Below w.heap.size w w' := by
  unfold lnN
  cases h : lnB x1 y1 x2 y2 with
  | false => exact (specLine_no x1 y1 x2 y2 w h).mono fun e w' ⟨h1, h2⟩ => ⟨by rw [h1]; exact ansP_nil _ _ _ _, by rw [h2]; exact Below.refl _ _⟩
  | true => exact specLine_yes x1 y1 x2 y2 w h
end Go.Proofs.Ytnoaonflphameaa
