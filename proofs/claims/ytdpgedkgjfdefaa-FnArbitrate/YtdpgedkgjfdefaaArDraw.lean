/- What DrawArbitrate draws: a list of at most seven ints. -/
import Derived.Test.YtdpgedkgjfdefaaCurPick
import Derived.Test.YtdpgedkgjfdefaaCurNew
namespace Go.Proofs.Ytdpgedkgjfdefaa
open Go.RowKit
def AnsAd (w w' : World) (e : Ending) : Prop := ∃ (a' : Option Addr) (k c' : Nat) (F : Nat → Int), e = .returned (.slice a' k c') ∧ k ≤ 7 ∧ IL w' a' k F ∧ Below w.heap.size w w'
theorem seven_in (i : Nat) (h : i < 3) : 0 ≤ List.getD [0, 6, 7] i (0 : Int) ∧ List.getD [0, 6, 7] i (0 : Int) ≤ 7 := by
  have : ∀ i : Fin 3, 0 ≤ List.getD [0, 6, 7] i.1 (0 : Int) ∧ List.getD [0, 6, 7] i.1 (0 : Int) ≤ 7 := by decide
  exact this ⟨i, h⟩
set_option maxHeartbeats 4000000 in
theorem drawArb (a : Option Addr) (len cap : Nat) (w : World) (hl : len ≤ 1048576) (hb : 0 < len → ∃ b off, a = some ⟨b, off, none⟩ ∧ b < w.heap.size ∧ ∀ i, i < len → ∃ v : Int, w.cell? ⟨b, off + i, none⟩ = some (.int .u8 v) ∧ 0 ≤ v ∧ v ≤ 255) :
    Calls Try.prog 9 #[.slice a len cap] w fun e w' => AnsAd w w' e := by
  obtain ⟨i0, hi, hzz⟩ := Option.map_eq_some_iff.1 infoI
  simp only [Prod.mk.injEq] at hzz
  obtain ⟨hz0, hz1, hz2⟩ := hzz
  have hc0 := cur_new w a len cap hl hb
  have hB0 : Below w.heap.size w (w.alloc (.cells #[.slice a len cap, .int .i64 0, .int .u64 0] 39)) := (Below.refl _ _).alloc (Nat.le_refl _) _
  clear hb
  go_enter Try.func9, Try.ntmps9
  go_wp2_with fail
  refine (pick_any w.heap.size a len cap _ _ _ hc0 (by omega)).mono ?_
  rintro e w1 ⟨r1, n1, rfl, p1, q1, -, m1, hc1, hO1⟩
  have hB1 := hB0.trans hO1.below
  clear hc0 hB0 hO1
  have q1 := q1 (by omega)
  go_wp2_with fail
  refine (one_any w.heap.size a len cap _ _ _ hc1 (by omega)).mono ?_
  rintro e w2 ⟨b2, n2, rfl, m2, hc2, hO2⟩
  have hB2 := hB1.trans hO2.below
  clear hc1 hB1 hO2
  cases b2 with
  | false =>
    go_wp2_with fail
    go_loopw [4, 5] (fun v i wr => ∃ (k r m : Nat) (F : Nat → Int), k + r ≤ 7 ∧ i = .int .i64 r ∧ m ≤ 20 + 8 * k ∧ Own wr (w.heap.size + 1) v k F ∧ Cur wr w.heap.size a len cap m ∧ Below w.heap.size w wr) (fun _ i _ => (intOf i).toNat)
    case atStart => exact ⟨0, (1 + r1).toNat, n2, fun _ => 0, by omega, by congr 1; omega, by omega, World.ownsRow_nil _ _ _ _, hc2, hB2⟩
    case round =>
      obtain ⟨k, r, m, F, hk, rfl, hm, hown, hcur, hB⟩ := hrel
      clear hc2 hB2
      by_cases hr : 0 < r
      · have j1 : (0 : Int) < (r : Int) := by omega
        go_wp2_with fail
        refine (pick_any w.heap.size a len cap _ _ _ hcur (by omega)).mono ?_
        rintro e w11 ⟨r11, n11, rfl, p11, q11, -, m11, hc11, hO11⟩
        have hB11 := hB.trans hO11.below
        have ho11 := hown.only hO11 (Nat.lt_succ_self _)
        clear hcur hB hO11 hown
        go_wp2_with fail
        refine (one_any w.heap.size a len cap _ _ _ hc11 (by omega)).mono ?_
        rintro e w12 ⟨b12, n12, rfl, m12, hc12, hO12⟩
        have hB12 := hB11.trans hO12.below
        have ho12 := ho11.only hO12 (Nat.lt_succ_self _)
        clear hc11 hB11 hO12 ho11
        cases b12 with
        | true =>
          go_wp2_with fail
          refine (pick_any w.heap.size a len cap _ _ _ hc12 (by omega)).mono ?_
          rintro e w13 ⟨r13, n13, rfl, p13, q13, -, m13, hc13, hO13⟩
          have hB13 := hB12.trans hO13.below
          have ho13 := ho12.only hO13 (Nat.lt_succ_self _)
          clear hc12 hB12 hO13 ho12
          go_wp2_with fail
          refine (one_any w.heap.size a len cap _ _ _ hc13 (by omega)).mono ?_
          rintro e w14 ⟨b14, n14, rfl, m14, hc14, hO14⟩
          have hB14 := hB13.trans hO14.below
          have ho14 := ho13.only hO14 (Nat.lt_succ_self _)
          clear hc13 hB13 hO14 ho13
          cases b14 with
          | true =>
            have hbase : w.heap.size + 1 ≤ w14.heap.size := hc14.lt
            go_wp2_with (at_builtin; refine wpList_append_own _ rfl _ _ 24 rfl (w.heap.size + 1) 3 i0 (.int .i64 0) 1 8 Try.underlying24 hi hz0 hz1 hz2 rfl (by decide) _ _ _ rfl (World.ownsRow.alloc ho14 _) ⟨w14.heap.size, 0, none⟩ 1 1 [.int .i64 (-1)] rfl rfl (cell_one_new _ _ _) (fun y hy => by simp at hy; subst hy; rfl) (by unfold maxLen; omega) (by omega) (by simp; omega) ?_; intro v' w3 hown' hgrow3 _)
            have hB3 := ((Below.refl (w.heap.size + 1) w14).alloc hbase (.cells #[.int .i64 (-1)] 3)).grown hgrow3 (by simp; omega) (fun z hz => (World.ownsRow.lt ho14 z hz).1)
            have hcur3 := hc14.below hB3 (Nat.lt_succ_self _)
            have hB5 := hB14.trans (hB3.mono (Nat.le_succ _))
            have hown3 : Own w3 (w.heap.size + 1) v' (k + 1) (put F k (-1)) := own_put hown'
            clear hB3 hc14 hB14 ho14 hown' hgrow3
            go_wp2
            exact ⟨⟨k + 1, r - 1, n14, _, by omega, by congr 1; omega, by omega, hown3, hcur3, hB5⟩, by simp [intOf]; omega⟩
          | false =>
            have hbase : w.heap.size + 1 ≤ w14.heap.size := hc14.lt
            go_wp2_with (at_builtin; refine wpList_append_own _ rfl _ _ 24 rfl (w.heap.size + 1) 3 i0 (.int .i64 0) 1 8 Try.underlying24 hi hz0 hz1 hz2 rfl (by decide) _ _ _ rfl (World.ownsRow.alloc ho14 _) ⟨w14.heap.size, 0, none⟩ 1 1 [.int .i64 r13] rfl rfl (cell_one_new _ _ _) (fun y hy => by simp at hy; subst hy; rfl) (by unfold maxLen; omega) (by omega) (by simp; omega) ?_; intro v' w3 hown' hgrow3 _)
            have hB3 := ((Below.refl (w.heap.size + 1) w14).alloc hbase (.cells #[.int .i64 r13] 3)).grown hgrow3 (by simp; omega) (fun z hz => (World.ownsRow.lt ho14 z hz).1)
            have hcur3 := hc14.below hB3 (Nat.lt_succ_self _)
            have hB5 := hB14.trans (hB3.mono (Nat.le_succ _))
            have hown3 : Own w3 (w.heap.size + 1) v' (k + 1) (put F k r13) := own_put hown'
            clear hB3 hc14 hB14 ho14 hown' hgrow3
            go_wp2
            exact ⟨⟨k + 1, r - 1, n14, _, by omega, by congr 1; omega, by omega, hown3, hcur3, hB5⟩, by simp [intOf]; omega⟩
        | false =>
          go_wp2_with fail
          refine (one_any w.heap.size a len cap _ _ _ hc12 (by omega)).mono ?_
          rintro e w14 ⟨b14, n14, rfl, m14, hc14, hO14⟩
          have hB14 := hB12.trans hO14.below
          have ho14 := ho12.only hO14 (Nat.lt_succ_self _)
          clear hc12 hB12 hO14 ho12
          cases b14 with
          | true =>
            have hbase : w.heap.size + 1 ≤ w14.heap.size := hc14.lt
            go_wp2_with (at_builtin; refine wpList_append_own _ rfl _ _ 24 rfl (w.heap.size + 1) 3 i0 (.int .i64 0) 1 8 Try.underlying24 hi hz0 hz1 hz2 rfl (by decide) _ _ _ rfl (World.ownsRow.alloc ho14 _) ⟨w14.heap.size, 0, none⟩ 1 1 [.int .i64 (-1)] rfl rfl (cell_one_new _ _ _) (fun y hy => by simp at hy; subst hy; rfl) (by unfold maxLen; omega) (by omega) (by simp; omega) ?_; intro v' w3 hown' hgrow3 _)
            have hB3 := ((Below.refl (w.heap.size + 1) w14).alloc hbase (.cells #[.int .i64 (-1)] 3)).grown hgrow3 (by simp; omega) (fun z hz => (World.ownsRow.lt ho14 z hz).1)
            have hcur3 := hc14.below hB3 (Nat.lt_succ_self _)
            have hB5 := hB14.trans (hB3.mono (Nat.le_succ _))
            have hown3 : Own w3 (w.heap.size + 1) v' (k + 1) (put F k (-1)) := own_put hown'
            clear hB3 hc14 hB14 ho14 hown' hgrow3
            go_wp2
            exact ⟨⟨k + 1, r - 1, n14, _, by omega, by congr 1; omega, by omega, hown3, hcur3, hB5⟩, by simp [intOf]; omega⟩
          | false =>
            have hbase : w.heap.size + 1 ≤ w14.heap.size := hc14.lt
            go_wp2_with (at_builtin; refine wpList_append_own _ rfl _ _ 24 rfl (w.heap.size + 1) 3 i0 (.int .i64 0) 1 8 Try.underlying24 hi hz0 hz1 hz2 rfl (by decide) _ _ _ rfl (World.ownsRow.alloc ho14 _) ⟨w14.heap.size, 0, none⟩ 1 1 [.int .i64 r11] rfl rfl (cell_one_new _ _ _) (fun y hy => by simp at hy; subst hy; rfl) (by unfold maxLen; omega) (by omega) (by simp; omega) ?_; intro v' w3 hown' hgrow3 _)
            have hB3 := ((Below.refl (w.heap.size + 1) w14).alloc hbase (.cells #[.int .i64 r11] 3)).grown hgrow3 (by simp; omega) (fun z hz => (World.ownsRow.lt ho14 z hz).1)
            have hcur3 := hc14.below hB3 (Nat.lt_succ_self _)
            have hB5 := hB14.trans (hB3.mono (Nat.le_succ _))
            have hown3 : Own w3 (w.heap.size + 1) v' (k + 1) (put F k r11) := own_put hown'
            clear hB3 hc14 hB14 ho14 hown' hgrow3
            go_wp2
            exact ⟨⟨k + 1, r - 1, n14, _, by omega, by congr 1; omega, by omega, hown3, hcur3, hB5⟩, by simp [intOf]; omega⟩
      · have j1 : ¬ (0 : Int) < (r : Int) := by omega
        obtain ⟨v0, vc, rfl⟩ := hown.shape
        go_wp2
        go_ret
        exact ⟨_, k, _, F, rfl, by omega, hown.il, hB⟩
  | true =>
    have hL := lit_ip w2 [0, 6, 7] 3
    have hc3 := hc2.below ((Below.refl w2.heap.size w2).alloc (Nat.le_refl _) (.cells ([0, 6, 7].map (Value.int .i64)).toArray 3)) hc2.lt
    have hne : w2.heap.size ≠ w.heap.size := Nat.ne_of_gt hc2.lt
    have hB3 : Below w.heap.size w (w2.alloc (.cells ([0, 6, 7].map (Value.int .i64)).toArray 3)) := hB2.alloc hB2.size _
    clear hc2 hB2
    go_wp2_with fail
    refine (among_any w.heap.size a len cap n2 w2.heap.size 3 _ _ _ hc3 (by omega) hL hne (by omega) (by omega)).mono ?_
    rintro e w4 ⟨i, n4, hi4, rfl, m4, hc4, hO4⟩
    have hB4 := hB3.trans hO4.below
    have hv := seven_in i hi4
    generalize List.getD [0, 6, 7] i (0 : Int) = s at *
    clear hc3 hL hB3 hO4
    go_wp2_with fail
    go_loopw [4, 5] (fun v i wr => ∃ (k r m : Nat) (F : Nat → Int), k + r ≤ 7 ∧ i = .int .i64 r ∧ m ≤ 20 + 8 * k ∧ Own wr (w.heap.size + 1) v k F ∧ Cur wr w.heap.size a len cap m ∧ Below w.heap.size w wr) (fun _ i _ => (intOf i).toNat)
    case atStart => exact ⟨0, s.toNat, n4, fun _ => 0, by omega, by congr 1; omega, by omega, World.ownsRow_nil _ _ _ _, hc4, hB4⟩
    case round =>
      obtain ⟨k, r, m, F, hk, rfl, hm, hown, hcur, hB⟩ := hrel
      clear hc4 hB4
      by_cases hr : 0 < r
      · have j1 : (0 : Int) < (r : Int) := by omega
        go_wp2_with fail
        refine (pick_any w.heap.size a len cap _ _ _ hcur (by omega)).mono ?_
        rintro e w11 ⟨r11, n11, rfl, p11, q11, -, m11, hc11, hO11⟩
        have hB11 := hB.trans hO11.below
        have ho11 := hown.only hO11 (Nat.lt_succ_self _)
        clear hcur hB hO11 hown
        go_wp2_with fail
        refine (one_any w.heap.size a len cap _ _ _ hc11 (by omega)).mono ?_
        rintro e w12 ⟨b12, n12, rfl, m12, hc12, hO12⟩
        have hB12 := hB11.trans hO12.below
        have ho12 := ho11.only hO12 (Nat.lt_succ_self _)
        clear hc11 hB11 hO12 ho11
        cases b12 with
        | true =>
          go_wp2_with fail
          refine (pick_any w.heap.size a len cap _ _ _ hc12 (by omega)).mono ?_
          rintro e w13 ⟨r13, n13, rfl, p13, q13, -, m13, hc13, hO13⟩
          have hB13 := hB12.trans hO13.below
          have ho13 := ho12.only hO13 (Nat.lt_succ_self _)
          clear hc12 hB12 hO13 ho12
          go_wp2_with fail
          refine (one_any w.heap.size a len cap _ _ _ hc13 (by omega)).mono ?_
          rintro e w14 ⟨b14, n14, rfl, m14, hc14, hO14⟩
          have hB14 := hB13.trans hO14.below
          have ho14 := ho13.only hO14 (Nat.lt_succ_self _)
          clear hc13 hB13 hO14 ho13
          cases b14 with
          | true =>
            have hbase : w.heap.size + 1 ≤ w14.heap.size := hc14.lt
            go_wp2_with (at_builtin; refine wpList_append_own _ rfl _ _ 24 rfl (w.heap.size + 1) 3 i0 (.int .i64 0) 1 8 Try.underlying24 hi hz0 hz1 hz2 rfl (by decide) _ _ _ rfl (World.ownsRow.alloc ho14 _) ⟨w14.heap.size, 0, none⟩ 1 1 [.int .i64 (-1)] rfl rfl (cell_one_new _ _ _) (fun y hy => by simp at hy; subst hy; rfl) (by unfold maxLen; omega) (by omega) (by simp; omega) ?_; intro v' w3 hown' hgrow3 _)
            have hB3 := ((Below.refl (w.heap.size + 1) w14).alloc hbase (.cells #[.int .i64 (-1)] 3)).grown hgrow3 (by simp; omega) (fun z hz => (World.ownsRow.lt ho14 z hz).1)
            have hcur3 := hc14.below hB3 (Nat.lt_succ_self _)
            have hB5 := hB14.trans (hB3.mono (Nat.le_succ _))
            have hown3 : Own w3 (w.heap.size + 1) v' (k + 1) (put F k (-1)) := own_put hown'
            clear hB3 hc14 hB14 ho14 hown' hgrow3
            go_wp2
            exact ⟨⟨k + 1, r - 1, n14, _, by omega, by congr 1; omega, by omega, hown3, hcur3, hB5⟩, by simp [intOf]; omega⟩
          | false =>
            have hbase : w.heap.size + 1 ≤ w14.heap.size := hc14.lt
            go_wp2_with (at_builtin; refine wpList_append_own _ rfl _ _ 24 rfl (w.heap.size + 1) 3 i0 (.int .i64 0) 1 8 Try.underlying24 hi hz0 hz1 hz2 rfl (by decide) _ _ _ rfl (World.ownsRow.alloc ho14 _) ⟨w14.heap.size, 0, none⟩ 1 1 [.int .i64 r13] rfl rfl (cell_one_new _ _ _) (fun y hy => by simp at hy; subst hy; rfl) (by unfold maxLen; omega) (by omega) (by simp; omega) ?_; intro v' w3 hown' hgrow3 _)
            have hB3 := ((Below.refl (w.heap.size + 1) w14).alloc hbase (.cells #[.int .i64 r13] 3)).grown hgrow3 (by simp; omega) (fun z hz => (World.ownsRow.lt ho14 z hz).1)
            have hcur3 := hc14.below hB3 (Nat.lt_succ_self _)
            have hB5 := hB14.trans (hB3.mono (Nat.le_succ _))
            have hown3 : Own w3 (w.heap.size + 1) v' (k + 1) (put F k r13) := own_put hown'
            clear hB3 hc14 hB14 ho14 hown' hgrow3
            go_wp2
            exact ⟨⟨k + 1, r - 1, n14, _, by omega, by congr 1; omega, by omega, hown3, hcur3, hB5⟩, by simp [intOf]; omega⟩
        | false =>
          go_wp2_with fail
          refine (one_any w.heap.size a len cap _ _ _ hc12 (by omega)).mono ?_
          rintro e w14 ⟨b14, n14, rfl, m14, hc14, hO14⟩
          have hB14 := hB12.trans hO14.below
          have ho14 := ho12.only hO14 (Nat.lt_succ_self _)
          clear hc12 hB12 hO14 ho12
          cases b14 with
          | true =>
            have hbase : w.heap.size + 1 ≤ w14.heap.size := hc14.lt
            go_wp2_with (at_builtin; refine wpList_append_own _ rfl _ _ 24 rfl (w.heap.size + 1) 3 i0 (.int .i64 0) 1 8 Try.underlying24 hi hz0 hz1 hz2 rfl (by decide) _ _ _ rfl (World.ownsRow.alloc ho14 _) ⟨w14.heap.size, 0, none⟩ 1 1 [.int .i64 (-1)] rfl rfl (cell_one_new _ _ _) (fun y hy => by simp at hy; subst hy; rfl) (by unfold maxLen; omega) (by omega) (by simp; omega) ?_; intro v' w3 hown' hgrow3 _)
            have hB3 := ((Below.refl (w.heap.size + 1) w14).alloc hbase (.cells #[.int .i64 (-1)] 3)).grown hgrow3 (by simp; omega) (fun z hz => (World.ownsRow.lt ho14 z hz).1)
            have hcur3 := hc14.below hB3 (Nat.lt_succ_self _)
            have hB5 := hB14.trans (hB3.mono (Nat.le_succ _))
            have hown3 : Own w3 (w.heap.size + 1) v' (k + 1) (put F k (-1)) := own_put hown'
            clear hB3 hc14 hB14 ho14 hown' hgrow3
            go_wp2
            exact ⟨⟨k + 1, r - 1, n14, _, by omega, by congr 1; omega, by omega, hown3, hcur3, hB5⟩, by simp [intOf]; omega⟩
          | false =>
            have hbase : w.heap.size + 1 ≤ w14.heap.size := hc14.lt
            go_wp2_with (at_builtin; refine wpList_append_own _ rfl _ _ 24 rfl (w.heap.size + 1) 3 i0 (.int .i64 0) 1 8 Try.underlying24 hi hz0 hz1 hz2 rfl (by decide) _ _ _ rfl (World.ownsRow.alloc ho14 _) ⟨w14.heap.size, 0, none⟩ 1 1 [.int .i64 r11] rfl rfl (cell_one_new _ _ _) (fun y hy => by simp at hy; subst hy; rfl) (by unfold maxLen; omega) (by omega) (by simp; omega) ?_; intro v' w3 hown' hgrow3 _)
            have hB3 := ((Below.refl (w.heap.size + 1) w14).alloc hbase (.cells #[.int .i64 r11] 3)).grown hgrow3 (by simp; omega) (fun z hz => (World.ownsRow.lt ho14 z hz).1)
            have hcur3 := hc14.below hB3 (Nat.lt_succ_self _)
            have hB5 := hB14.trans (hB3.mono (Nat.le_succ _))
            have hown3 : Own w3 (w.heap.size + 1) v' (k + 1) (put F k r11) := own_put hown'
            clear hB3 hc14 hB14 ho14 hown' hgrow3
            go_wp2
            exact ⟨⟨k + 1, r - 1, n14, _, by omega, by congr 1; omega, by omega, hown3, hcur3, hB5⟩, by simp [intOf]; omega⟩
      · have j1 : ¬ (0 : Int) < (r : Int) := by omega
        obtain ⟨v0, vc, rfl⟩ := hown.shape
        go_wp2
        go_ret
        exact ⟨_, k, _, F, rfl, by omega, hown.il, hB⟩
end Go.Proofs.Ytdpgedkgjfdefaa
