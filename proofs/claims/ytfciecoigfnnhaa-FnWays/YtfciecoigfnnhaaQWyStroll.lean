/- What FnWays draws: a stroll. -/
import Derived.Test.YtfciecoigfnnhaaQPlTn
import Derived.Test.YtfciecoigfnnhaaQWyCmp
import Derived.Test.YtfciecoigfnnhaaQWyStep
import Derived.Test.YtfciecoigfnnhaaQWyEnds
namespace Go.Proofs.Ytfciecoigfnnhaa
open Go.RowKit

theorem own_first (w : World) (base : Nat) (x : Int) (h : base ≤ w.heap.size) : Own (w.alloc (.cells #[.int .i64 x] 3)) base (.slice (some ⟨w.heap.size, 0, none⟩) 1 1) [x].length (gl [x]) :=
  World.ownsRow_lit w #[.int .i64 x] 1 h (by unfold maxLen; omega) rfl
/-- what stands while one strolls -/
structure Stl (w wr : World) (C : Nat) (a : Option Addr) (len cap n M B : Nat) (W : Int) (x o N d : Nat) (f : Nat → Int) : Prop where
  cur : Cur wr C a len cap n
  m : Bx wr M [.int .i64 W, .slice (some ⟨x, o, none⟩) N d]
  il : IL wr (some ⟨x, o, none⟩) N f
  t : Turns C (C + 1) w wr
  le : B ≤ wr.heap.size
section
variable {w wr wy : World} {C : Nat} {a : Option Addr} {len cap n n' M B : Nat} {W : Int} {x o N d : Nat} {f : Nat → Int}
theorem Stl.step (h : Stl w wr C a len cap n M B W x o N d f) (hc : Cur wy C a len cap n') (k : Only C wr wy) (hh : C < M ∧ M < B ∧ x < C ∧ w.heap.size ≤ B) : Stl w wy C a len cap n' M B W x o N d f :=
  ⟨hc, h.m.turns (on_turns k) (.inr (by omega)), fun h0 => by
    obtain ⟨b, off, e, hl, hcc⟩ := h.il h0
    cases e
    exact ⟨x, o, rfl, by rw [k.size]; exact hl, fun i hi => (cell_same (k.block x (by omega)) _).trans (hcc i hi)⟩, h.t.trans (on_turns k), by rw [k.size]; exact h.le⟩
theorem Stl.bel (h : Stl w wr C a len cap n M B W x o N d f) (k : Below B wr wy) (hh : C < M ∧ M < B ∧ x < C ∧ w.heap.size ≤ B) : Stl w wy C a len cap n M B W x o N d f :=
  ⟨h.cur.below k (by omega), h.m.below k (by omega), fun h0 => by
    obtain ⟨b, off, e, hl, hcc⟩ := h.il h0
    cases e
    exact ⟨x, o, rfl, Nat.lt_of_lt_of_le hl k.size, fun i hi => (cell_same (k.block x (by omega)) _).trans (hcc i hi)⟩, turns_below h.t k (by omega), Nat.le_trans h.le k.size⟩
theorem Stl.on (h : Stl w wr C a len cap n M B W x o N d f) (k : Below wr.heap.size wr wy) (hh : C < M ∧ M < B ∧ x < C ∧ w.heap.size ≤ B) : Stl w wy C a len cap n M B W x o N d f := h.bel (k.mono h.le) hh
end
theorem pl_in {f : Nat → Int} {k : Nat} {v : Int} (h : v ∈ pl f k) : 0 ≤ v ∧ v < (k : Int) := by
  induction k with
  | zero => simp [pl] at h
  | succ k ih =>
    unfold pl at h
    split at h
    · simp only [List.mem_append, List.mem_singleton] at h
      rcases h with h | h
      · have := ih h; omega
      · omega
    · have := ih h; omega
theorem apl_in {W : Int} {n : Nat} {f : Nat → Int} {v : Int} (h : v ∈ apl W n f) : (0 ≤ v ∧ v < (n : Int)) ∧ sizedB W n = true := by
  unfold apl at h
  split at h
  · next hc => exact ⟨pl_in h, (celB_parts hc).1⟩
  · cases h
theorem gl_mem {l : List Int} {i : Nat} (h : i < l.length) : gl l i ∈ l := by
  unfold gl
  rw [List.getD_eq_getElem?_getD, List.getElem?_eq_getElem h]
  exact List.getElem_mem h
theorem ar_in {W : Int} {n : Nat} {a v : Int} {k : Nat} (hs : sizedB W n = true) (h : v ∈ arK W n a k) : 0 ≤ v ∧ v < (n : Int) := by
  obtain ⟨p, _, h2, h3⟩ := mem_arK.1 h
  have := arV_in hs h2
  omega

theorem own_room {w : World} {base : Nat} {a : Option Addr} {k c : Nat} {F : Nat → Int} (h : Own w base (.slice a k c) k F) : k ≤ c := by
  obtain ⟨_, ⟨e, h2⟩ | ⟨g, cap, cur, e1, _, _, h4, _⟩⟩ := h
  · omega
  · injection e1 with _ _ e3
    omega
def AnsSt (w' : World) (e : Ending) : Prop := ∃ b m d g, e = .returned (.slice b m d) ∧ m ≤ 1048576 ∧ m ≤ d ∧ IL w' b m g
set_option maxRecDepth 20000 in
set_option maxHeartbeats 8000000 in
theorem stroll_any (C : Nat) (a : Option Addr) (len cap n : Nat) (W : Int) (q : Option Addr) (N d : Nat) (f : Nat → Int) (w : World) (h : Cur w C a len cap n) (hn : n ≤ 900000) (hN : N ≤ 1048576) (hf : IL w q N f) (hq : 0 < N → ∃ x o, q = some ⟨x, o, none⟩ ∧ x < C) :
    Calls Try.prog 39 #[.pointer (some ⟨C, 0, none⟩), cel W q N d] w fun e w' => AnsSt w' e ∧ Turns C (C + 1) w w' := by
  obtain ⟨i0, hi, hzz⟩ := Option.map_eq_some_iff.1 infoI
  simp only [Prod.mk.injEq] at hzz
  obtain ⟨hz0, hz1, hz2⟩ := hzz
  have hb0 : Below w.heap.size w (w.alloc (celO W q N d 25)) := (Below.refl _ _).alloc (Nat.le_refl _) _
  have b0 := bx_new (w := w) (celL W q N d) 25 rfl
  have hAll := specAll W q N d f (w.alloc (celO W q N d 25)) (by omega) (hf.below hb0)
  have hLl : (apl W N f).length ≤ 256 := apl_len W N f
  have hIn : Hid (∀ v ∈ apl W N f, (0 ≤ v ∧ v < (N : Int)) ∧ sizedB W N = true) := fun v hv => apl_in hv
  generalize apl W N f = P at hAll hLl hIn
  have hC := h.lt
  go_enter Try.func39, Try.ntmps39
  go_wp2_with fail
  refine hAll.mono ?_
  rintro e w2 ⟨⟨a2, c2, rfl, hA2⟩, hb2⟩
  have hB2 := stepA hb0 hb2
  have b2 := b0.on hb2
  have hc2 := h.below hB2 h.lt
  have hf2 := hf.below hB2
  have hs2 : w.heap.size + 1 ≤ w2.heap.size := by have := hb2.size; simpa using this
  clear hAll hb0 hb2 b0 h hf
  rw [size_al] at hA2
  by_cases hz : P.length = 0
  · have j0 : ((P.length : Nat) : Int) = 0 := by omega
    go_wp2_with fail
    go_ret
    exact ⟨⟨none, 0, 0, fun _ => 0, rfl, by omega, Nat.le_refl _, fun h9 => absurd h9 (Nat.lt_irrefl _)⟩, turns_of hB2⟩
  have hP0 : 0 < P.length := Nat.pos_of_ne_zero hz
  have j0 : ¬ ((P.length : Nat) : Int) = 0 := by omega
  have hN0 : 0 < N := by have := (hIn.out (gl P 0) (gl_mem hP0)).1; omega
  have hsz : sizedB W N = true := (hIn.out (gl P 0) (gl_mem hP0)).2
  have hNs := sized_le hsz
  obtain ⟨x, o, rfl, hx⟩ := hq hN0
  obtain ⟨pb, rfl, hp0, hp1, hPP⟩ := hA2 hP0
  go_wp2_with fail
  refine (pick_any C a len cap n (P.length : Int) _ hc2 (by omega)).mono ?_
  rintro e w3 ⟨p3, n3, rfl, h30, h31, h32, hn3, hc3, hO3⟩
  have h31 := h31 (by omega)
  obtain ⟨B, hBe⟩ : ∃ B, B = w2.heap.size := ⟨_, rfl⟩
  have hh : C < w.heap.size ∧ w.heap.size < B ∧ x < C ∧ w.heap.size ≤ B := ⟨hC, by omega, hx, by omega⟩
  have S2 : Stl w w2 C a len cap n w.heap.size B W x o N d f := ⟨hc2, b2, hf2, turns_of hB2, by omega⟩
  have S3 := S2.step hc3 hO3 hh
  have hi3 : w3.cell? ⟨pb, p3.toNat, none⟩ = some (.int .i64 (gl P p3.toNat)) := (cell_same (hO3.block pb (by omega)) _).trans (hPP.c p3.toNat (by omega))
  have q0 : ¬ p3 < 0 := by omega
  have q1 : ¬ (P.length : Int) ≤ p3 := by omega
  obtain ⟨at0, hat0⟩ : ∃ v, v = gl P p3.toNat := ⟨_, rfl⟩
  have hat : 0 ≤ at0 ∧ at0 < (N : Int) := by rw [hat0]; exact (hIn.out _ (gl_mem (by omega))).1
  rw [← hat0] at hi3
  have le3 := S3.le
  have o3 := own_first w3 B at0 le3
  have S4 := S3.on ((Below.refl w3.heap.size w3).alloc (Nat.le_refl _) (.cells #[.int .i64 at0] 3)) hh
  clear hIn S2 hBe hPP hA2 hc2 b2 hf2 hB2 hO3 hc3 S3 hat0
  go_wp2_with fail
  refine (pick_any C a len cap n3 12 _ S4.cur (by omega)).mono ?_
  rintro e w5 ⟨k5, n5, rfl, h50, h51, h52, hn5, hc5, hO5⟩
  have h51 := h51 (by omega)
  have S5 := S4.step hc5 hO5 hh
  have o5 := own_turns o3 (on_turns hO5) (by omega)
  obtain ⟨kk, hkk⟩ : ∃ kk : Nat, k5 = (kk : Int) := ⟨k5.toNat, by omega⟩
  subst hkk
  clear S4 o3 hO5 hc5 hi3 q0 q1 j0
  go_wp2_with fail
  have hs5 : n5 ≤ 900010 := by omega
  have hk5 : kk ≤ 12 := by omega
  clear hq hP0 hz hLl h50 h52 h32 hn3 hn5 h30 h31 h51
  go_loopw [6, 7, 8] (fun s6 s7 s8 wr => ∃ (z : Int) (l : List Int) (k n6 : Nat), s6 = .int .i64 z ∧ s8 = .int .i64 k ∧ k ≤ 12 ∧ (0 ≤ z ∧ z < (N : Int)) ∧ l.length + k ≤ 14 ∧ n6 + 2 * k ≤ 900100 ∧ Stl w wr C a len cap n6 w.heap.size B W x o N d f ∧ Own wr B s7 l.length (gl l)) (fun _ _ s8 _ => (intOf s8).toNat)
  case atStart => exact ⟨at0, [at0], kk, n5, rfl, rfl, by omega, hat, by simp; omega, by omega, S5, o5⟩
  case round =>
    clear S5 o5 hat
    obtain ⟨z, l, k, n6, rfl, rfl, hk12, hz, hlk, hn6, S, ow⟩ := hrel
    have sle := S.le
    obtain ⟨sa, sc, rfl⟩ := ow.shape
    by_cases hk0 : k = 0
    · subst hk0
      have j0 : ¬ (0 : Int) < ((0 : Nat) : Int) := by omega
      go_wp2_with fail
      refine (one_any C a len cap n6 _ _ S.cur (by omega)).mono ?_
      rintro e wu ⟨u, nu, rfl, hnu, hcu, hOu⟩
      have Su := S.step hcu hOu hh
      have ou := own_turns ow (on_turns hOu) (by omega)
      have du := Su.m.c1
      have leu := Su.le
      cases u with
      | true =>
        go_wp2_with fail
        refine (pick_any C a len cap nu _ _ Su.cur (by omega)).mono ?_
        rintro e wv ⟨pv, nv, rfl, hv0, -, hv2, hnv, hcv, hOv⟩
        have Sv := Su.step hcv hOv hh
        have ov := own_turns ou (on_turns hOv) (by omega)
        have lev := Sv.le
        clear du
        go_wp2_with (at_builtin; refine wpList_append_own _ rfl _ _ 23 rfl (B) 3 i0 (.int .i64 0) 1 8 Try.underlying23 hi hz0 hz1 hz2 rfl (by decide) _ _ _ rfl (World.ownsRow.alloc ov _) ⟨wv.heap.size, 0, none⟩ 1 1 [.int .i64 (pv)] rfl rfl (cell_one_new _ _ _) (fun x hx => by simp at hx; subst hx; rfl) (by unfold maxLen; omega) (by omega) (by simp; omega) ?_; intro v' w6 hown' hgrow3 _)
        have hB6 : Below B wv w6 := ((Below.refl B wv).alloc lev (.cells #[.int .i64 pv] 3)).grown hgrow3 (by simp; omega) (fun q hq => (World.ownsRow.lt ov q hq).1)
        have o6 := own_snoc hown'
        obtain ⟨ta, tc, rfl⟩ := o6.shape
        go_ret
        exact ⟨⟨ta, _, tc, _, rfl, by simp; omega, own_room o6, o6.lq.il⟩, turns_below Sv.t hB6 (by omega)⟩
      | false =>
        go_wp2
        go_ret
        exact ⟨⟨_, _, _, _, rfl, by omega, own_room ou, ou.lq.il⟩, Su.t⟩
    · have j0 : (0 : Int) < (k : Int) := by omega
      have c0 := S.m.c0
      have c1 := S.m.c1
      obtain ⟨w8, hw8⟩ : ∃ w8, w8 = wr := ⟨wr, rfl⟩
      subst hw8
      have hj1 : IntKind.i64.wrap ((k : Int) - 1) = (k : Int) - 1 := IntWalk.i64_in _ ⟨by omega, by omega⟩
      go_wp2_with fail
      refine (sAround W (some ⟨x, o, none⟩) N d z _ hsz hz.1 hz.2).mono ?_
      rintro e w9 ⟨⟨ra, rc, rfl, hR9⟩, hb9⟩
      have S9 := S.on hb9 hh
      have o9 := ow.below hb9
      have hRl := arK_len W N z 9
      have hRi : Hid (∀ v ∈ arK W N z 9, 0 ≤ v ∧ v < (N : Int)) := fun v hv => ar_in hsz hv
      have e9 := S9.le
      generalize arK W N z 9 = Rr at hR9 hRl hRi
      clear S ow c0 c1 hb9
      go_wp2_with fail
      go_loopw [9, 36] (fun s9 s36 wr => ∃ (l2 : List Int) (j : Nat), s36 = .int .i64 j ∧ j ≤ Rr.length ∧ l2.length ≤ j ∧ (∀ v ∈ l2, 0 ≤ v ∧ v < (N : Int)) ∧ Below w9.heap.size w9 wr ∧ Own wr w9.heap.size s9 l2.length (gl l2)) (fun _ s36 _ => Rr.length - (intOf s36).toNat)
      case atStart => exact ⟨[], 0, rfl, Nat.zero_le _, Nat.le_refl _, by simp, Below.refl _ _, World.ownsRow_nil _ _ _ _⟩
      case round =>
        obtain ⟨l2, j, rfl, hj, hl2, hin, hbe, ow2⟩ := hrel
        obtain ⟨ta, tc, rfl⟩ := ow2.shape
        have hsz9 := hbe.size
        by_cases hlt : j < Rr.length
        · have j1 : (j : Int) < (Rr.length : Int) := by omega
          have j2 : ¬ (j : Int) < 0 := by omega
          have j3 : ¬ (Rr.length : Int) ≤ (j : Int) := by omega
          obtain ⟨g, rfl, hg0, hg1, hPg⟩ := hR9 (by omega)
          have y0 := (hPg.below hbe hPg.lt).c j hlt
          have hy := hRi.out _ (gl_mem hlt)
          generalize gl Rr j = y at y0 hy
          have Sx := S9.on hbe hh
          have c0 := Sx.m.c0
          have c1 := Sx.m.c1
          have hwj : IntKind.i64.wrap ((j : Int) + 1) = (j : Int) + 1 := IntWalk.i64_in _ ⟨by omega, by omega⟩
          go_wp2_with fail
          refine (sStep W (some ⟨x, o, none⟩) N d f z y _ hsz Sx.il).mono ?_
          rintro e w4 ⟨rfl, hb4⟩
          have hbe4 := hbe.trans (hb4.mono hsz9)
          have ow4 := ow2.below hb4
          have hsz4 := hbe4.size
          generalize stepV W N f z y = sv
          clear c0 c1 Sx y0 hPg ow2 hb4 hbe
          cases hv : decide ((0 : Int) < sv) with
          | true =>
            have v0 : (0 : Int) < sv := of_decide_eq_true hv
            go_wp2_with (at_builtin; refine wpList_append_own _ rfl _ _ 23 rfl (w9.heap.size) 3 i0 (.int .i64 0) 1 8 Try.underlying23 hi hz0 hz1 hz2 rfl (by decide) _ _ _ rfl (World.ownsRow.alloc ow4 _) ⟨w4.heap.size, 0, none⟩ 1 1 [.int .i64 (y)] rfl rfl (cell_one_new _ _ _) (fun x hx => by simp at hx; subst hx; rfl) (by unfold maxLen; omega) (by omega) (by simp; omega) ?_; intro v' w6 hown' hgrow3 _)
            have hB6 := (hbe4.alloc hbe4.size (.cells #[.int .i64 y] 3)).grown hgrow3 (by simp; omega) (fun q hq => (World.ownsRow.lt ow4 q hq).1)
            exact ⟨⟨l2 ++ [y], j + 1, by go_num, by omega, by simp; omega, by intro v hv; simp at hv; rcases hv with hv | hv; exact hin v hv; exact hv ▸ hy, hB6, own_snoc hown'⟩, by simp [intOf]; omega⟩
          | false =>
            have v0 : ¬ (0 : Int) < sv := of_decide_eq_false hv
            go_wp2_with fail
            exact ⟨⟨l2, j + 1, by go_num, by omega, by omega, hin, hbe4, ow4⟩, by simp [intOf]; omega⟩
        · have j1 : ¬ (j : Int) < (Rr.length : Int) := by omega
          have Sx := S9.on hbe hh
          have ox := o9.below hbe
          have lex := Sx.le
          clear hR9 hRi S9 o9
          by_cases hl0 : l2.length = 0
          · have j4 : ((l2.length : Nat) : Int) = 0 := by omega
            go_wp2_with fail
            refine (one_any C a len cap n6 _ _ Sx.cur (by omega)).mono ?_
            rintro e wu ⟨u, nu, rfl, hnu, hcu, hOu⟩
            have Su := Sx.step hcu hOu hh
            have ou := own_turns ox (on_turns hOu) (by omega)
            have du := Su.m.c1
            have leu := Su.le
            cases u with
            | true =>
              go_wp2_with fail
              refine (pick_any C a len cap nu _ _ Su.cur (by omega)).mono ?_
              rintro e wv ⟨pv, nv, rfl, hv0, -, hv2, hnv, hcv, hOv⟩
              have Sv := Su.step hcv hOv hh
              have ov := own_turns ou (on_turns hOv) (by omega)
              have lev := Sv.le
              clear du
              go_wp2_with (at_builtin; refine wpList_append_own _ rfl _ _ 23 rfl (B) 3 i0 (.int .i64 0) 1 8 Try.underlying23 hi hz0 hz1 hz2 rfl (by decide) _ _ _ rfl (World.ownsRow.alloc ov _) ⟨wv.heap.size, 0, none⟩ 1 1 [.int .i64 (pv)] rfl rfl (cell_one_new _ _ _) (fun x hx => by simp at hx; subst hx; rfl) (by unfold maxLen; omega) (by omega) (by simp; omega) ?_; intro v' w6 hown' hgrow3 _)
              have hB6 : Below B wv w6 := ((Below.refl B wv).alloc lev (.cells #[.int .i64 pv] 3)).grown hgrow3 (by simp; omega) (fun q hq => (World.ownsRow.lt ov q hq).1)
              have o6 := own_snoc hown'
              obtain ⟨ta, tc, rfl⟩ := o6.shape
              go_ret
              exact ⟨⟨ta, _, tc, _, rfl, by simp; omega, own_room o6, o6.lq.il⟩, turns_below Sv.t hB6 (by omega)⟩
            | false =>
              go_wp2
              go_ret
              exact ⟨⟨_, _, _, _, rfl, by omega, own_room ou, ou.lq.il⟩, Su.t⟩
          · have j4 : ¬ ((l2.length : Nat) : Int) = 0 := by omega
            obtain ⟨g, rfl, hg0, hg1, hPg⟩ := ow2.lq (by omega)
            go_wp2_with fail
            refine (pick_any C a len cap n6 (l2.length : Int) _ Sx.cur (by omega)).mono ?_
            rintro e w4 ⟨p4, n4, rfl, h40, h41, h42, hn4, hc4, hO4⟩
            have h41 := h41 (by omega)
            have S4 := Sx.step hc4 hO4 hh
            have o4 := own_turns ox (on_turns hO4) (by omega)
            have hC9 : C < g := by omega
            have y4 : w4.cell? ⟨g, p4.toNat, none⟩ = some (.int .i64 (gl l2 p4.toNat)) := (cell_same (hO4.block g (by omega)) _).trans (hPg.c p4.toNat (by omega))
            have q0 : ¬ p4 < 0 := by omega
            have q1 : ¬ (l2.length : Int) ≤ p4 := by omega
            have hy := hin _ (gl_mem (show p4.toNat < l2.length by omega))
            generalize gl l2 p4.toNat = y at y4 hy
            have le4 := S4.le
            clear Sx ox hc4 hO4 hPg ow2
            go_wp2_with (at_builtin; refine wpList_append_own _ rfl _ _ 23 rfl (B) 3 i0 (.int .i64 0) 1 8 Try.underlying23 hi hz0 hz1 hz2 rfl (by decide) _ _ _ rfl (World.ownsRow.alloc o4 _) ⟨w4.heap.size, 0, none⟩ 1 1 [.int .i64 (y)] rfl rfl (cell_one_new _ _ _) (fun x hx => by simp at hx; subst hx; rfl) (by unfold maxLen; omega) (by omega) (by simp; omega) ?_; intro v' w6 hown' hgrow3 _)
            have hB6 : Below B w4 w6 := ((Below.refl B w4).alloc le4 (.cells #[.int .i64 y] 3)).grown hgrow3 (by simp; omega) (fun q hq => (World.ownsRow.lt o4 q hq).1)
            exact ⟨⟨y, l ++ [y], k - 1, n4, rfl, by go_num, by omega, hy, by simp; omega, by omega, S4.bel hB6 hh, own_snoc hown'⟩, by simp [intOf]; omega⟩
end Go.Proofs.Ytfciecoigfnnhaa
