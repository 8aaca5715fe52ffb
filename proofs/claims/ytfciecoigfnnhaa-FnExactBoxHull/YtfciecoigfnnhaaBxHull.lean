/- The hull of two boxes, as the specification says it. -/
import Derived.Test.YtfciecoigfnnhaaBxGrow
namespace Go.Proofs.Ytfciecoigfnnhaa
open Go.RowKit

/-- what is told of two boxes -/
def AnsHull (w w' : World) (n : Nat) (f g f2 g2 : Nat → Nat) (t : Bool) (e : Ending) : Prop := ∃ a c b d, e = .returned (.tuple #[bxv a (if t then n else 0) c b (if t then n else 0) d, .bool t]) ∧ BP w' w.heap.size w'.heap.size a (if t then n else 0) (fun i => loF (f i) (f2 i)) b (if t then n else 0) (fun i => hiF (g i) (g2 i)) ∧ Below w.heap.size w w'

set_option maxHeartbeats 4000000 in
theorem specHull (a b a2 b2 : Option Addr) (n c m d n2 c2 m2 d2 : Nat) (f g f2 g2 : Nat → Nat) (w : World) (hf : FS w a n f) (hg : FS w b m g) (hf2 : FS w a2 n2 f2) (hg2 : FS w b2 m2 g2) :
    Calls Try.prog 25 #[bxv a n c b m d, bxv a2 n2 c2 b2 m2 d2] w fun e w' => AnsHull w w' n f g f2 g2 (pairB n f m g n2 f2 m2 g2) e := by
  have hb0 : Below w.heap.size w (((w.alloc (bxO a n c b m d 45)).alloc (bxO a2 n2 c2 b2 m2 d2 45)).alloc (bxO none 0 0 none 0 0 45)) := (((Below.refl _ _).alloc (Nat.le_refl _) _).alloc (by simp) _).alloc (by simp <;> omega) _
  have bA := ((bx_new (w := w) (bxL a n c b m d) 45 rfl).alloc (bxO a2 n2 c2 b2 m2 d2 45)).alloc (bxO none 0 0 none 0 0 45)
  have bB := (bx_new (w := w.alloc (bxO a n c b m d 45)) (b := w.heap.size + 1) (bxL a2 n2 c2 b2 m2 d2) 45 (by simp)).alloc (bxO none 0 0 none 0 0 45)
  have bR := bx_new (w := (w.alloc (bxO a n c b m d 45)).alloc (bxO a2 n2 c2 b2 m2 d2 45)) (b := w.heap.size + 1 + 1) (bxL none 0 0 none 0 0) 45 (by simp)
  have x0 := bA.c0
  have x1 := bA.c1
  have y0 := bB.c0
  have y1 := bB.c1
  have hc := specPair a b a2 b2 n c m d n2 c2 m2 d2 f g f2 g2 (((w.alloc (bxO a n c b m d 45)).alloc (bxO a2 n2 c2 b2 m2 d2 45)).alloc (bxO none 0 0 none 0 0 45)) (hf.below hb0) (hg.below hb0) (hf2.below hb0) (hg2.below hb0)
  cases e1 : pairB n f m g n2 f2 m2 g2 with
  | false =>
    rw [e1] at hc
    go_enter Try.func25, Try.ntmps25
    go_wp2_with fail
    refine hc.mono ?_
    rintro e w1 ⟨rfl, hb1⟩
    have hB1 := stepA hb0 hb1
    have r1 := bR.on hb1
    have hs := r1.lt
    have v0 := r1.c0
    have v1 := r1.c1
    have z0 := r1.fz 0
    have z1 := r1.fz 1
    have rE := (r1.set 0 (by simp) (.slice none 0 0)).set 1 (by simp) (.slice none 0 0)
    have hBE := (hB1.setCell (p := ⟨w.heap.size + 1 + 1, 0, none⟩) (by simp <;> omega) (.slice none 0 0)).setCell (p := ⟨w.heap.size + 1 + 1, 1, none⟩) (by simp <;> omega) (.slice none 0 0)
    clear hc x0 x1 y0 y1 bA bB bR
    go_wp2
    refine ret_box_tmp Try.results25 rfl rE.c0 rE.c1 rfl ?_
    exact ⟨none, 0, none, 0, rfl, bp_none _ _ _ _ _ _ _ (by have := hBE.size; omega), hBE⟩
  | true =>
    rw [e1] at hc
    simp only [pairB, Bool.and_eq_true, decide_eq_true_eq] at e1
    obtain ⟨⟨g1, g3⟩, g4⟩ := e1
    obtain ⟨k1, k2, k3, _⟩ := boxB_len g1
    obtain ⟨_, _, k4, _⟩ := boxB_len g3
    subst g4
    have k3 := k3.symm
    subst k3
    have k4 := k4.symm
    subst k4
    obtain ⟨ti, hi, hzz⟩ := Option.map_eq_some_iff.1 infoF
    simp only [Prod.mk.injEq] at hzz
    obtain ⟨hz0, hz1, hz2⟩ := hzz
    go_enter Try.func25, Try.ntmps25
    go_wp2_with fail
    refine hc.mono ?_
    rintro e w1 ⟨rfl, hb1⟩
    have hB1 := stepA hb0 hb1
    have a1 := bA.on hb1
    have b1 := bB.on hb1
    have r1 := bR.on hb1
    have hs := r1.lt
    have f1 := hf.below hB1
    have u1 := hg.below hB1
    have f3 := hf2.below hB1
    have u3 := hg2.below hB1
    clear hc x0 x1 y0 y1 bA bB bR hb0 hb1 hf hg hf2 hg2
    go_upto_region 4 with fail
    have bM : Bx (w1.alloc (bxO none 0 0 none 0 0 45)) w1.heap.size (bxL none 0 0 none 0 0) := bx_new (w := w1) (bxL none 0 0 none 0 0) 45 rfl
    have hA : Below w1.heap.size w1 (w1.alloc (bxO none 0 0 none 0 0 45)) := (Below.refl _ _).alloc (Nat.le_refl _) _
    generalize (w1.alloc (bxO none 0 0 none 0 0 45)) = w4 at bM hA ⊢
    have G0 : Gb w4 w4 w1.heap.size none 0 0 none 0 0 (fun i => loF (f i) (f2 i)) (fun i => hiF (g i) (g2 i)) := Gb.start bM
    have hB4 := stepA hB1 hA
    have a4 := a1.on hA
    have b4 := b1.on hA
    have r4 := r1.on hA
    obtain ⟨p1, o1, rfl, hl1, hc1⟩ := f1.2.2 (by omega)
    obtain ⟨p3, o3, rfl, hl3, hc3⟩ := u1.2.2 (by omega)
    obtain ⟨p4, o4, rfl, hl4, hc4⟩ := f3.2.2 (by omega)
    obtain ⟨p5, o5, rfl, hl5, hc5⟩ := u3.2.2 (by omega)
    have X : Hid (∀ i, i < n → w4.cell? ⟨p1, o1 + i, none⟩ = some (.float .f64 (f i))) := fun i hi => (hA.cell (p := ⟨p1, o1 + i, none⟩) hl1).trans (hc1 i hi)
    have Y : Hid (∀ i, i < n → w4.cell? ⟨p3, o3 + i, none⟩ = some (.float .f64 (g i))) := fun i hi => (hA.cell (p := ⟨p3, o3 + i, none⟩) hl3).trans (hc3 i hi)
    have U : Hid (∀ i, i < n → w4.cell? ⟨p4, o4 + i, none⟩ = some (.float .f64 (f2 i))) := fun i hi => (hA.cell (p := ⟨p4, o4 + i, none⟩) hl4).trans (hc4 i hi)
    have V : Hid (∀ i, i < n → w4.cell? ⟨p5, o5 + i, none⟩ = some (.float .f64 (g2 i))) := fun i hi => (hA.cell (p := ⟨p5, o5 + i, none⟩) hl5).trans (hc5 i hi)
    clear hc1 hc3 hc4 hc5 f1 u1 f3 u3 a1 b1 r1 bM hB1 hA
    generalize w1.heap.size = M at G0 hs hl1 hl3 hl4 hl5 ⊢
    have z0 := a4.c0
    go_wp2
    go_loopw [19] (fun i wr => ∃ (k : Nat) (s1 : Option Addr) (q1 : Nat) (s2 : Option Addr) (q2 : Nat), k ≤ n ∧ i = .int .i64 k ∧ Gb w4 wr M s1 k q1 s2 k q2 (fun i => loF (f i) (f2 i)) (fun i => hiF (g i) (g2 i))) (fun i _ => n - (intOf i).toNat)
    case atStart => exact ⟨0, none, 0, none, 0, Nat.zero_le _, rfl, G0⟩
    case round =>
      obtain ⟨k, s1, q1, s2, q2, hk, rfl, Gk⟩ := hrel
      clear G0 z0
      have HG : Hid _ := Gk
      have a6 := a4.below Gk.b (by omega)
      have b6 := b4.below Gk.b (by omega)
      have r6 := r4.below Gk.b (by omega)
      have m0 := Gk.m.c0
      have m1 := Gk.m.c1
      have z0 := a6.c0
      have z1 := a6.c1
      have z2 := b6.c0
      have z3 := b6.c1
      by_cases hlt : k < n
      · have i0 : (0 : Int) ≤ (k : Int) := by omega
        have i1 : (k : Int) < (n : Int) := by omega
        have v0 : wr.cell? ⟨p1, o1 + k, none⟩ = some (.float .f64 (f k)) := (Gk.b.cell (p := ⟨p1, o1 + k, none⟩) hl1).trans (X.out k hlt)
        have v1 : wr.cell? ⟨p3, o3 + k, none⟩ = some (.float .f64 (g k)) := (Gk.b.cell (p := ⟨p3, o3 + k, none⟩) hl3).trans (Y.out k hlt)
        have v2 : wr.cell? ⟨p4, o4 + k, none⟩ = some (.float .f64 (f2 k)) := (Gk.b.cell (p := ⟨p4, o4 + k, none⟩) hl4).trans (U.out k hlt)
        have v3 : wr.cell? ⟨p5, o5 + k, none⟩ = some (.float .f64 (g2 k)) := (Gk.b.cell (p := ⟨p5, o5 + k, none⟩) hl5).trans (V.out k hlt)
        have hnx : loF (f k) (f2 k) = if ltF (f2 k) (f k) then f2 k else f k := rfl
        have hny : hiF (g k) (g2 k) = if gtF (g2 k) (g k) then g2 k else g k := rfl
        have hput : ∀ (F : Nat → Nat) (x : Nat), F k = x → ∀ i, i < k + 1 → putF F k x i = F i := fun F x e i hi => by
          unfold putF
          by_cases e2 : i = k
          · rw [if_pos e2, e2, e]
          · rw [if_neg e2]
        have pX := hput (fun i => loF (f i) (f2 i)) (loF (f k) (f2 k)) rfl
        have pY := hput (fun i => hiF (g i) (g2 i)) (hiF (g k) (g2 k)) rfl
        clear hput
        generalize hL : loF (f k) (f2 k) = L at hnx pX
        generalize hH : hiF (g k) (g2 k) = H at hny pY
        clear hL hH X Y U V
        generalize f k = x at v0 hnx
        generalize g k = y at v1 hny
        generalize f2 k = x2 at v2 hnx
        generalize g2 k = y2 at v3 hny
        cases e1 : (FloatKind.f64.format.order x2 x == some .lt) with
        | true =>
          have hx : L = x2 := by rw [hnx]; unfold ltF; simp [e1]
          cases e2 : (FloatKind.f64.format.order y2 y == some .gt) with
          | true =>
            have hy0 : H = y2 := by rw [hny]; unfold gtF; simp [e2]
            subst hx hy0
            clear hnx hny
            go_upto_region 14 with (first | (at_builtin; refine wpList_append_own_at _ rfl _ _ 41 rfl (M + 1) 106 ti (.float .f64 0) 1 8 Try.underlying41 hi hz0 hz1 hz2 rfl (by decide) _ _ _ rfl (Gk.o1.alloc _) ⟨wr.heap.size, 0, none⟩ 1 1 [.float .f64 L] rfl rfl (cell_one_new _ _ _) (fun x hx => by simp at hx; subst hx; rfl) (by unfold maxLen; omega) (by omega) (by have := Gk.m.lt; rw [size_al]; omega) ?_; intro v' w5 hown' hgrow _ hat; obtain ⟨sa, sc, rfl⟩ := (own_putF hown').shape; have hmm := (Gk.mid1 hgrow).2; have t1 := hmm.c0; have t2 := hmm.fz 0; have t3 := hmm.lt; have hG := Gk.app1 hgrow hown' hat; clear hgrow hown' hat hmm) | fail)
            clear HG m0 m1 z0 z1 z2 z3 v0 v1 v2 v3 a6 b6 r6 t1 t2
            generalize w5.setCell ⟨M, 0, none⟩ (.slice sa (k + 1) sc) = w6 at hG ⊢
            have m1 := hG.m.c1
            go_wp2_with (first | (at_builtin; refine wpList_append_own_at _ rfl _ _ 41 rfl (M + 1) 106 ti (.float .f64 0) 1 8 Try.underlying41 hi hz0 hz1 hz2 rfl (by decide) _ _ _ rfl (hG.o2.alloc _) ⟨w6.heap.size, 0, none⟩ 1 1 [.float .f64 H] rfl rfl (cell_one_new _ _ _) (fun x hx => by simp at hx; subst hx; rfl) (by unfold maxLen; omega) (by omega) (by have := hG.m.lt; rw [size_al]; omega) ?_; intro v' w7 hown' hgrow _ hat; obtain ⟨ta, tc, rfl⟩ := (own_putF hown').shape; have hmm := (hG.mid2 hgrow).2; have t1 := hmm.c1; have t2 := hmm.fz 1; have t3 := hmm.lt; have hE := hG.app2 hgrow hown' hat; clear hgrow hown' hat hmm) | fail)
            exact ⟨⟨k + 1, _, _, _, _, by omega, by go_num, hE.congr pX pY⟩, by simp [intOf]; omega⟩
          | false =>
            have hy0 : H = y := by rw [hny]; unfold gtF; simp [e2]
            subst hx hy0
            clear hnx hny
            go_upto_region 14 with (first | (at_builtin; refine wpList_append_own_at _ rfl _ _ 41 rfl (M + 1) 106 ti (.float .f64 0) 1 8 Try.underlying41 hi hz0 hz1 hz2 rfl (by decide) _ _ _ rfl (Gk.o1.alloc _) ⟨wr.heap.size, 0, none⟩ 1 1 [.float .f64 L] rfl rfl (cell_one_new _ _ _) (fun x hx => by simp at hx; subst hx; rfl) (by unfold maxLen; omega) (by omega) (by have := Gk.m.lt; rw [size_al]; omega) ?_; intro v' w5 hown' hgrow _ hat; obtain ⟨sa, sc, rfl⟩ := (own_putF hown').shape; have hmm := (Gk.mid1 hgrow).2; have t1 := hmm.c0; have t2 := hmm.fz 0; have t3 := hmm.lt; have hG := Gk.app1 hgrow hown' hat; clear hgrow hown' hat hmm) | fail)
            clear HG m0 m1 z0 z1 z2 z3 v0 v1 v2 v3 a6 b6 r6 t1 t2
            generalize w5.setCell ⟨M, 0, none⟩ (.slice sa (k + 1) sc) = w6 at hG ⊢
            have m1 := hG.m.c1
            go_wp2_with (first | (at_builtin; refine wpList_append_own_at _ rfl _ _ 41 rfl (M + 1) 106 ti (.float .f64 0) 1 8 Try.underlying41 hi hz0 hz1 hz2 rfl (by decide) _ _ _ rfl (hG.o2.alloc _) ⟨w6.heap.size, 0, none⟩ 1 1 [.float .f64 H] rfl rfl (cell_one_new _ _ _) (fun x hx => by simp at hx; subst hx; rfl) (by unfold maxLen; omega) (by omega) (by have := hG.m.lt; rw [size_al]; omega) ?_; intro v' w7 hown' hgrow _ hat; obtain ⟨ta, tc, rfl⟩ := (own_putF hown').shape; have hmm := (hG.mid2 hgrow).2; have t1 := hmm.c1; have t2 := hmm.fz 1; have t3 := hmm.lt; have hE := hG.app2 hgrow hown' hat; clear hgrow hown' hat hmm) | fail)
            exact ⟨⟨k + 1, _, _, _, _, by omega, by go_num, hE.congr pX pY⟩, by simp [intOf]; omega⟩
        | false =>
          have hx : L = x := by rw [hnx]; unfold ltF; simp [e1]
          cases e2 : (FloatKind.f64.format.order y2 y == some .gt) with
          | true =>
            have hy0 : H = y2 := by rw [hny]; unfold gtF; simp [e2]
            subst hx hy0
            clear hnx hny
            go_upto_region 14 with (first | (at_builtin; refine wpList_append_own_at _ rfl _ _ 41 rfl (M + 1) 106 ti (.float .f64 0) 1 8 Try.underlying41 hi hz0 hz1 hz2 rfl (by decide) _ _ _ rfl (Gk.o1.alloc _) ⟨wr.heap.size, 0, none⟩ 1 1 [.float .f64 L] rfl rfl (cell_one_new _ _ _) (fun x hx => by simp at hx; subst hx; rfl) (by unfold maxLen; omega) (by omega) (by have := Gk.m.lt; rw [size_al]; omega) ?_; intro v' w5 hown' hgrow _ hat; obtain ⟨sa, sc, rfl⟩ := (own_putF hown').shape; have hmm := (Gk.mid1 hgrow).2; have t1 := hmm.c0; have t2 := hmm.fz 0; have t3 := hmm.lt; have hG := Gk.app1 hgrow hown' hat; clear hgrow hown' hat hmm) | fail)
            clear HG m0 m1 z0 z1 z2 z3 v0 v1 v2 v3 a6 b6 r6 t1 t2
            generalize w5.setCell ⟨M, 0, none⟩ (.slice sa (k + 1) sc) = w6 at hG ⊢
            have m1 := hG.m.c1
            go_wp2_with (first | (at_builtin; refine wpList_append_own_at _ rfl _ _ 41 rfl (M + 1) 106 ti (.float .f64 0) 1 8 Try.underlying41 hi hz0 hz1 hz2 rfl (by decide) _ _ _ rfl (hG.o2.alloc _) ⟨w6.heap.size, 0, none⟩ 1 1 [.float .f64 H] rfl rfl (cell_one_new _ _ _) (fun x hx => by simp at hx; subst hx; rfl) (by unfold maxLen; omega) (by omega) (by have := hG.m.lt; rw [size_al]; omega) ?_; intro v' w7 hown' hgrow _ hat; obtain ⟨ta, tc, rfl⟩ := (own_putF hown').shape; have hmm := (hG.mid2 hgrow).2; have t1 := hmm.c1; have t2 := hmm.fz 1; have t3 := hmm.lt; have hE := hG.app2 hgrow hown' hat; clear hgrow hown' hat hmm) | fail)
            exact ⟨⟨k + 1, _, _, _, _, by omega, by go_num, hE.congr pX pY⟩, by simp [intOf]; omega⟩
          | false =>
            have hy0 : H = y := by rw [hny]; unfold gtF; simp [e2]
            subst hx hy0
            clear hnx hny
            go_upto_region 14 with (first | (at_builtin; refine wpList_append_own_at _ rfl _ _ 41 rfl (M + 1) 106 ti (.float .f64 0) 1 8 Try.underlying41 hi hz0 hz1 hz2 rfl (by decide) _ _ _ rfl (Gk.o1.alloc _) ⟨wr.heap.size, 0, none⟩ 1 1 [.float .f64 L] rfl rfl (cell_one_new _ _ _) (fun x hx => by simp at hx; subst hx; rfl) (by unfold maxLen; omega) (by omega) (by have := Gk.m.lt; rw [size_al]; omega) ?_; intro v' w5 hown' hgrow _ hat; obtain ⟨sa, sc, rfl⟩ := (own_putF hown').shape; have hmm := (Gk.mid1 hgrow).2; have t1 := hmm.c0; have t2 := hmm.fz 0; have t3 := hmm.lt; have hG := Gk.app1 hgrow hown' hat; clear hgrow hown' hat hmm) | fail)
            clear HG m0 m1 z0 z1 z2 z3 v0 v1 v2 v3 a6 b6 r6 t1 t2
            generalize w5.setCell ⟨M, 0, none⟩ (.slice sa (k + 1) sc) = w6 at hG ⊢
            have m1 := hG.m.c1
            go_wp2_with (first | (at_builtin; refine wpList_append_own_at _ rfl _ _ 41 rfl (M + 1) 106 ti (.float .f64 0) 1 8 Try.underlying41 hi hz0 hz1 hz2 rfl (by decide) _ _ _ rfl (hG.o2.alloc _) ⟨w6.heap.size, 0, none⟩ 1 1 [.float .f64 H] rfl rfl (cell_one_new _ _ _) (fun x hx => by simp at hx; subst hx; rfl) (by unfold maxLen; omega) (by omega) (by have := hG.m.lt; rw [size_al]; omega) ?_; intro v' w7 hown' hgrow _ hat; obtain ⟨ta, tc, rfl⟩ := (own_putF hown').shape; have hmm := (hG.mid2 hgrow).2; have t1 := hmm.c1; have t2 := hmm.fz 1; have t3 := hmm.lt; have hE := hG.app2 hgrow hown' hat; clear hgrow hown' hat hmm) | fail)
            exact ⟨⟨k + 1, _, _, _, _, by omega, by go_num, hE.congr pX pY⟩, by simp [intOf]; omega⟩
      · have hke : k = n := by omega
        subst hke
        have hBk := hB4.trans (Gk.b.mono (by omega))
        have r0 := r6.c0
        have r1 := r6.c1
        have y6 := r6.fz 0
        have y7 := r6.fz 1
        have rE := (r6.set 0 (by simp) (.slice s1 k q1)).set 1 (by simp) (.slice s2 k q2)
        have hBE := (hBk.setCell (p := ⟨w.heap.size + 1 + 1, 0, none⟩) (by simp <;> omega) (.slice s1 k q1)).setCell (p := ⟨w.heap.size + 1 + 1, 1, none⟩) (by simp <;> omega) (.slice s2 k q2)
        have bp0 := Gk.bp (lo := w.heap.size + 1 + 1 + 1) (by omega)
        have bpE := (bp_far (b := w.heap.size + 1 + 1) (bp_far (b := w.heap.size + 1 + 1) bp0 0 (.slice s1 k q1) (by omega)) 1 (.slice s2 k q2) (by omega)).wide (lo' := w.heap.size) (hi' := wr.heap.size) (by omega) (Nat.le_refl _)
        clear X Y U V
        go_wp2
        refine ret_box_tmp Try.results25 rfl rE.c0 rE.c1 rfl ?_
        exact ⟨s1, q1, s2, q2, rfl, by simpa only [size_set, if_true, Bool.true_eq_false, ite_true] using bpE, hBE⟩
end Go.Proofs.Ytfciecoigfnnhaa
