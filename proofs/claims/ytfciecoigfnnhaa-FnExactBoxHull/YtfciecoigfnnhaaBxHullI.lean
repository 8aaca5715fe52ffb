/- The hull of two boxes, as the program says it. -/
import Derived.Test.YtfciecoigfnnhaaBxTwo
import Derived.Test.YtfciecoigfnnhaaBxHull
import Derived.Deep.RegionHeld3
import Derived.Deep.RegionHeld
import Derived.Deep.CutRange
import Derived.Deep.Cut
namespace Go.Proofs.Ytfciecoigfnnhaa
open Go.RowKit

set_option maxHeartbeats 4000000 in
theorem implHull (a b a2 b2 : Option Addr) (n c m d n2 c2 m2 d2 : Nat) (f g f2 g2 : Nat → Nat) (w : World) (hf : FS w a n f) (hg : FS w b m g) (hf2 : FS w a2 n2 f2) (hg2 : FS w b2 m2 g2) :
    Calls Try.prog 26 #[bxv a n c b m d, bxv a2 n2 c2 b2 m2 d2] w fun e w' => AnsHull w w' n f g f2 g2 (pairB n f m g n2 f2 m2 g2) e := by
  have hb0 : Below w.heap.size w (((w.alloc (bxO a n c b m d 45)).alloc (bxO a2 n2 c2 b2 m2 d2 45)).alloc (bxO none 0 0 none 0 0 45)) := (((Below.refl _ _).alloc (Nat.le_refl _) _).alloc (by simp) _).alloc (by simp <;> omega) _
  have bA := ((bx_new (w := w) (bxL a n c b m d) 45 rfl).alloc (bxO a2 n2 c2 b2 m2 d2 45)).alloc (bxO none 0 0 none 0 0 45)
  have bB := (bx_new (w := w.alloc (bxO a n c b m d 45)) (b := w.heap.size + 1) (bxL a2 n2 c2 b2 m2 d2) 45 (by simp)).alloc (bxO none 0 0 none 0 0 45)
  have bR := bx_new (w := (w.alloc (bxO a n c b m d 45)).alloc (bxO a2 n2 c2 b2 m2 d2 45)) (b := w.heap.size + 1 + 1) (bxL none 0 0 none 0 0) 45 (by simp)
  have x0 := bA.c0
  have x1 := bA.c1
  have y0 := bB.c0
  have y1 := bB.c1
  have hc := implPair a b a2 b2 n c m d n2 c2 m2 d2 f g f2 g2 (((w.alloc (bxO a n c b m d 45)).alloc (bxO a2 n2 c2 b2 m2 d2 45)).alloc (bxO none 0 0 none 0 0 45)) (hf.below hb0) (hg.below hb0) (hf2.below hb0) (hg2.below hb0)
  cases e1 : pairB n f m g n2 f2 m2 g2 with
  | false =>
    rw [e1] at hc
    go_enter Try.func26, Try.ntmps26
    go_wp2_with fail
    refine hc.mono ?_
    rintro e w1 ⟨rfl, hb1⟩
    have hB1 := stepA hb0 hb1
    have r := bR.on hb1
    clear hc x0 x1 y0 y1 bA bB bR
    have s0 := r.c0
    have s1 := r.c1
    have f0 := r.fz 0
    have f1 := r.fz 1
    have LR := r.lt
    have bE := ((r.set 0 (by simp) (.slice none 0 0)).set 1 (by simp) (.slice none 0 0))
    have hBE := bSt (g := w.heap.size + 1 + 1) (u := .slice none 0 0) (v := .slice none 0 0) hB1 (by omega)
    go_wp2
    refine ret_box_tmp Try.results26 rfl bE.c0 bE.c1 rfl ?_
    exact ⟨none, 0, none, 0, rfl, bp_none _ _ _ _ _ _ _ (by have := hBE.size; omega), hBE⟩
  | true =>
    rw [e1] at hc
    simp only [pairB, Bool.and_eq_true, decide_eq_true_eq] at e1
    obtain ⟨⟨g1, g3⟩, g4⟩ := e1
    obtain ⟨gf, gg⟩ := good_at g1
    obtain ⟨gf2, gg2⟩ := good_at g3
    obtain ⟨k1, k2, k3, _⟩ := boxB_len g1
    obtain ⟨_, _, k4, _⟩ := boxB_len g3
    subst g4
    have k3 := k3.symm
    subst k3
    have k4 := k4.symm
    subst k4
    have KX := fun w h1 h2 => each_lo2 a a2 n c c2 f f2 w h1 h2 gf gf2
    have KY := fun w h1 h2 => each_hi2 b b2 n d d2 g g2 w h1 h2 gg gg2
    have hn := hf.1
    have hlf := hf.2.1
    have hlg := hg.2.1
    have hlf2 := hf2.2.1
    have hlg2 := hg2.2.1
    clear g1 g3 gf gg gf2 gg2
    go_enter Try.func26, Try.ntmps26
    go_wp2_with fail
    refine hc.mono ?_
    rintro e w1 ⟨rfl, hb1⟩
    have hB1 := stepA hb0 hb1
    have a1 := bA.on hb1
    have b1 := bB.on hb1
    have r1 := bR.on hb1
    have f1 := hf.below hB1
    have u1 := hg.below hB1
    have f3 := hf2.below hB1
    have u3 := hg2.below hB1
    clear hc x0 x1 y0 y1 bA bB bR hb0 hb1 hf hg hf2 hg2
    have hw0 := Below.refl w1.heap.size w1
    go_upto_region 3 with fail
    refine wp_region_held (S := fun w' => w'.cell? ⟨w.heap.size, 0, none⟩ = some (.slice a n c) ∧ w'.cell? ⟨w.heap.size, 1, none⟩ = some (.slice b n d) ∧ w'.cell? ⟨w.heap.size + 1, 0, none⟩ = some (.slice a2 n c2) ∧ w'.cell? ⟨w.heap.size + 1, 1, none⟩ = some (.slice b2 n d2)) (by kernel_rfl) ?_
    change wpAnyH _ _ _ _ _ _ _ _ (World.drew _)
    have hSw := (⟨(a1.on hw0.drew).c0, (a1.on hw0.drew).c1, (b1.on hw0.drew).c0, (b1.on hw0.drew).c1⟩ : _ ∧ _ ∧ _ ∧ _)
    refine wpAnyH_take (i := 0) (v := .pointer (some ⟨w.heap.size, 0, none⟩)) rfl (by kernel_rfl) (by kernel_rfl) (by kernel_rfl) (fun _ _ _ h => h) (Or.inl ⟨by rfl, ?_⟩) hSw ?_
    · intro wz hsz
      obtain ⟨z0, z1, z2, z3⟩ := hsz
      go_simp
    try simp [Act.put]
    refine wpAnyH_take (i := 1) (v := .slice a n c) rfl (by kernel_rfl) (by kernel_rfl) (by kernel_rfl) (fun _ _ _ h => h) (Or.inl ⟨by rfl, ?_⟩) hSw ?_
    · intro wz hsz
      obtain ⟨z0, z1, z2, z3⟩ := hsz
      go_simp
    try simp [Act.put]
    refine wpAnyH_take (i := 2) (v := .pointer (some ⟨w.heap.size + 1, 0, none⟩)) rfl (by kernel_rfl) (by kernel_rfl) (by kernel_rfl) (fun _ _ _ h => h) (Or.inl ⟨by rfl, ?_⟩) hSw ?_
    · intro wz hsz
      obtain ⟨z0, z1, z2, z3⟩ := hsz
      go_simp
    try simp [Act.put]
    refine wpAnyH_take (i := 3) (v := .slice a2 n c2) rfl (by kernel_rfl) (by kernel_rfl) (by kernel_rfl) (fun _ _ _ h => h) (Or.inl ⟨by rfl, ?_⟩) hSw ?_
    · intro wz hsz
      obtain ⟨z0, z1, z2, z3⟩ := hsz
      go_simp
    try simp [Act.put]
    refine wpAnyH_take (i := 5) (v := .pointer (some ⟨w.heap.size, 1, none⟩)) rfl (by kernel_rfl) (by kernel_rfl) (by kernel_rfl) (fun _ _ _ h => h) (Or.inl ⟨by rfl, ?_⟩) hSw ?_
    · intro wz hsz
      obtain ⟨z0, z1, z2, z3⟩ := hsz
      go_simp
    try simp [Act.put]
    refine wpAnyH_take (i := 6) (v := .slice b n d) rfl (by kernel_rfl) (by kernel_rfl) (by kernel_rfl) (fun _ _ _ h => h) (Or.inl ⟨by rfl, ?_⟩) hSw ?_
    · intro wz hsz
      obtain ⟨z0, z1, z2, z3⟩ := hsz
      go_simp
    try simp [Act.put]
    refine wpAnyH_take (i := 7) (v := .pointer (some ⟨w.heap.size + 1, 1, none⟩)) rfl (by kernel_rfl) (by kernel_rfl) (by kernel_rfl) (fun _ _ _ h => h) (Or.inl ⟨by rfl, ?_⟩) hSw ?_
    · intro wz hsz
      obtain ⟨z0, z1, z2, z3⟩ := hsz
      go_simp
    try simp [Act.put]
    refine wpAnyH_take (i := 8) (v := .slice b2 n d2) rfl (by kernel_rfl) (by kernel_rfl) (by kernel_rfl) (fun _ _ _ h => h) (Or.inl ⟨by rfl, ?_⟩) hSw ?_
    · intro wz hsz
      obtain ⟨z0, z1, z2, z3⟩ := hsz
      go_simp
    try simp [Act.put]
    refine wpAnyH_ready (rs := [4]) (by kernel_rfl) (by simp) ?_
    refine AllReadyH.cons rfl (fun K hK => ?_) AllReadyH.nil
    go_simp
    go_wp2_with (first | (go_at_call_of 62 (Value.slice a n c); refine (KX _ (f1.below hw0.drew) (f3.below hw0.drew)).mono ?_; rintro e w5 ⟨l1, rfl, hl1, fp1, hbn⟩; have hw1 := stepA hw0.drew hbn; clear hbn) | (fail))
    refine hK.out _ _ (⟨(a1.on hw1).c0, (a1.on hw1).c1, (b1.on hw1).c0, (b1.on hw1).c1⟩) (fun hSn => ?_)
    clear hK K hSw
    have hSw := hSn
    clear hSn
    try simp [Act.put]
    refine wpAnyH_ready (rs := [9]) (by kernel_rfl) (by simp) ?_
    refine AllReadyH.cons rfl (fun K hK => ?_) AllReadyH.nil
    go_simp
    have fl1 := fp1.lt
    go_wp2_with (first | (go_at_call_of 62 (Value.slice b n d); refine (KY _ (u1.below hw1) (u3.below hw1)).mono ?_; rintro e w6 ⟨l2, rfl, hl2, fp2, hbn⟩; have hw2 := stepA hw1 hbn; have fp3 := fp1.below hbn fl1; clear hbn) | (fail))
    refine hK.out _ _ (⟨(a1.on hw2).c0, (a1.on hw2).c1, (b1.on hw2).c0, (b1.on hw2).c1⟩) (fun hSn => ?_)
    clear hK K hSw
    have hSw := hSn
    clear hSn
    try simp [Act.put]
    refine wpAnyH_take (i := 10) (v := .agg #[.slice (some ⟨l1, 0, none⟩) n n, .slice (some ⟨l2, 0, none⟩) n n]) rfl (by kernel_rfl) (by kernel_rfl) (by kernel_rfl) (fun _ _ _ h => h) (Or.inl ⟨by rfl, ?_⟩) hSw ?_
    · intro wz hsz
      obtain ⟨z0, z1, z2, z3⟩ := hsz
      go_simp
    try simp [Act.put]
    have r := r1.on hw2
    have s0 := r.c0
    have s1 := r.c1
    have f0 := r.fz 0
    have f1 := r.fz 1
    have LR := r.lt
    refine wpAnyH_ready (rs := [11]) (by kernel_rfl) (by simp) ?_
    refine AllReadyH.cons rfl (fun K hK => ?_) AllReadyH.nil
    go_simp
    refine hK.out _ _ ((by have ha := (a1.on hw2); have hb := (b1.on hw2); exact ⟨((ha.far _ (by omega)).far _ (by omega)).c0, ((ha.far _ (by omega)).far _ (by omega)).c1, ((hb.far _ (by omega)).far _ (by omega)).c0, ((hb.far _ (by omega)).far _ (by omega)).c1⟩)) (fun hSn => ?_)
    clear hK K hSw
    have hSw := hSn
    clear hSn
    try simp [Act.put]
    refine wpAnyH_take (i := 12) (v := .bool true) rfl (by kernel_rfl) (by kernel_rfl) (by kernel_rfl) (fun _ _ _ h => h) (Or.inl ⟨by rfl, ?_⟩) hSw ?_
    · intro wz hsz
      obtain ⟨z0, z1, z2, z3⟩ := hsz
      go_simp
    try simp [Act.put]
    refine wpAnyH_done (by kernel_rfl) ?_ _
    have hl1 : w1.heap.size ≤ l1 := hl1
    have hws := hB1.size
    have hBE := bSt (g := w.heap.size + 1 + 1) (u := .slice (some ⟨l1, 0, none⟩) n n) (v := .slice (some ⟨l2, 0, none⟩) n n) (stepA hB1 hw2) (by omega)
    have bE := ((r.set 0 (by simp) (.slice (some ⟨l1, 0, none⟩) n n)).set 1 (by simp) (.slice (some ⟨l2, 0, none⟩) n n))
    have l1r := r1.lt
    have m1 : l1 ≠ w.heap.size + 1 + 1 := by omega
    have m2 : l2 ≠ w.heap.size + 1 + 1 := by omega
    go_wp2
    refine ret_box_tmp Try.results26 rfl bE.c0 bE.c1 rfl ?_
    exact ⟨_, _, _, _, rfl, bp_two ((fp3.far _ m1).far _ m1) ((fp2.far _ m2).far _ m2) (by omega) (by omega), hBE⟩
end Go.Proofs.Ytfciecoigfnnhaa
