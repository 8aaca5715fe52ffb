/- What lies in two boxes, as the program says it. -/
import Derived.Test.YtfciecoigfnnhaaBxTwo
import Derived.Test.YtfciecoigfnnhaaBxMeet
import Derived.Deep.RegionHeld3
import Derived.Deep.RegionHeld
import Derived.Deep.CutRange
import Derived.Deep.Cut
namespace Go.Proofs.Ytfciecoigfnnhaa
open Go.RowKit

set_option maxHeartbeats 4000000 in
theorem implMeet (a b a2 b2 : Option Addr) (n c m d n2 c2 m2 d2 : Nat) (f g f2 g2 : Nat → Nat) (w : World) (hf : FS w a n f) (hg : FS w b m g) (hf2 : FS w a2 n2 f2) (hg2 : FS w b2 m2 g2) :
    Calls Try.prog 21 #[bxv a n c b m d, bxv a2 n2 c2 b2 m2 d2] w fun e w' => AnsMeet w w' n f g f2 g2 (meetB n f m g n2 f2 m2 g2) e := by
  have hb0 : Below w.heap.size w (((w.alloc (bxO a n c b m d 45)).alloc (bxO a2 n2 c2 b2 m2 d2 45)).alloc (bxO none 0 0 none 0 0 45)) := (((Below.refl _ _).alloc (Nat.le_refl _) _).alloc (by simp) _).alloc (by simp <;> omega) _
  have bA := ((bx_new (w := w) (bxL a n c b m d) 45 rfl).alloc (bxO a2 n2 c2 b2 m2 d2 45)).alloc (bxO none 0 0 none 0 0 45)
  have bB := (bx_new (w := w.alloc (bxO a n c b m d 45)) (b := w.heap.size + 1) (bxL a2 n2 c2 b2 m2 d2) 45 (by simp)).alloc (bxO none 0 0 none 0 0 45)
  have bR := bx_new (w := (w.alloc (bxO a n c b m d 45)).alloc (bxO a2 n2 c2 b2 m2 d2 45)) (b := w.heap.size + 1 + 1) (bxL none 0 0 none 0 0) 45 (by simp)
  have x0 := bA.c0
  have x1 := bA.c1
  have y0 := bB.c0
  have y1 := bB.c1
  have hc := implPair a b a2 b2 n c m d n2 c2 m2 d2 f g f2 g2 (((w.alloc (bxO a n c b m d 45)).alloc (bxO a2 n2 c2 b2 m2 d2 45)).alloc (bxO none 0 0 none 0 0 45)) (hf.below hb0) (hg.below hb0) (hf2.below hb0) (hg2.below hb0)
  cases e1 : pairB n f m g n2 f2 m2 g2 with
  | false =>
    have e0 : meetB n f m g n2 f2 m2 g2 = false := by simp [meetB, e1]
    rw [e0]
    rw [e1] at hc
    go_enter Try.func21, Try.ntmps21
    go_wp2_with fail
    refine hc.mono ?_
    rintro e w1 ⟨rfl, hb1⟩
    have hB1 := stepA hb0 hb1
    have r := bR.on hb1
    clear hc x0 x1 y0 y1 bA bB bR
    have s0 := r.c0
    have s1 := r.c1
    have f0 := r.fz 0
    have f1 := r.fz 1
    have LR := r.lt
    have bE := ((r.set 0 (by simp) (.slice none 0 0)).set 1 (by simp) (.slice none 0 0))
    have hBE := bSt (g := w.heap.size + 1 + 1) (u := .slice none 0 0) (v := .slice none 0 0) hB1 (by omega)
    go_wp2
    refine ret_box_tmp Try.results21 rfl bE.c0 bE.c1 rfl ?_
    exact ⟨none, 0, none, 0, rfl, bp_none _ _ _ _ _ _ _ (by have := hBE.size; omega), hBE⟩
  | true =>
    rw [e1] at hc
    have e0 : meetB n f m g n2 f2 m2 g2 = allMeet f g f2 g2 n := by simp [meetB, e1]
    rw [e0]
    simp only [pairB, Bool.and_eq_true, decide_eq_true_eq] at e1
    obtain ⟨⟨g1, g3⟩, g4⟩ := e1
    obtain ⟨gf, gg⟩ := good_at g1
    obtain ⟨gf2, gg2⟩ := good_at g3
    obtain ⟨k1, k2, k3, _⟩ := boxB_len g1
    obtain ⟨_, _, k4, _⟩ := boxB_len g3
    subst g4
    have k3 := k3.symm
    subst k3
    have k4 := k4.symm
    subst k4
    have KX := fun w h1 h2 => each_hi2 a a2 n c c2 f f2 w h1 h2 gf gf2
    have KY := fun w h1 h2 => each_lo2 b b2 n d d2 g g2 w h1 h2 gg gg2
    have hn := hf.1
    have hlf := hf.2.1
    have hlg := hg.2.1
    have hlf2 := hf2.2.1
    have hlg2 := hg2.2.1
    clear g1 g3 gf gg gf2 gg2
    go_enter Try.func21, Try.ntmps21
    go_wp2_with fail
    refine hc.mono ?_
    rintro e w1 ⟨rfl, hb1⟩
    have hB1 := stepA hb0 hb1
    have a1 := bA.on hb1
    have b1 := bB.on hb1
    have r1 := bR.on hb1
    have f1 := hf.below hB1
    have u1 := hg.below hB1
    have f3 := hf2.below hB1
    have u3 := hg2.below hB1
    clear hc x0 x1 y0 y1 bA bB bR hb0 hb1 hf hg hf2 hg2
    have hw0 := Below.refl w1.heap.size w1
    go_upto_region 3 with fail
    go_cut [6] from 12 to 23 (fun s wx => CutM w1 wx n (fun i => hiF (f i) (f2 i)) (fun i => loF (g i) (g2 i)) s)
    case first =>
      go_region_held3 (fun w' => w'.cell? ⟨w.heap.size, 0, none⟩ = some (.slice a n c) ∧ w'.cell? ⟨w.heap.size, 1, none⟩ = some (.slice b n d) ∧ w'.cell? ⟨w.heap.size + 1, 0, none⟩ = some (.slice a2 n c2) ∧ w'.cell? ⟨w.heap.size + 1, 1, none⟩ = some (.slice b2 n d2))
        (first | (exact ⟨(a1.on hw0.drew).c0, (a1.on hw0.drew).c1, (b1.on hw0.drew).c0, (b1.on hw0.drew).c1⟩) | (exact ⟨(a1.on hw1).c0, (a1.on hw1).c1, (b1.on hw1).c0, (b1.on hw1).c1⟩) | (exact ⟨(a1.on hw2).c0, (a1.on hw2).c1, (b1.on hw2).c0, (b1.on hw2).c1⟩) | (exact ⟨(a1.on ((hw0.alloc (Nat.le_refl _) _).drew)).c0, (a1.on ((hw0.alloc (Nat.le_refl _) _).drew)).c1, (b1.on ((hw0.alloc (Nat.le_refl _) _).drew)).c0, (b1.on ((hw0.alloc (Nat.le_refl _) _).drew)).c1⟩) | (exact ⟨(a1.on (hw1.alloc hw1.size _)).c0, (a1.on (hw1.alloc hw1.size _)).c1, (b1.on (hw1.alloc hw1.size _)).c0, (b1.on (hw1.alloc hw1.size _)).c1⟩) | (exact ⟨(a1.on (hw2.alloc hw2.size _)).c0, (a1.on (hw2.alloc hw2.size _)).c1, (b1.on (hw2.alloc hw2.size _)).c0, (b1.on (hw2.alloc hw2.size _)).c1⟩) | (exact ⟨(a1.on (bSt hw2 (Nat.le_refl _))).c0, (a1.on (bSt hw2 (Nat.le_refl _))).c1, (b1.on (bSt hw2 (Nat.le_refl _))).c0, (b1.on (bSt hw2 (Nat.le_refl _))).c1⟩) | (exact ⟨(a1.on (bSt hw2 hw1.size)).c0, (a1.on (bSt hw2 hw1.size)).c1, (b1.on (bSt hw2 hw1.size)).c0, (b1.on (bSt hw2 hw1.size)).c1⟩) | (fail))
        (first | (go_at_call_of 62 (Value.slice a n c); refine (KX _ (f1.below (by first | exact hw0.drew | exact (hw0.alloc (Nat.le_refl _) _).drew)) (f3.below (by first | exact hw0.drew | exact (hw0.alloc (Nat.le_refl _) _).drew))).mono ?_; rintro e w5 ⟨l1, rfl, hl1, fp1, hbn⟩; (first | (have hw1 := stepA hw0.drew hbn; have hl1 : w1.heap.size ≤ l1 := hl1) | (have tk := below_al ((Below.refl _ _).drew.trans hbn); have hw1 := stepA hw0 tk; have nb := (bx_new (b := w1.heap.size) (w := w1) (bxL none 0 0 none 0 0) 45 rfl).on ((Below.refl _ _).drew.trans hbn); have hl1 : w1.heap.size + 1 ≤ l1 := (by have := hl1; simpa using this))); have fl1 := fp1.lt; clear hbn) | (go_at_call_of 62 (Value.slice b n d); refine (KY _ (u1.below (by first | exact hw1 | exact (hw1.alloc hw1.size _))) (u3.below (by first | exact hw1 | exact (hw1.alloc hw1.size _)))).mono ?_; rintro e w6 ⟨l2, rfl, hl2, fp2, hbn⟩; (first | (have hw2 := stepA hw1 hbn; (try (have nb2 := nb.on hbn)); have fp3 := fp1.below hbn fl1; have hl3 : l1 < l2 := Nat.lt_of_lt_of_le fl1 hl2) | (have tk := below_al hbn; have hw2 := stepA hw1 tk; have nb2 := (bx_new (b := w5.heap.size) (w := w5) (bxL none 0 0 none 0 0) 45 rfl).on hbn; have fp3 := fp1.below tk fl1; have hl4 : w5.heap.size + 1 ≤ l2 := (by have := hl2; simpa using this); have hl3 : l1 < l2 := (by omega))); clear hbn; (try (have p0 := nb2.c0; have p1 := nb2.c1; have q0 := nb2.fz 0; have q1 := nb2.fz 1))) | (fail))
      all_goals
        go_wp2_with fail
        go_meet
        case rel =>
          first
          | exact cutM_end hw2 (by omega) hl3 fp3 fp2
          | exact cutM_set hw2 (Nat.le_refl _) (by omega) hl3 (by omega) (by omega) nb2 fp3 fp2
          | exact cutM_set hw2 hw1.size (by omega) hl3 (by omega) (by omega) nb2 fp3 fp2
    case rest =>
      obtain ⟨M, l1, l2, rfl, hM, hl1, hl2, n1, n2, bM, p1, p2, hbc⟩ := hcut
      have hB2 := stepA hB1 hbc
      have r2 := r1.on hbc
      have r1l := r1.lt
      clear a1 b1 r1 f1 f3 u1 u3 hw0 KX KY
      have z0 := bM.c0
      have z1 := bM.c1
      have kn := implNone (some ⟨l1, 0, none⟩) (some ⟨l2, 0, none⟩) n n n (fun i => hiF (f i) (f2 i)) (fun i => loF (g i) (g2 i)) wc (fs_of p1 hn (fun i hi => hiF_lt (hlf i hi) (hlf2 i hi))) (fs_of p2 hn (fun i hi => loF_lt (hlg i hi) (hlg2 i hi)))
      rw [meet_none] at kn
      go_wp2_with fail
      refine kn.mono ?_
      rintro e w7 ⟨rfl, hb7⟩
      have hB7 := stepA hB2 hb7
      have r := r2.on hb7
      have q1 := p1.below hb7 p1.lt
      have q2 := p2.below hb7 p2.lt
      have bM7 := bM.on hb7
      have hws := hB1.size
      clear z0 z1 kn hB2 r2 bM p1 p2 hbc
      cases em : allMeet f g f2 g2 n with
      | false =>
        have s0 := r.c0
        have s1 := r.c1
        have f0 := r.fz 0
        have f1 := r.fz 1
        have LR := r.lt
        have bE := ((r.set 0 (by simp) (.slice none 0 0)).set 1 (by simp) (.slice none 0 0))
        have hBE := bSt (g := w.heap.size + 1 + 1) (u := .slice none 0 0) (v := .slice none 0 0) hB7 (by omega)
        go_wp2
        refine ret_box_tmp Try.results21 rfl bE.c0 bE.c1 rfl ?_
        try rw [em]
        exact ⟨none, 0, none, 0, rfl, bp_none _ _ _ _ _ _ _ (by have := hBE.size; omega), hBE⟩
      | true =>
        have z0 := bM7.c0
        have z1 := bM7.c1
        have hsr := r.lt
        have m1 : l1 ≠ w.heap.size + 1 + 1 := by omega
        have m2 : l2 ≠ w.heap.size + 1 + 1 := by omega
        have s0 := r.c0
        have s1 := r.c1
        have f0 := r.fz 0
        have f1 := r.fz 1
        have LR := r.lt
        have bE := ((r.set 0 (by simp) (.slice (some ⟨l1, 0, none⟩) n n)).set 1 (by simp) (.slice (some ⟨l2, 0, none⟩) n n))
        have hBE := bSt (g := w.heap.size + 1 + 1) (u := .slice (some ⟨l1, 0, none⟩) n n) (v := .slice (some ⟨l2, 0, none⟩) n n) hB7 (by omega)
        go_wp2
        refine ret_box_tmp Try.results21 rfl bE.c0 bE.c1 rfl ?_
        try rw [em]
        exact ⟨_, _, _, _, rfl, bp_two ((q1.far _ m1).far _ m1) ((q2.far _ m2).far _ m2) (by omega) hl2, hBE⟩
end Go.Proofs.Ytfciecoigfnnhaa
