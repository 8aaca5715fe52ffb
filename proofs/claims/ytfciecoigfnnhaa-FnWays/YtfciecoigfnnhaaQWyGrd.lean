/- The ground under a list of cells, as the program makes it. -/
import Derived.Test.YtfciecoigfnnhaaQWyLeg
import Derived.Test.YtfciecoigfnnhaaQWyGof
import Derived.Test.YtfciecoigfnnhaaQSzHv
import Derived.BigQuiet
import Derived.Deep.RegionHeld
import Derived.Deep.RegionHeld3
import Derived.Deep.CutRange
import Derived.WalkSmall
namespace Go.Proofs.Ytfciecoigfnnhaa
open Go.RowKit

/-- are cells good, and is a list short enough and its first cell free -/
def hdB (W : Int) (n : Nat) (f : Nat → Int) (m : Nat) (g : Nat → Int) : Bool := celB W n f && decide (1 ≤ m) && decide (m ≤ 256) && frB n f (g 0)
theorem hdB_parts {W : Int} {n m : Nat} {f g : Nat → Int} (h : hdB W n f m g = true) : celB W n f = true ∧ 1 ≤ m ∧ m ≤ 256 ∧ frB n f (g 0) = true := by
  simp only [hdB, Bool.and_eq_true, decide_eq_true_eq] at h
  exact ⟨h.1.1.1, h.1.1.2, h.1.2, h.2⟩
theorem ret_gof {W H : Int} {a : Option Addr} {n c : Nat} (h : hgt W n = H) : Ending.returned (.tuple #[gr W H a n c, .bool true]) = .returned (.tuple #[gof W a n c true, .bool true]) := by subst h; rfl
set_option maxHeartbeats 4000000 in
theorem groundFrom_any (W : Int) (q b : Option Addr) (n c m d : Nat) (f g : Nat → Int) (w : World) (hn : n ≤ 1048576) (hm : m ≤ 1048576) (hf : IL w q n f) (hg : IL w b m g) :
    Calls Try.prog 50 #[cel W q n c, .slice b m d] w fun e w' => e = .returned (.tuple #[gof W q n c (hdB W n f m g), .bool (hdB W n f m g)]) ∧ Below w.heap.size w w' := by
  have hb0 : Below w.heap.size w ((w.alloc (celO W q n c 25)).alloc (.cells #[.int .i64 0, .int .i64 0, .slice none 0 0] 73)) := ((Below.refl _ _).alloc (Nat.le_refl _) _).alloc (by simp) _
  have bR := bx_new (w := w.alloc (celO W q n c 25)) (b := w.heap.size + 1) [.int .i64 0, .int .i64 0, .slice none 0 0] 73 (by simp)
  cases eg : celB W n f with
  | false =>
    have e0 : hdB W n f m g = false := by simp [hdB, eg]
    rw [e0]
    have kg := groundOf_no W q n c f ((w.alloc (celO W q n c 25)).alloc (.cells #[.int .i64 0, .int .i64 0, .slice none 0 0] 73)) hn (hf.below hb0) eg
    go_enter Try.func50, Try.ntmps50
    go_wp2_with fail
    refine kg.mono ?_
    rintro e9 w1 ⟨rfl, hb1⟩
    have hB1 := stepA hb0 hb1
    have r1 := bR.on hb1
    have r2 := r1.alloc (.cells #[.int .i64 0, .int .i64 0, .slice none 0 0] 73)
    have hB2 := hB1.alloc hB1.size (.cells #[.int .i64 0, .int .i64 0, .slice none 0 0] 73)
    clear kg
    go_upto_region 2 with fail
    generalize w1.alloc (.cells #[.int .i64 0, .int .i64 0, .slice none 0 0] 73) = w2 at hB2 r2 ⊢
    go_quiet (fail)
    have r3 := r2.on (below_drewN (Below.refl _ _) nq)
    have hB3 := below_drewN hB2 nq
    generalize w2.drewN nq = w3 at r3 hB3 ⊢
    have s0 := r3.c0
    have s1 := r3.c1
    have s2 := r3.c2
    have f0 := r3.fz 0
    have f1 := r3.fz 1
    have f2 := r3.fz 2
    have bE := (((r3.set 0 (by simp) (.int .i64 0)).set 1 (by simp) (.int .i64 0)).set 2 (by simp) (.slice none 0 0))
    have hBE := (((hB3.setCell (p := ⟨w.heap.size + 1, 0, none⟩) (by simp) (.int .i64 0)).setCell (p := ⟨w.heap.size + 1, 1, none⟩) (by simp) (.int .i64 0)).setCell (p := ⟨w.heap.size + 1, 2, none⟩) (by simp) (.slice none 0 0))
    have LR := r3.lt
    go_wp2
    refine ret_gr_tmp Try.results50 rfl bE.c0 bE.c1 bE.c2 rfl ?_
    exact ⟨rfl, hBE⟩
  | true =>
    have kg := groundOf_yes W q n c f ((w.alloc (celO W q n c 25)).alloc (.cells #[.int .i64 0, .int .i64 0, .slice none 0 0] 73)) hn (hf.below hb0) eg
    have eh : Hid (hdB W n f m g = (decide (1 ≤ m) && decide (m ≤ 256) && frB n f (g 0))) := (by simp [hdB, eg] : _ = _)
    go_enter Try.func50, Try.ntmps50
    go_wp2_with fail
    refine kg.mono ?_
    rintro e9 w1 ⟨rfl, hb1⟩
    have hB1 := stepA hb0 hb1
    have r1 := bR.on hb1
    have r2 := r1.alloc (.cells #[.int .i64 W, .int .i64 (hgt W n), .slice q n c] 73)
    have bG := bx_new (w := w1) (b := w1.heap.size) [.int .i64 W, .int .i64 (hgt W n), .slice q n c] 73 rfl
    have hB2 := hB1.alloc hB1.size (.cells #[.int .i64 W, .int .i64 (hgt W n), .slice q n c] 73)
    clear kg
    go_upto_region 2 with fail
    generalize w1.alloc (.cells #[.int .i64 W, .int .i64 (hgt W n), .slice q n c] 73) = w2 at hB2 r2 bG ⊢
    generalize w1.heap.size = G at bG ⊢
    clear hb1 hB1 r1
    by_cases m1 : (m : Int) < 1
    · have e0 : hdB W n f m g = false := by rw [eh.out]; simp; omega
      go_quiet (fail)
      have r3 := r2.on (below_drewN (Below.refl _ _) nq)
      have hB3 := below_drewN hB2 nq
      generalize w2.drewN nq = w3 at r3 hB3 ⊢
      have s0 := r3.c0
      have s1 := r3.c1
      have s2 := r3.c2
      have f0 := r3.fz 0
      have f1 := r3.fz 1
      have f2 := r3.fz 2
      have bE := (((r3.set 0 (by simp) (.int .i64 0)).set 1 (by simp) (.int .i64 0)).set 2 (by simp) (.slice none 0 0))
      have hBE := (((hB3.setCell (p := ⟨w.heap.size + 1, 0, none⟩) (by simp) (.int .i64 0)).setCell (p := ⟨w.heap.size + 1, 1, none⟩) (by simp) (.int .i64 0)).setCell (p := ⟨w.heap.size + 1, 2, none⟩) (by simp) (.slice none 0 0))
      have LR := r3.lt
      go_wp2
      refine ret_gr_tmp Try.results50 rfl bE.c0 bE.c1 bE.c2 rfl ?_
      try rw [e0]
      exact ⟨rfl, hBE⟩
    by_cases m3 : (256 : Int) < (m : Int)
    · have e0 : hdB W n f m g = false := by rw [eh.out]; simp; omega
      go_quiet (fail)
      have r3 := r2.on (below_drewN (Below.refl _ _) nq)
      have hB3 := below_drewN hB2 nq
      generalize w2.drewN nq = w3 at r3 hB3 ⊢
      have s0 := r3.c0
      have s1 := r3.c1
      have s2 := r3.c2
      have f0 := r3.fz 0
      have f1 := r3.fz 1
      have f2 := r3.fz 2
      have bE := (((r3.set 0 (by simp) (.int .i64 0)).set 1 (by simp) (.int .i64 0)).set 2 (by simp) (.slice none 0 0))
      have hBE := (((hB3.setCell (p := ⟨w.heap.size + 1, 0, none⟩) (by simp) (.int .i64 0)).setCell (p := ⟨w.heap.size + 1, 1, none⟩) (by simp) (.int .i64 0)).setCell (p := ⟨w.heap.size + 1, 2, none⟩) (by simp) (.slice none 0 0))
      have LR := r3.lt
      go_wp2
      refine ret_gr_tmp Try.results50 rfl bE.c0 bE.c1 bE.c2 rfl ?_
      try rw [e0]
      exact ⟨rfl, hBE⟩
    have m5 : 1 ≤ m ∧ m ≤ 256 := by omega
    have hf2 := hf.below hB2
    obtain ⟨gb, go, rfl, hgb, hgc⟩ := hg (by omega)
    have hg1 := (hB2.cell (p := ⟨gb, go + 0, none⟩) hgb).trans (hgc 0 (by omega))
    have hgb2 : gb < w2.heap.size := Nat.lt_of_lt_of_le hgb hB2.size
    have kf := fun w h => free_any W (hgt W n) q n c f (g 0) w h hn
    have eh2 : Hid (hdB W n f m g = frB n f (g 0)) := (by rw [eh.out]; simp [m5.1, m5.2] : _ = _)
    clear eh
    generalize frB n f (g 0) = fb at kf eh2
    generalize hH : hgt W n = H at *
    have HH : Hid (hgt W n = H) := hH
    clear hH
    have hw0 := Below.refl w2.heap.size w2
    clear hgc hf hg
    generalize g 0 = g0 at *
    refine wp_region_held (S := fun w' => w'.cell? ⟨G, 0, none⟩ = some (.int .i64 W) ∧ w'.cell? ⟨G, 1, none⟩ = some (.int .i64 H) ∧ w'.cell? ⟨G, 2, none⟩ = some (.slice q n c) ∧ w'.cell? ⟨gb, go + 0, none⟩ = some (.int .i64 g0)) (by kernel_rfl) ?_
    change wpAnyH _ _ _ _ _ _ _ _ (World.drew _)
    have hSw := (⟨(bG.on hw0.drew).c0, (bG.on hw0.drew).c1, (bG.on hw0.drew).c2, (hw0.drew.cell (p := ⟨gb, go + 0, none⟩) hgb2).trans hg1⟩ : _ ∧ _ ∧ _ ∧ _)
    refine wpAnyH_take (i := 0) (v := .bool true) rfl (by kernel_rfl) (by kernel_rfl) (by kernel_rfl) (fun _ _ _ h => h) (Or.inl ⟨by rfl, ?_⟩) hSw ?_
    · intro wz hsz
      obtain ⟨z0, z1, z2, z3⟩ := hsz
      go_simp
    try simp [Act.put]
    refine wpAnyH_take (i := 1) (v := .bool false) rfl (by kernel_rfl) (by kernel_rfl) (by kernel_rfl) (fun _ _ _ h => h) (Or.inl ⟨by rfl, ?_⟩) hSw ?_
    · intro wz hsz
      obtain ⟨z0, z1, z2, z3⟩ := hsz
      go_simp
    try simp [Act.put]
    refine wpAnyH_take (i := 2) (v := .bool false) rfl (by kernel_rfl) (by kernel_rfl) (by kernel_rfl) (fun _ _ _ h => h) (Or.inl ⟨by rfl, ?_⟩) hSw ?_
    · intro wz hsz
      obtain ⟨z0, z1, z2, z3⟩ := hsz
      go_simp
    try simp [Act.put]
    refine wpAnyH_take (i := 3) (v := .slice (some ⟨gb, go, none⟩) m d) rfl (by kernel_rfl) (by kernel_rfl) (by kernel_rfl) (fun _ _ _ h => h) (Or.inl ⟨by rfl, ?_⟩) hSw ?_
    · intro wz hsz
      obtain ⟨z0, z1, z2, z3⟩ := hsz
      go_simp
    try simp [Act.put]
    refine wpAnyH_take (i := 4) (v := .int .i64 (m : Int)) rfl (by kernel_rfl) (by kernel_rfl) (by kernel_rfl) (fun _ _ _ h => h) (Or.inl ⟨by rfl, ?_⟩) hSw ?_
    · intro wz hsz
      obtain ⟨z0, z1, z2, z3⟩ := hsz
      go_simp
    try simp [Act.put]
    refine wpAnyH_take (i := 5) (v := .bool false) rfl (by kernel_rfl) (by kernel_rfl) (by kernel_rfl) (fun _ _ _ h => h) (Or.inl ⟨by rfl, ?_⟩) hSw ?_
    · intro wz hsz
      obtain ⟨z0, z1, z2, z3⟩ := hsz
      go_simp
      try omega
    try simp [Act.put]
    refine wpAnyH_take (i := 6) (v := .bool false) rfl (by kernel_rfl) (by kernel_rfl) (by kernel_rfl) (fun _ _ _ h => h) (Or.inl ⟨by rfl, ?_⟩) hSw ?_
    · intro wz hsz
      obtain ⟨z0, z1, z2, z3⟩ := hsz
      go_simp
    try simp [Act.put]
    refine wpAnyH_take (i := 7) (v := .bool false) rfl (by kernel_rfl) (by kernel_rfl) (by kernel_rfl) (fun _ _ _ h => h) (Or.inl ⟨by rfl, ?_⟩) hSw ?_
    · intro wz hsz
      obtain ⟨z0, z1, z2, z3⟩ := hsz
      go_simp
    try simp [Act.put]
    refine wpAnyH_take (i := 8) (v := .slice (some ⟨gb, go, none⟩) m d) rfl (by kernel_rfl) (by kernel_rfl) (by kernel_rfl) (fun _ _ _ h => h) (Or.inl ⟨by rfl, ?_⟩) hSw ?_
    · intro wz hsz
      obtain ⟨z0, z1, z2, z3⟩ := hsz
      go_simp
    try simp [Act.put]
    refine wpAnyH_take (i := 9) (v := .int .i64 (m : Int)) rfl (by kernel_rfl) (by kernel_rfl) (by kernel_rfl) (fun _ _ _ h => h) (Or.inl ⟨by rfl, ?_⟩) hSw ?_
    · intro wz hsz
      obtain ⟨z0, z1, z2, z3⟩ := hsz
      go_simp
    try simp [Act.put]
    refine wpAnyH_take (i := 10) (v := .bool false) rfl (by kernel_rfl) (by kernel_rfl) (by kernel_rfl) (fun _ _ _ h => h) (Or.inl ⟨by rfl, ?_⟩) hSw ?_
    · intro wz hsz
      obtain ⟨z0, z1, z2, z3⟩ := hsz
      go_simp
      try omega
    try simp [Act.put]
    refine wpAnyH_take (i := 11) (v := .bool false) rfl (by kernel_rfl) (by kernel_rfl) (by kernel_rfl) (fun _ _ _ h => h) (Or.inl ⟨by rfl, ?_⟩) hSw ?_
    · intro wz hsz
      obtain ⟨z0, z1, z2, z3⟩ := hsz
      go_simp
    try simp [Act.put]
    refine wpAnyH_take (i := 12) (v := .bool false) rfl (by kernel_rfl) (by kernel_rfl) (by kernel_rfl) (fun _ _ _ h => h) (Or.inl ⟨by rfl, ?_⟩) hSw ?_
    · intro wz hsz
      obtain ⟨z0, z1, z2, z3⟩ := hsz
      go_simp
    try simp [Act.put]
    refine wpAnyH_take (i := 13) (v := gr W H q n c) rfl (by kernel_rfl) (by kernel_rfl) (by kernel_rfl) (fun _ _ _ h => h) (Or.inl ⟨by rfl, ?_⟩) hSw ?_
    · intro wz hsz
      obtain ⟨z0, z1, z2, z3⟩ := hsz
      go_simp
    try simp [Act.put]
    refine wpAnyH_take (i := 14) (v := .slice (some ⟨gb, go, none⟩) m d) rfl (by kernel_rfl) (by kernel_rfl) (by kernel_rfl) (fun _ _ _ h => h) (Or.inl ⟨by rfl, ?_⟩) hSw ?_
    · intro wz hsz
      obtain ⟨z0, z1, z2, z3⟩ := hsz
      go_simp
    try simp [Act.put]
    refine wpAnyH_take (i := 15) (v := .pointer (some ⟨gb, go + 0, none⟩)) rfl (by kernel_rfl) (by kernel_rfl) (by kernel_rfl) (fun _ _ _ h => h) (Or.inl ⟨by rfl, ?_⟩) hSw ?_
    · intro wz hsz
      obtain ⟨z0, z1, z2, z3⟩ := hsz
      go_simp
      intro h9; omega
    try simp [Act.put]
    refine wpAnyH_take (i := 16) (v := .int .i64 g0) rfl (by kernel_rfl) (by kernel_rfl) (by kernel_rfl) (fun _ _ _ h => h) (Or.inl ⟨by rfl, ?_⟩) hSw ?_
    · intro wz hsz
      obtain ⟨z0, z1, z2, z3⟩ := hsz
      go_simp
    try simp [Act.put]
    refine wpAnyH_ready (rs := [17]) (by kernel_rfl) (by simp) ?_
    refine AllReadyH.cons rfl (fun K hK => ?_) AllReadyH.nil
    go_simp
    go_wp2_with (first | (go_at_call 41; refine (kf _ (hf2.below hw0.drew)).mono ?_; rintro e9 w6 ⟨rfl, hb6⟩; have hw2 := stepA hw0.drew hb6; clear hb6) | (fail))
    refine hK.out _ _ (⟨(bG.on hw2).c0, (bG.on hw2).c1, (bG.on hw2).c2, (hw2.cell (p := ⟨gb, go + 0, none⟩) hgb2).trans hg1⟩) (fun hSn => ?_)
    clear hK K hSw
    have hSw := hSn
    clear hSn
    try simp [Act.put]
    refine wpAnyH_take (i := 18) (v := .bool (!fb)) rfl (by kernel_rfl) (by kernel_rfl) (by kernel_rfl) (fun _ _ _ h => h) (Or.inl ⟨by rfl, ?_⟩) hSw ?_
    · intro wz hsz
      obtain ⟨z0, z1, z2, z3⟩ := hsz
      go_simp
    try simp [Act.put]
    refine wpAnyH_take (i := 19) (v := .bool (!fb)) rfl (by kernel_rfl) (by kernel_rfl) (by kernel_rfl) (fun _ _ _ h => h) (Or.inl ⟨by rfl, ?_⟩) hSw ?_
    · intro wz hsz
      obtain ⟨z0, z1, z2, z3⟩ := hsz
      go_simp
    try simp [Act.put]
    refine wpAnyH_done (by kernel_rfl) ?_ _
    cases fb with
    | false =>
      have e0 := eh2.out
      have r3 := r2.on hw2
      have hB3 := stepA hB2 hw2
      have s0 := r3.c0
      have s1 := r3.c1
      have s2 := r3.c2
      have f0 := r3.fz 0
      have f1 := r3.fz 1
      have f2 := r3.fz 2
      have bE := (((r3.set 0 (by simp) (.int .i64 0)).set 1 (by simp) (.int .i64 0)).set 2 (by simp) (.slice none 0 0))
      have hBE := (((hB3.setCell (p := ⟨w.heap.size + 1, 0, none⟩) (by simp) (.int .i64 0)).setCell (p := ⟨w.heap.size + 1, 1, none⟩) (by simp) (.int .i64 0)).setCell (p := ⟨w.heap.size + 1, 2, none⟩) (by simp) (.slice none 0 0))
      have LR := r3.lt
      go_wp2
      refine ret_gr_tmp Try.results50 rfl bE.c0 bE.c1 bE.c2 rfl ?_
      try rw [e0]
      exact ⟨rfl, hBE⟩
    | true =>
      have e0 := eh2.out
      have r3 := r2.on hw2
      have hB3 := stepA hB2 hw2
      have c3 := bG.on hw2
      have u0 := c3.c0
      have u1 := c3.c1
      have u2 := c3.c2
      have s0 := r3.c0
      have s1 := r3.c1
      have s2 := r3.c2
      have f0 := r3.fz 0
      have f1 := r3.fz 1
      have f2 := r3.fz 2
      have bE := (((r3.set 0 (by simp) (.int .i64 W)).set 1 (by simp) (.int .i64 H)).set 2 (by simp) (.slice q n c))
      have hBE := (((hB3.setCell (p := ⟨w.heap.size + 1, 0, none⟩) (by simp) (.int .i64 W)).setCell (p := ⟨w.heap.size + 1, 1, none⟩) (by simp) (.int .i64 H)).setCell (p := ⟨w.heap.size + 1, 2, none⟩) (by simp) (.slice q n c))
      have LR := r3.lt
      go_wp2
      refine ret_gr_tmp Try.results50 rfl bE.c0 bE.c1 bE.c2 rfl ?_
      try rw [e0]
      exact ⟨ret_gof HH.out, hBE⟩
end Go.Proofs.Ytfciecoigfnnhaa
