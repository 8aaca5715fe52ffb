/- Where a leaf steps to, as the program goes. -/
import Derived.Test.YtjefakfongehdaaRChEnI
import Derived.Test.YtjefakfongehdaaRChStS
import Derived.WalkMore
import Derived.ScopeJumps
namespace Go.Proofs.YtjefakfongehdaaR
open Go.RowKit
/-- where the first arrow goes, -1 where there is none -/
def aimV (m : Nat) (g : Nat → Int) (s e : Int) : Int := match arrowOf m g s e with | some k => g (k * 3 + 2) | none => -1
set_option maxRecDepth 20000 in
set_option maxHeartbeats 2000000 in
theorem iAim (b : Option Addr) (m d : Nat) (g : Nat → Int) (s ev : Int) (w : World) (hm : m ≤ 24) (hg : IL w b (m * 3) g) :
    Calls Try.prog 57 #[.slice b m d, .int .i64 s, .int .i64 ev] w fun e w' => e = .returned (.int .i64 (aimV m g s ev)) ∧ Below w.heap.size w w' := by
  go_enter Try.func57, Try.ntmps57
  go_wp2
  go_loopw [11] (fun i wr => ∃ k : Nat, k ≤ m ∧ i = .int .i64 (k : Int) ∧ Hid (noArw g s ev k) ∧ Below w.heap.size w wr) (fun i _ => m - (intOf i).toNat)
  case atStart => exact ⟨0, Nat.zero_le _, rfl, fun j hj => absurd hj (Nat.not_lt_zero _), Below.refl _ _⟩
  case round =>
    obtain ⟨k, hk, rfl, HN, hB⟩ := hrel
    by_cases hlt : k < m
    · obtain ⟨gb, go_, rfl, gl_, y0, y1, y2⟩ := il_three (hg.below hB) hlt
      have HF : Hid (g (k * 3) = s → g (k * 3 + 1) = ev → aimV m g s ev = g (k * 3 + 2)) := fun h0 h1 => by
        show aimV m g s ev = _
        unfold aimV; rw [arrowOf_first hlt HN.out h0 h1]
      have HG : Hid (¬ (g (k * 3) = s ∧ g (k * 3 + 1) = ev) → noArw g s ev (k + 1)) := fun h0 j hj => by
        by_cases e : j = k
        · rw [e]; exact h0
        · exact HN.out j (by omega)
      generalize g (k * 3) = X at *
      generalize g (k * 3 + 1) = Y at *
      generalize g (k * 3 + 2) = Z at *
      have hbt : Below wr.heap.size wr (wr.alloc (.cells #[.int .i64 X, .int .i64 Y, .int .i64 Z] 69)) := (Below.refl _ _).alloc (Nat.le_refl _) _
      have b3 := bx_new (w := wr) [.int .i64 X, .int .i64 Y, .int .i64 Z] 69 rfl
      have z0 := b3.c0
      have z1 := b3.c1
      have z2 := b3.c2
      have i0 : (0 : Int) ≤ (k : Int) := by omega
      have i1 : (k : Int) < (m : Int) := by omega
      have hBt := stepA hB hbt
      clear hbt b3 HN
      by_cases h0 : X = s
      · have h0' : (X == s) = true := by simpa using h0
        by_cases h1 : Y = ev
        · have h1' : (Y == ev) = true := by simpa using h1
          have HR : Hid (aimV m g s ev = Z) := HF.out h0 h1
          clear HF HG h0 h1
          go_wp2
          go_ret
          exact ⟨ret_int HR.out.symm, hBt⟩
        · have h1' : (Y == ev) = false := by simpa using h1
          have HN2 : Hid (noArw g s ev (k + 1)) := HG.out (fun e => h1 e.2)
          clear HF HG h0 h1
          go_wp2
          exact ⟨⟨k + 1, by omega, by go_num, HN2, hBt⟩, by simp [intOf]; omega⟩
      · have h0' : (X == s) = false := by simpa using h0
        have HN2 : Hid (noArw g s ev (k + 1)) := HG.out (fun e => h0 e.1)
        clear HF HG h0
        go_wp2
        exact ⟨⟨k + 1, by omega, by go_num, HN2, hBt⟩, by simp [intOf]; omega⟩
    · have hkm : k = m := by omega
      subst hkm
      have HR : Hid (aimV k g s ev = -1) := by show aimV k g s ev = -1; unfold aimV; rw [arrowOf_none HN.out]
      clear HN
      go_wp2
      go_ret
      exact ⟨ret_int HR.out.symm, hB⟩
/-- the frame at the label -/
def frmC (C L E : Value) (B : Nat) (s : Int) (u : Nat → Value) : Act := { tmps := #[C, L, E, .pointer (some ⟨B, 0, none⟩), u 4, u 5, u 6, .int .i64 s, u 8, u 9, u 10, u 11, u 12, u 13, u 14, u 15, u 16, u 17, u 18, u 19, u 20, u 21, u 22, u 23, u 24, u 25, u 26, u 27, u 28, u 29], defers := [] }
/-- what holds at each jump -/
def JC (C L E : Value) (B n : Nat) (f : Nat → Int) (m : Nat) (g : Nat → Int) (leaf : Nat) (ev : Int) (w : World) (a' : Act) (w' : World) : Prop :=
  ∃ (u : Nat → Value) (s : Nat), a' = frmC C L E B (s : Int) u ∧ s < n ∧ stepC n f m g leaf ev = stepU n f m g leaf ev s ∧ Below w.heap.size w w'
theorem JC_mk {C L E : Value} {B n : Nat} {f : Nat → Int} {m : Nat} {g : Nat → Int} {leaf : Nat} {ev : Int} {w : World} {a' : Act} {w' : World} {s : Nat} (h : a' = frmC C L E B (s : Int) (fun i => a'.tmps.getD i undef)) (hs : s < n) (he : stepC n f m g leaf ev = stepU n f m g leaf ev s) (hB : Below w.heap.size w w') : JC C L E B n f m g leaf ev w a' w' := ⟨_, s, h, hs, he, hB⟩
theorem Gch.par_or {n m : Nat} {f g : Nat → Int} (H : Gch n f m g) {s : Nat} (hs : s < n) (h : ¬ 0 ≤ f (s * 2)) : f (s * 2) = -1 := by
  by_cases e : s = 0
  · rw [e]; exact H.root
  · have := (H.par s (by omega) hs).1
    omega
set_option maxRecDepth 20000 in
set_option maxHeartbeats 8000000 in
theorem iBehind (a b : Option Addr) (n c m d : Nat) (f g : Nat → Int) (leaf : Nat) (ev : Int) (w : World) (H : Gch n f m g) (hl : leaf < n) (hf : IL w a (n * 2) f) (hg : IL w b (m * 3) g) :
    Calls Try.prog 32 #[chv a n c b m d, .int .i64 (leaf : Int), .int .i64 ev] w fun e w' => e = .returned (.int .i64 (stepC n f m g leaf ev : Nat)) ∧ Below w.heap.size w w' := by
  have hb0 : Below w.heap.size w (w.alloc (chO a n c b m d 26)) := (Below.refl _ _).alloc (Nat.le_refl _) _
  have b0 := bx_new (w := w) (chL a n c b m d) 26 rfl
  have hf0 := hf.below hb0
  have hg0 := hg.below hb0
  have HH : Hid (Gch n f m g) := H
  have HS : Hid (stepC n f m g leaf ev = stepU n f m g leaf ev leaf) := H.stepC_u ev hl
  have hn12 := H.n12
  have hm24 := H.m24
  have kE := fun s w hs h => iUnder a n c m f g s w H hs h
  have kA := fun (s : Nat) w h => iAim b m d g (s : Int) ev w hm24 h
  clear H hf hg
  go_enter Try.func32, Try.ntmps32
  go_wp2
  generalize w.alloc (chO a n c b m d 26) = w1 at *
  refine wp_scope_jumps 0 (JC (chv a n c b m d) (.int .i64 (leaf : Int)) (.int .i64 ev) w.heap.size n f m g leaf ev w1) (fun a' _ => (intOf (a'.tmps.getD 7 undef)).toNat) rfl ?_ ?_
  · have b1 := b0
    have hf1 := hf0
    have hg1 := hg0
    have hs := hl
    have hBw := hb0
    have hBv := Below.refl w1.heap.size w1
    clear b0 hf0 hg0 hb0
    have x0 := b1.c0
    have x1 := b1.c1
    have kA1 := kA leaf w1 hg1
    clear kA
    cases ha : arrowOf m g (leaf : Int) ev with
    | some k =>
      have hk := arrowOf_some ha
      have hA := HH.out.arw k hk.1
      have HR : Hid (stepC n f m g leaf ev = ent n f (g (k * 3 + 2)).toNat) := HS.out.trans (stepU_some ha)
      have hv : aimV m g (leaf : Int) ev = g (k * 3 + 2) := by unfold aimV; rw [ha]
      rw [hv] at kA1
      obtain ⟨u, hu⟩ : ∃ u : Nat, g (k * 3 + 2) = (u : Int) := ⟨(g (k * 3 + 2)).toNat, by omega⟩
      have hun : u < n := by omega
      rw [hu] at kA1 HR
      rw [Int.toNat_natCast] at HR
      have ju : ((u : Int) == -1) = false := by simp <;> omega
      have ju2 : ¬ (u : Int) = -1 := by omega
      clear hk hA hv hu ha HS HH
      go_wp2_with fail
      go_step3
      go_wp2_with fail
      refine kA1.mono ?_
      rintro e w3 ⟨rfl, hb3⟩
      have hB3 := stepA hBw hb3
      have b3 := b1.on hb3
      have kE3 := kE u w3 hun (hf1.below hb3)
      clear kA1 x0 x1 kE
      have x0 := b3.c0
      have x1 := b3.c1
      go_wp2_with fail
      refine kE3.mono ?_
      rintro e w4 ⟨rfl, hw4⟩
      have hs4 := hw4.symm
      clear hw4 kE3
      subst hs4
      go_wp2
      first | go_ret | (rw [Exit.noGoto_ret]; go_ret) | (simp only [Exit.jump]; go_ret)
      exact ⟨ret_int (by rw [HR.out]), hB3⟩
    | none =>
      have hv : aimV m g (leaf : Int) ev = -1 := by unfold aimV; rw [ha]
      rw [hv] at kA1
      clear hv kE
      obtain ⟨fb, fo_, rfl, fl_, y0, y1⟩ := il_two hf1 hs
      have i0 : (0 : Int) ≤ (leaf : Int) := by omega
      have i1 : (leaf : Int) < (n : Int) := by omega
      by_cases h0 : 0 ≤ f (leaf * 2)
      · obtain ⟨h1, h2⟩ := HH.out.up hs h0
        have HE2 : Hid (stepC n f m g leaf ev = stepU n f m g leaf ev (f (leaf * 2)).toNat) := HS.out.trans (HH.out.stepU_up hs ha h0)
        obtain ⟨u, hu⟩ : ∃ u, (f (leaf * 2)).toNat = u := ⟨_, rfl⟩
        rw [hu] at h1 h2 HE2
        rw [← h2] at y0
        have ju : ((u : Int) == -1) = false := by simp <;> omega
        have ju2 : ¬ (u : Int) = -1 := by omega
        clear hu h2 h0 ha HS HH
        go_wp2_with fail
        go_step3
        go_wp2_with fail
        refine kA1.mono ?_
        rintro e w3 ⟨rfl, hb3⟩
        have hB3 := stepA hBv hb3
        have b3 := b1.on hb3
        have y2 := (hb3.cell (p := ⟨fb, _, none⟩) fl_).trans y0
        clear kA1 x0 x1
        have x0 := b3.c0
        have x1 := b3.c1
        go_wp2
        go_step3
        exact ⟨rfl, JC_mk (s := u) rfl (by omega) HE2.out hB3⟩
      · have hm1 := HH.out.par_or hs h0
        have HR : Hid (stepC n f m g leaf ev = leaf) := HS.out.trans (stepU_end ha h0)
        rw [hm1] at y0
        clear hm1 h0 ha HS HH
        go_wp2_with fail
        go_step3
        go_wp2_with fail
        refine kA1.mono ?_
        rintro e w3 ⟨rfl, hb3⟩
        have hB3 := stepA hBw hb3
        have b3 := b1.on hb3
        have y2 := (hb3.cell (p := ⟨fb, _, none⟩) fl_).trans y0
        clear kA1 x0 x1
        have x0 := b3.c0
        have x1 := b3.c1
        go_wp2
        first | go_ret | (rw [Exit.noGoto_ret]; go_ret) | (simp only [Exit.jump]; go_ret)
        exact ⟨ret_int (by rw [HR.out]), hB3⟩
  · rintro a' wr ⟨u, s, rfl, hs, HSr, hBv⟩
    have HS2 : Hid (stepC n f m g leaf ev = stepU n f m g leaf ev s) := HSr
    clear HSr HS
    have HS := HS2
    have b1 := b0.on hBv
    have hf1 := hf0.below hBv
    have hg1 := hg0.below hBv
    have hBw := stepA hb0 hBv
    clear b0 hf0 hg0 hb0 HS2
    unfold frmC
    have x0 := b1.c0
    have x1 := b1.c1
    have kA1 := kA s wr hg1
    clear kA
    cases ha : arrowOf m g (s : Int) ev with
    | some k =>
      have hk := arrowOf_some ha
      have hA := HH.out.arw k hk.1
      have HR : Hid (stepC n f m g leaf ev = ent n f (g (k * 3 + 2)).toNat) := HS.out.trans (stepU_some ha)
      have hv : aimV m g (s : Int) ev = g (k * 3 + 2) := by unfold aimV; rw [ha]
      rw [hv] at kA1
      obtain ⟨u, hu⟩ : ∃ u : Nat, g (k * 3 + 2) = (u : Int) := ⟨(g (k * 3 + 2)).toNat, by omega⟩
      have hun : u < n := by omega
      rw [hu] at kA1 HR
      rw [Int.toNat_natCast] at HR
      have ju : ((u : Int) == -1) = false := by simp <;> omega
      have ju2 : ¬ (u : Int) = -1 := by omega
      clear hk hA hv hu ha HS HH
      go_wp2_with fail
      refine kA1.mono ?_
      rintro e w3 ⟨rfl, hb3⟩
      have hB3 := stepA hBw hb3
      have b3 := b1.on hb3
      have kE3 := kE u w3 hun (hf1.below hb3)
      clear kA1 x0 x1 kE
      have x0 := b3.c0
      have x1 := b3.c1
      go_wp2_with fail
      refine kE3.mono ?_
      rintro e w4 ⟨rfl, hw4⟩
      have hs4 := hw4.symm
      clear hw4 kE3
      subst hs4
      go_wp2
      first | go_ret | (rw [Exit.noGoto_ret]; go_ret) | (simp only [Exit.jump]; go_ret)
      exact ⟨ret_int (by rw [HR.out]), hB3⟩
    | none =>
      have hv : aimV m g (s : Int) ev = -1 := by unfold aimV; rw [ha]
      rw [hv] at kA1
      clear hv kE
      obtain ⟨fb, fo_, rfl, fl_, y0, y1⟩ := il_two hf1 hs
      have i0 : (0 : Int) ≤ (s : Int) := by omega
      have i1 : (s : Int) < (n : Int) := by omega
      by_cases h0 : 0 ≤ f (s * 2)
      · obtain ⟨h1, h2⟩ := HH.out.up hs h0
        have HE2 : Hid (stepC n f m g leaf ev = stepU n f m g leaf ev (f (s * 2)).toNat) := HS.out.trans (HH.out.stepU_up hs ha h0)
        obtain ⟨u, hu⟩ : ∃ u, (f (s * 2)).toNat = u := ⟨_, rfl⟩
        rw [hu] at h1 h2 HE2
        rw [← h2] at y0
        have ju : ((u : Int) == -1) = false := by simp <;> omega
        have ju2 : ¬ (u : Int) = -1 := by omega
        clear hu h2 h0 ha HS HH
        go_wp2_with fail
        refine kA1.mono ?_
        rintro e w3 ⟨rfl, hb3⟩
        have hB3 := stepA hBv hb3
        have b3 := b1.on hb3
        have y2 := (hb3.cell (p := ⟨fb, _, none⟩) fl_).trans y0
        clear kA1 x0 x1
        have x0 := b3.c0
        have x1 := b3.c1
        go_wp2
        go_step3
        exact ⟨rfl, JC_mk (s := u) rfl (by omega) HE2.out hB3, by simp [intOf]; omega⟩
      · have hm1 := HH.out.par_or hs h0
        have HR : Hid (stepC n f m g leaf ev = leaf) := HS.out.trans (stepU_end ha h0)
        rw [hm1] at y0
        clear hm1 h0 ha HS HH
        go_wp2_with fail
        refine kA1.mono ?_
        rintro e w3 ⟨rfl, hb3⟩
        have hB3 := stepA hBw hb3
        have b3 := b1.on hb3
        have y2 := (hb3.cell (p := ⟨fb, _, none⟩) fl_).trans y0
        clear kA1 x0 x1
        have x0 := b3.c0
        have x1 := b3.c1
        go_wp2
        first | go_ret | (rw [Exit.noGoto_ret]; go_ret) | (simp only [Exit.jump]; go_ret)
        exact ⟨ret_int (by rw [HR.out]), hB3⟩
end Go.Proofs.YtjefakfongehdaaR
