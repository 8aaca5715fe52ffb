/- A chart's step, as the model says it. -/
import Derived.Test.YtjefakfongehdaaRChGcS
import Derived.Test.YtjefakfongehdaaRChStS
namespace Go.Proofs.YtjefakfongehdaaR
open Go.RowKit
def evB (e : Int) : Bool := decide (0 ≤ e) && decide (e < 6)
theorem sEvent (x : Int) (w : World) : Calls Try.prog 49 #[.int .i64 x] w fun e w' => e = .returned (.bool (evB x)) ∧ Below w.heap.size w w' := by
  by_cases h0 : 0 ≤ x
  · by_cases h1 : x < 6
    · have hr : evB x = true := by unfold evB; simp [h0, h1]
      rw [hr]
      go_enter Try.func49, Try.ntmps49
      go_wp2
      go_ret
      exact ⟨rfl, Below.refl _ _⟩
    · have hr : evB x = false := by unfold evB; simp [h1]
      rw [hr]
      go_enter Try.func49, Try.ntmps49
      go_wp2
      go_ret
      exact ⟨rfl, Below.refl _ _⟩
  · have hr : evB x = false := by unfold evB; simp [h0]
    rw [hr]
    go_enter Try.func49, Try.ntmps49
    go_wp2
    go_ret
    exact ⟨rfl, Below.refl _ _⟩
set_option maxHeartbeats 8000000 in
theorem sChartStep (a b : Option Addr) (n c m d : Nat) (f g : Nat → Int) (s ev : Int) (w : World) (hn : n ≤ 1048576) (hm : m ≤ 1048576) (hf : IL w a (n * 2) f) (hg : IL w b (m * 3) g) :
    Calls Try.prog 21 #[chv a n c b m d, .int .i64 s, .int .i64 ev] w fun e w' => e = .returned (.int .i64 (stepV n f m g s ev)) ∧ Below w.heap.size w w' := by
  have hb0 : Below w.heap.size w (w.alloc (chO a n c b m d 26)) := (Below.refl _ _).alloc (Nat.le_refl _) _
  have b0 := bx_new (w := w) (chL a n c b m d) 26 rfl
  have x0 := b0.c0
  have x1 := b0.c1
  have hf0 := hf.below hb0
  have hg0 := hg.below hb0
  have kG := sGoodChart a b n c m d f g (w.alloc (chO a n c b m d 26)) hn hm hf0 hg0
  have kV := fun w => sEvent ev w
  clear hf hg
  cases hq : gchB n f m g with
  | false =>
    have hr : stepV n f m g s ev = -1 := by unfold stepV; rw [if_neg (fun h => by rw [hq] at h; cases h.1)]
    rw [hr]
    rw [hq] at kG
    clear hq hr kV
    go_enter Try.func21, Try.ntmps21
    go_wp2_with fail
    refine kG.mono ?_
    rintro e w1 ⟨rfl, hb1⟩
    have hB1 := stepA hb0 hb1
    have b1 := b0.on hb1
    have hf1 := hf0.below hb1
    have hg1 := hg0.below hb1
    clear kG b0 x0 x1
    have x0 := b1.c0
    have x1 := b1.c1
    go_wp2
    go_ret
    exact ⟨rfl, hB1⟩
  | true =>
    rw [hq] at kG
    by_cases h0 : s < 0
    · have hr : stepV n f m g s ev = -1 := by unfold stepV; rw [if_neg (fun h => by omega)]
      rw [hr]
      clear hq hr kV
      go_enter Try.func21, Try.ntmps21
      go_wp2_with fail
      refine kG.mono ?_
      rintro e w1 ⟨rfl, hb1⟩
      have hB1 := stepA hb0 hb1
      have b1 := b0.on hb1
      have hf1 := hf0.below hb1
      have hg1 := hg0.below hb1
      clear kG b0 x0 x1
      have x0 := b1.c0
      have x1 := b1.c1
      go_wp2
      go_ret
      exact ⟨rfl, hB1⟩
    · by_cases h1 : s < (n : Int)
      · obtain ⟨S, rfl⟩ : ∃ S : Nat, s = (S : Int) := ⟨s.toNat, by omega⟩
        have h2 : ¬ (n : Int) ≤ (S : Int) := by omega
        have h3 : (0 : Int) ≤ (S : Int) := by omega
        have H := gchB_iff.1 hq
        obtain ⟨gb, go_, rfl, gl_, y0, y1⟩ := il_two hf0 (show S < n by omega)
        have kS := fun w h1 h2 => sStep (some ⟨gb, go_, none⟩) b n c m d f g S ev w H (by omega) h1 h2
        by_cases hF : f (S * 2 + 1) = -1
        · rw [hF] at y1
          cases he : evB ev with
          | true =>
            have hr : stepV n f m g (S : Int) ev = ((stepC n f m g S ev : Nat) : Int) := by
              have h9 : 0 ≤ ev ∧ ev < 6 := by unfold evB at he; simpa using he
              unfold stepV; rw [if_pos ⟨hq, by omega, h1, by rw [Int.toNat_natCast]; exact hF, h9.1, h9.2⟩, Int.toNat_natCast]
            rw [hr]
            rw [he] at kV
            clear hq hr H hF he
            go_enter Try.func21, Try.ntmps21
            go_wp2_with fail
            refine kG.mono ?_
            rintro e w1 ⟨rfl, hb1⟩
            have hB1 := stepA hb0 hb1
            have b1 := b0.on hb1
            have hf1 := hf0.below hb1
            have hg1 := hg0.below hb1
            clear kG b0 x0 x1
            have x0 := b1.c0
            have x1 := b1.c1
            have y2 := (hb1.cell (p := ⟨gb, _, none⟩) gl_).trans y1
            go_wp2_with fail
            refine (kV _).mono ?_
            rintro e w2 ⟨rfl, hb2⟩
            have hB2 := stepA hB1 hb2
            have b2 := b1.on hb2
            have hf2 := hf1.below hb2
            have hg2 := hg1.below hb2
            clear x0 x1 y0 y1 y2 kV
            have x0 := b2.c0
            have x1 := b2.c1
            go_wp2_with fail
            refine (kS _ hf2 hg2).mono ?_
            rintro e w3 ⟨rfl, hb3⟩
            have hB3 := stepA hB2 hb3
            clear kS x0 x1
            go_wp2
            go_ret
            exact ⟨rfl, hB3⟩
          | false =>
            have hr : stepV n f m g (S : Int) ev = -1 := by
              unfold stepV; rw [if_neg (fun h => by
                have : evB ev = true := by unfold evB; simp [h.2.2.2.2.1, h.2.2.2.2.2]
                rw [he] at this; cases this)]
            rw [hr]
            rw [he] at kV
            clear hq hr H hF he kS
            go_enter Try.func21, Try.ntmps21
            go_wp2_with fail
            refine kG.mono ?_
            rintro e w1 ⟨rfl, hb1⟩
            have hB1 := stepA hb0 hb1
            have b1 := b0.on hb1
            have hf1 := hf0.below hb1
            have hg1 := hg0.below hb1
            clear kG b0 x0 x1
            have x0 := b1.c0
            have x1 := b1.c1
            have y2 := (hb1.cell (p := ⟨gb, _, none⟩) gl_).trans y1
            go_wp2_with fail
            refine (kV _).mono ?_
            rintro e w2 ⟨rfl, hb2⟩
            have hB2 := stepA hB1 hb2
            clear x0 x1 y0 y1 y2 kV
            go_wp2
            go_ret
            exact ⟨rfl, hB2⟩
        · have hr : stepV n f m g (S : Int) ev = -1 := by unfold stepV; rw [if_neg (fun h => hF (by have := h.2.2.2.1; rw [Int.toNat_natCast] at this; exact this))]
          rw [hr]
          have hF' : (f (S * 2 + 1) == -1) = false := by simpa using hF
          generalize f (S * 2 + 1) = F at *
          clear hq hr H kS kV
          go_enter Try.func21, Try.ntmps21
          go_wp2_with fail
          refine kG.mono ?_
          rintro e w1 ⟨rfl, hb1⟩
          have hB1 := stepA hb0 hb1
          have b1 := b0.on hb1
          have hf1 := hf0.below hb1
          have hg1 := hg0.below hb1
          clear kG b0 x0 x1
          have x0 := b1.c0
          have x1 := b1.c1
          have y2 := (hb1.cell (p := ⟨gb, _, none⟩) gl_).trans y1
          go_wp2
          go_ret
          exact ⟨rfl, hB1⟩
      · have hr : stepV n f m g s ev = -1 := by unfold stepV; rw [if_neg (fun h => by omega)]
        rw [hr]
        have h2 : (n : Int) ≤ s := by omega
        clear hq hr kV
        go_enter Try.func21, Try.ntmps21
        go_wp2_with fail
        refine kG.mono ?_
        rintro e w1 ⟨rfl, hb1⟩
        have hB1 := stepA hb0 hb1
        have b1 := b0.on hb1
        have hf1 := hf0.below hb1
        have hg1 := hg0.below hb1
        clear kG b0 x0 x1
        have x0 := b1.c0
        have x1 := b1.c1
        go_wp2
        go_ret
        exact ⟨rfl, hB1⟩
end Go.Proofs.YtjefakfongehdaaR
