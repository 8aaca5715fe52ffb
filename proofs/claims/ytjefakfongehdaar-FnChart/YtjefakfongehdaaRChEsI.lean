/- EnterState, as the program tells it. -/
import Derived.Test.YtjefakfongehdaaRChEnI
namespace Go.Proofs.YtjefakfongehdaaR
open Go.RowKit
set_option maxHeartbeats 2000000 in
theorem iEnterState (a b : Option Addr) (n c m d : Nat) (f g : Nat → Int) (s : Int) (w : World) (hn : n ≤ 1048576) (hm : m ≤ 1048576) (hc : n ≤ c) (hf : IL w a (n * 2) f) (hg : IL w b (m * 3) g) :
    Calls Try.prog 13 #[chv a n c b m d, .int .i64 s] w fun e w' => e = .returned (.int .i64 (enterV n f m g s)) ∧ Below w.heap.size w w' := by
  have hb0 : Below w.heap.size w (w.alloc (chO a n c b m d 26)) := (Below.refl _ _).alloc (Nat.le_refl _) _
  have b0 := bx_new (w := w) (chL a n c b m d) 26 rfl
  have x0 := b0.c0
  have x1 := b0.c1
  have hf0 := hf.below hb0
  have hg0 := hg.below hb0
  have kG := iGoodChart a b n c m d f g _ hn hm hc hf0 hg0
  have kN := fun w => isNum_any s a n c w
  clear hf hg
  cases hq : gchB n f m g with
  | false =>
    have hr : enterV n f m g s = -1 := by unfold enterV; rw [if_neg (fun h => by rw [hq] at h; cases h.1)]
    rw [hr]
    rw [hq] at kG
    clear hq hr kN
    go_enter Try.func13, Try.ntmps13
    go_wp2_with fail
    refine kG.mono ?_
    rintro e w1 ⟨rfl, hb1⟩
    have hB1 := stepA hb0 hb1
    clear kG x0 x1
    go_wp2
    go_ret
    exact ⟨rfl, hB1⟩
  | true =>
    rw [hq] at kG
    cases hs : numB s n with
    | false =>
      have hr : enterV n f m g s = -1 := by
        unfold enterV; rw [if_neg (fun h => by
          have : numB s n = true := by unfold numB; simp [h.2.1, h.2.2]
          rw [hs] at this; cases this)]
      rw [hr]
      rw [hs] at kN
      clear hq hr hs
      go_enter Try.func13, Try.ntmps13
      go_wp2_with fail
      refine kG.mono ?_
      rintro e w1 ⟨rfl, hb1⟩
      have hB1 := stepA hb0 hb1
      have b1 := b0.on hb1
      clear kG x0 x1
      have x0 := b1.c0
      have x1 := b1.c1
      go_wp2_with fail
      refine (kN _).mono ?_
      rintro e w2 ⟨rfl, hw2⟩
      have hs2 := hw2.symm
      clear hw2
      subst hs2
      go_wp2
      go_ret
      exact ⟨rfl, hB1⟩
    | true =>
      have h9 : 0 ≤ s ∧ s < (n : Int) := by unfold numB at hs; simpa using hs
      obtain ⟨S, rfl⟩ : ∃ S : Nat, s = (S : Int) := ⟨s.toNat, by omega⟩
      have hr : enterV n f m g (S : Int) = ((ent n f S : Nat) : Int) := by unfold enterV; rw [if_pos ⟨hq, h9.1, h9.2⟩, Int.toNat_natCast]
      rw [hr]
      rw [hs] at kN
      have kU := fun w h => iUnder a n c m f g S w (gchB_iff.1 hq) (by omega) h
      clear hq hr hs h9
      go_enter Try.func13, Try.ntmps13
      go_wp2_with fail
      refine kG.mono ?_
      rintro e w1 ⟨rfl, hb1⟩
      have hB1 := stepA hb0 hb1
      have b1 := b0.on hb1
      have hf1 := hf0.below hb1
      clear kG x0 x1
      have x0 := b1.c0
      have x1 := b1.c1
      go_wp2_with fail
      refine (kN _).mono ?_
      rintro e w2 ⟨rfl, hw2⟩
      have hs2 := hw2.symm
      clear hw2
      subst hs2
      go_wp2_with fail
      refine (kU _ hf1).mono ?_
      rintro e w2 ⟨rfl, hw2⟩
      have hs2 := hw2.symm
      clear hw2
      subst hs2
      go_wp2
      go_ret
      exact ⟨rfl, hB1⟩
end Go.Proofs.YtjefakfongehdaaR
