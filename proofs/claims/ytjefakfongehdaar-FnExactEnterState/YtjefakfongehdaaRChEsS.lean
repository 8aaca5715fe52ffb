/- Where one enters a state, as the model says it. -/
import Derived.Test.YtjefakfongehdaaRChGcS
import Derived.Test.YtjefakfongehdaaRChEnS
namespace Go.Proofs.YtjefakfongehdaaR
open Go.RowKit
set_option maxHeartbeats 4000000 in
theorem sEnterState (a b : Option Addr) (n c m d : Nat) (f g : Nat → Int) (s : Int) (w : World) (hn : n ≤ 1048576) (hm : m ≤ 1048576) (hf : IL w a (n * 2) f) (hg : IL w b (m * 3) g) :
    Calls Try.prog 20 #[chv a n c b m d, .int .i64 s] w fun e w' => e = .returned (.int .i64 (enterV n f m g s)) ∧ Below w.heap.size w w' := by
  have hb0 : Below w.heap.size w (w.alloc (chO a n c b m d 26)) := (Below.refl _ _).alloc (Nat.le_refl _) _
  have b0 := bx_new (w := w) (chL a n c b m d) 26 rfl
  have x0 := b0.c0
  have x1 := b0.c1
  have kG := sGoodChart a b n c m d f g (w.alloc (chO a n c b m d 26)) hn hm (hf.below hb0) (hg.below hb0)
  cases hq : gchB n f m g with
  | false =>
    have hr : enterV n f m g s = -1 := by unfold enterV; rw [if_neg (fun h => by rw [hq] at h; cases h.1)]
    rw [hr]
    rw [hq] at kG
    clear hq hr
    go_enter Try.func20, Try.ntmps20
    go_wp2_with fail
    refine kG.mono ?_
    rintro e w1 ⟨rfl, hb1⟩
    have hB1 := stepA hb0 hb1
    clear kG b0 x0 x1
    go_wp2
    go_ret
    exact ⟨rfl, hB1⟩
  | true =>
    rw [hq] at kG
    by_cases h0 : s < 0
    · have hr : enterV n f m g s = -1 := by unfold enterV; rw [if_neg (fun h => by omega)]
      rw [hr]
      clear hq hr
      go_enter Try.func20, Try.ntmps20
      go_wp2_with fail
      refine kG.mono ?_
      rintro e w1 ⟨rfl, hb1⟩
      have hB1 := stepA hb0 hb1
      clear kG b0 x0 x1
      go_wp2
      go_ret
      exact ⟨rfl, hB1⟩
    · by_cases h1 : s < (n : Int)
      · obtain ⟨S, rfl⟩ : ∃ S : Nat, s = (S : Int) := ⟨s.toNat, by omega⟩
        have hr : enterV n f m g (S : Int) = ((ent n f S : Nat) : Int) := by unfold enterV; rw [if_pos ⟨hq, by omega, h1⟩, Int.toNat_natCast]
        rw [hr]
        have H := gchB_iff.1 hq
        have h2 : ¬ (n : Int) ≤ (S : Int) := by omega
        have kE := fun w h => sEnter a b n c m d f g S w H (by omega) h
        have hf0 := hf.below hb0
        clear hq hr H
        go_enter Try.func20, Try.ntmps20
        go_wp2_with fail
        refine kG.mono ?_
        rintro e w1 ⟨rfl, hb1⟩
        have hB1 := stepA hb0 hb1
        have b1 := b0.on hb1
        have hf1 := hf0.below hb1
        clear kG b0 x0 x1 hf0
        have x0 := b1.c0
        have x1 := b1.c1
        go_wp2_with fail
        refine (kE _ hf1).mono ?_
        rintro e w2 ⟨rfl, hb2⟩
        have hB2 := stepA hB1 hb2
        clear kE x0 x1 b1
        go_wp2
        go_ret
        exact ⟨rfl, hB2⟩
      · have hr : enterV n f m g s = -1 := by unfold enterV; rw [if_neg (fun h => by omega)]
        rw [hr]
        have h2 : (n : Int) ≤ s := by omega
        clear hq hr
        go_enter Try.func20, Try.ntmps20
        go_wp2_with fail
        refine kG.mono ?_
        rintro e w1 ⟨rfl, hb1⟩
        have hB1 := stepA hb0 hb1
        have b1 := b0.on hb1
        clear kG b0 x0 x1
        have x0 := b1.c0
        have x1 := b1.c1
        go_wp2
        go_ret
        exact ⟨rfl, hB1⟩
end Go.Proofs.YtjefakfongehdaaR
