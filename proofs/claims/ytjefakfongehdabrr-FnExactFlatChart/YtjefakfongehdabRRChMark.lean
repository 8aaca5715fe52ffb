/- Charts, marked. -/
import Derived.Test.YtjefakfongehdabRRChBase
import Derived.Test.YtjefakfongehdabRRChStaM
import Derived.Test.YtjefakfongehdabRRChArwM
namespace Go.Proofs.YtjefakfongehdabRR
open Go.RowKit
set_option maxHeartbeats 1000000 in
theorem markChart_any (a b : Option Addr) (n c m d lo hi : Nat) (f g : Nat → Int) (w : World) (h : n + m ≤ 1048576) (hc : CP w lo hi a n f b m g) (hs : hi ≤ w.heap.size) :
    Calls Try.prog 12 #[chv a n c b m d, .int .i64 1] w fun e w' => e = .returned (.int .i64 (1 + (n : Int) * 2 + (m : Int) * 3)) ∧ CP w' lo hi a n (fun i => ((1 : Nat) : Int) + (i : Int)) b m (fun i => (((1 + n * 2 : Nat) : Int)) + (i : Int)) ∧ Turns lo hi w w' := by
  obtain ⟨l1, h1, l2, h2, i1, i2, i3, i4, i5, hf, hg⟩ := hc
  have hb0 : Below w.heap.size w (w.alloc (chO a n c b m d 33)) := (Below.refl _ _).alloc (Nat.le_refl _) _
  have b0 := bx_new (w := w) (chL a n c b m d) 33 rfl
  have hT0 : Turns lo hi w (w.alloc (chO a n c b m d 33)) := turns_of hb0
  have hf0 := hf.on hb0
  have hg0 := hg.on hb0
  have kS : ∀ w, LQ w l1 h1 a (n * 2) f → Calls Try.prog 39 #[.slice a n c, .int .i64 1] w fun e w' => e = .returned (.int .i64 (1 + (n : Int) * 2)) ∧ LQ w' l1 h1 a (n * 2) (fun i => ((1 : Nat) : Int) + (i : Int)) ∧ Turns l1 h1 w w' := fun w h => (markStateT a n c 1 l1 h1 f w (by omega) (by omega) h).mono fun e w' ⟨k1, k2, k3⟩ => ⟨by rw [k1]; exact ret_int (by omega), k2, k3⟩
  have kA : ∀ w, LQ w l2 h2 b (m * 3) g → Calls Try.prog 40 #[.slice b m d, .int .i64 (1 + (n : Int) * 2)] w fun e w' => e = .returned (.int .i64 (1 + (n : Int) * 2 + (m : Int) * 3)) ∧ LQ w' l2 h2 b (m * 3) (fun i => (((1 + n * 2 : Nat) : Int)) + (i : Int)) ∧ Turns l2 h2 w w' := fun w h => by
    rw [show (1 + (n : Int) * 2 : Int) = ((1 + n * 2 : Nat) : Int) by omega]
    exact (markArrowT b m d (1 + n * 2) l2 h2 g w (by omega) (by omega) h).mono fun e w' ⟨k1, k2, k3⟩ => ⟨by rw [k1]; exact ret_int (by omega), k2, k3⟩
  go_enter Try.func12, Try.ntmps12
  go_wp2_with fail
  refine (kS _ hf0).mono ?_
  rintro e w1 ⟨rfl, hf1, hO1⟩
  have hg1 := hg0.turns hO1 (by omega)
  have b1 := b0.turns hO1 (.inr (by omega))
  have hT1 := hT0.trans (hO1.wide i1 i2)
  have x1 := b1.c1
  clear hb0 b0 hT0 hf0 hg0 hf hg hO1 kS
  go_wp2_with fail
  refine (kA _ hg1).mono ?_
  rintro e w2 ⟨rfl, hg2, hO2⟩
  have hf2 := hf1.turns hO2 (by omega)
  have hT2 := hT1.trans (hO2.wide i3 i4)
  clear hT1 hf1 hg1 hO2 b1 x1 kA
  go_wp2
  go_ret
  exact ⟨rfl, ⟨l1, h1, l2, h2, i1, i2, i3, i4, i5, hf2, hg2⟩, hT2⟩
end Go.Proofs.YtjefakfongehdabRR
