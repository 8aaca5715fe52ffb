/- Boxes: the law's own copies of them, marked and held. -/
import Derived.Test.YtfciecoigfnnhaaBxBase
import Derived.Test.YtfciecoigfnnhaaFqMark
namespace Go.Proofs.Ytfciecoigfnnhaa
open Go.RowKit

set_option maxHeartbeats 1000000 in
theorem markBox_any (a b : Option Addr) (n c m d k lo hi : Nat) (f g : Nat → Nat) (w : World) (hn : n ≤ 1048576) (hm : m ≤ 1048576) (hk : k ≤ 1048576 * 2 + 1) (h : BP w lo hi a n f b m g) (hs : hi ≤ w.heap.size) :
    Calls Try.prog 23 #[bxv a n c b m d, .int .i64 (k : Int)] w fun e w' => e = .returned (.int .i64 ((k : Int) + (n : Int) + (m : Int))) ∧ BP w' lo hi a n (fun i => cv ((k : Int) + (i : Int))) b m (fun i => cv ((((k + n : Nat) : Int)) + (i : Int))) ∧ Turns lo hi w w' := by
  obtain ⟨l1, h1, l2, h2, i1, i2, i3, i4, i5, hf, hg⟩ := h
  go_enter Try.func23, Try.ntmps23
  have hb0 : Below w.heap.size w (w.alloc (bxO a n c b m d 45)) := (Below.refl _ _).alloc (Nat.le_refl _) _
  have b0 := bx_new (w := w) (bxL a n c b m d) 45 rfl
  have hT0 : Turns lo hi w (w.alloc (bxO a n c b m d 45)) := turns_of hb0
  have hf0 := hf.on hb0
  have hg0 := hg.on hb0
  go_wp2_with fail
  refine (markF a n c k l1 h1 f _ hn (by omega) hf0).mono ?_
  rintro e w1 ⟨rfl, hf1, hO1⟩
  have hg1 := hg0.turns hO1 (by omega)
  have b1 := b0.turns hO1 (.inr (by omega))
  have hT1 := hT0.trans (hO1.wide i1 i2)
  have x1 := b1.c1
  rw [show (k : Int) + (n : Int) = ((k + n : Nat) : Int) by omega]
  clear hb0 b0 hT0 hf0 hg0 hf hg hO1
  go_wp2_with fail
  refine (markF b m d (k + n) l2 h2 g _ hm (by omega) hg1).mono ?_
  rintro e w2 ⟨rfl, hg2, hO2⟩
  have hf2 := hf1.turns hO2 (by omega)
  have hT2 := hT1.trans (hO2.wide i3 i4)
  clear hT1 hf1 hg1 hO2 b1 x1
  go_wp2
  go_ret
  exact ⟨rfl, ⟨l1, h1, l2, h2, i1, i2, i3, i4, i5, hf2, hg2⟩, hT2⟩

set_option maxHeartbeats 1000000 in
theorem heldBox_any (a b : Option Addr) (n c m d k lo hi : Nat) (w : World) (hn : n ≤ 1048576) (hm : m ≤ 1048576) (hk : k ≤ 1048576 * 2 + 1) (h : BP w lo hi a n (fun i => cv ((k : Int) + (i : Int))) b m (fun i => cv ((((k + n : Nat) : Int)) + (i : Int)))) :
    Calls Try.prog 24 #[bxv a n c b m d, .int .i64 (k : Int)] w fun e w' => e = .returned (.int .i64 ((k : Int) + (n : Int) + (m : Int))) ∧ Below w.heap.size w w' := by
  obtain ⟨l1, h1, l2, h2, i1, i2, i3, i4, i5, hf, hg⟩ := h
  go_enter Try.func24, Try.ntmps24
  have hb0 : Below w.heap.size w (w.alloc (bxO a n c b m d 45)) := (Below.refl _ _).alloc (Nat.le_refl _) _
  have b0 := bx_new (w := w) (bxL a n c b m d) 45 rfl
  have hf0 := hf.on hb0
  have hg0 := hg.on hb0
  go_wp2_with fail
  refine (heldF a n c k l1 h1 _ hn (by omega) hf0).mono ?_
  rintro e w1 ⟨rfl, hw1⟩
  have hs1 := hw1.symm
  clear hw1
  subst hs1
  have x1 := b0.c1
  have j1 : ¬ (k : Int) + (n : Int) < 0 := by omega
  rw [show (k : Int) + (n : Int) = ((k + n : Nat) : Int) by omega] at j1 ⊢
  have j2 : ¬ ((k + n : Nat) : Int) + (m : Int) < 0 := by omega
  clear hf hg hf0
  go_wp2_with fail
  refine (heldF b m d (k + n) l2 h2 _ hm (by omega) hg0).mono ?_
  rintro e w1 ⟨rfl, hw1⟩
  have hs1 := hw1.symm
  clear hw1
  subst hs1
  clear b0 x1 hg0
  go_wp2
  go_ret
  exact ⟨rfl, hb0⟩
end Go.Proofs.Ytfciecoigfnnhaa
