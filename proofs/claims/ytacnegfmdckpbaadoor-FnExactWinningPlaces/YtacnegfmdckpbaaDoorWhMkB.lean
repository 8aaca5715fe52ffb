/- Boards and wishes that are marked. -/
import Derived.Test.YtacnegfmdckpbaaDoorWhBd
import Derived.Test.YtacnegfmdckpbaaDoorWhMkS
import Derived.Test.YtacnegfmdckpbaaDoorWhMkK
namespace Go.Proofs.YtacnegfmdckpbaaDoor
open Go.RowKit
set_option maxHeartbeats 2000000 in
theorem markWish_any (a b : Option Addr) (n c m d k lo hi : Nat) (f g : Nat → ByteArray) (w : World) (hn : n ≤ 1048576) (hm : m ≤ 1048576) (hk : k ≤ 4194304) (hhi : hi ≤ w.heap.size) (h : WP w lo hi a n f b m g) :
    Calls Tryd.prog 37 #[wsv a n c b m d, .int .i64 (k : Int)] w fun e w' => e = .returned (.int .i64 ((k + n + m : Nat) : Int)) ∧ Turns lo hi w w' := by
  have hb0 : Below w.heap.size w (w.alloc (wsO a n c b m d 25)) := (Below.refl _ _).alloc (Nat.le_refl _) _
  have bA := bx_new (w := w) [.slice a n c, .slice b m d] 25 rfl
  obtain ⟨l1, h1, l2, h2, e1, e2, e3, e4, e5, hA, hB⟩ := h
  have x0 := bA.c0
  go_enter Tryd.func37, Tryd.ntmps37
  go_wp2_with fail
  refine (markSt a n c k l1 h1 _ _ hn (by omega) (hA.on hb0)).mono ?_
  rintro e w1 ⟨rfl, -, hT1⟩
  have hB1 := (hB.on hb0).turns hT1 (by omega)
  have hT2 : Turns lo hi w w1 := (turns_of hb0).trans (hT1.wide e1 e2)
  have x1 := (bA.turns hT1 (by omega)).c1
  clear hA hB bA hT1 x0
  go_wp2_with fail
  refine (markSt b m d (k + n) l2 h2 _ _ hm (by omega) hB1).mono ?_
  rintro e w2 ⟨rfl, -, hT3⟩
  have hT4 := hT2.trans (hT3.wide e3 e4)
  clear hT3 hB1 hT2 x1
  go_wp2
  go_ret
  exact ⟨rfl, hT4⟩
set_option maxHeartbeats 2000000 in
theorem markBoard_any (a : Option Addr) (n c : Nat) (b : Option Addr) (m d : Nat) (x : Option Addr) (p q : Nat) (lo hi : Nat) (f : Nat → ByteArray) (g : Nat → Bool) (K : Nat → Nat) (R : Nat → Nat → Int) (w : World) (hn : n ≤ 1048576) (hm : m ≤ 1048576) (hp : p ≤ 1048576) (hs : sumK K p ≤ 1048576) (hhi : hi ≤ w.heap.size) (h : BP w lo hi a n f b m g x p K R) :
    Calls Tryd.prog 36 #[bdv a n c b m d x p q, .int .i64 1] w fun e w' => e = .returned (.int .i64 ((1 + n + m + sumK K p : Nat) : Int)) ∧ Turns lo hi w w' := by
  have hb0 : Below w.heap.size w (w.alloc (bdO a n c b m d x p q 38)) := (Below.refl _ _).alloc (Nat.le_refl _) _
  have bA := bx_new (w := w) (bdL a n c b m d x p q) 38 rfl
  obtain ⟨p1, p2, e1, e2, e3, hA, hB, hC⟩ := h
  have x0 := bA.c0
  go_enter Tryd.func36, Tryd.ntmps36
  go_wp2_with fail
  refine (markSt a n c 1 lo p1 _ _ hn (by omega) (hA.on hb0)).mono ?_
  rintro e w1 ⟨rfl, -, hT1⟩
  have hB1 := (hB.on hb0).turns hT1 (by omega)
  have hC1 := (hC.on hb0).turns hT1 (by omega)
  have hT2 : Turns lo hi w w1 := (turns_of hb0).trans (hT1.wide (Nat.le_refl _) (by omega))
  have bA1 := bA.turns hT1 (by omega)
  have x1 := bA1.c1
  clear hA hB hC bA hT1 x0
  go_wp2_with fail
  refine (markBl b m d (1 + n) p1 p2 g _ hm (by omega) hB1).mono ?_
  rintro e w2 ⟨rfl, hT3⟩
  have hC2 := hC1.turns hT3 (by omega)
  have bA2 := bA1.turns hT3 (by omega)
  have hT4 := hT2.trans (hT3.wide (by omega) (by omega))
  have x2 := bA2.c2
  clear hT3 hB1 hT2 x1 bA1 hC1
  go_wp2_with fail
  refine (markKw x p q (1 + n + m) p2 hi K R _ hp (by omega) hs hC2).mono ?_
  rintro e w3 ⟨rfl, -, hT5⟩
  have hT6 := hT4.trans (hT5.wide (by omega) (Nat.le_refl _))
  clear hT5 hT4 x2 bA2 hC2
  go_wp2
  go_ret
  exact ⟨rfl, hT6⟩
end Go.Proofs.YtacnegfmdckpbaaDoor
