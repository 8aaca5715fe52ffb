/- Ways: the law's own functions on them. -/
import Derived.Test.YtfciecoigfnnhaaWyCh
import Derived.Test.YtfciecoigfnnhaaClBase
namespace Go.Proofs.Ytfciecoigfnnhaa
open Go.RowKit

/-- a way as a value -/
abbrev wyv (a : Option Addr) (n c : Nat) (s d : Int) : Value := .agg #[.slice a n c, .int .i64 s, .int .i64 d]
abbrev wyO (a : Option Addr) (n c : Nat) (s d : Int) (t : TypeId) : Obj := .cells #[.slice a n c, .int .i64 s, .int .i64 d] t
theorem Shrt.len {W : Int} {n : Nat} {f : Nat → Int} {p v : Int} {l : List Int} {s d : Int} {q : Bool} (h : Shrt W n f p v l s d q) : l.length ≤ 257 := by
  rcases h with ⟨_, _, x, y, A, B, hx, _, hp, _, hD, h0, _, _, hC⟩ | ⟨_, e, _⟩
  · have hxn : x < n := by have := frB_t hp; omega
    have h1 := ch_len hD (stN_in W n f) hC hxn h0
    have h2 := hD.bnd x hxn h0
    omega
  · subst e; simp

set_option maxHeartbeats 1000000 in
theorem eqWay_any (a a2 : Option Addr) (n c c2 : Nat) (s d : Int) (f : Nat → Int) (w : World) (hn : n ≤ 1048576) (hf : IL w a n f) (hf2 : IL w a2 n f) :
    Calls Try.prog 34 #[wyv a n c s d, wyv a2 n c2 s d] w fun e w' => e = .returned (.bool true) ∧ Below w.heap.size w w' := by
  have bA := (bx_new (w := w) [.slice a n c, .int .i64 s, .int .i64 d] 30 rfl).alloc (wyO a2 n c2 s d 30)
  have bB := bx_new (w := w.alloc (wyO a n c s d 30)) (b := w.heap.size + 1) [.slice a2 n c2, .int .i64 s, .int .i64 d] 30 (by simp)
  have x0 := bA.c0
  have y0 := bB.c0
  go_enter Try.func34, Try.ntmps34
  go_wp2_with fail
  refine (eqI_any a a2 n c c2 f _ hn ((hf.alloc _).alloc _) ((hf2.alloc _).alloc _)).mono ?_
  rintro e w1 ⟨rfl, hb1⟩
  have bA1 := bA.on hb1
  have bB1 := bB.on hb1
  have z1 := bA1.c1
  have z2 := bA1.c2
  have v1 := bB1.c1
  have v2 := bB1.c2
  have hB1 := below_al (below_al hb1)
  clear hb1 x0 y0 bA bB
  go_wp2
  go_ret
  exact ⟨rfl, hB1⟩
set_option maxHeartbeats 1000000 in
theorem markWay_any (a : Option Addr) (n c k lo hi : Nat) (s d : Int) (f : Nat → Int) (w : World) (hn : n ≤ 1048576) (hk : k ≤ 1048576) (h : LQ w lo hi a n f) :
    Calls Try.prog 36 #[wyv a n c s d, .int .i64 (k : Int)] w fun e w' => e = .returned (.int .i64 ((k : Int) + (n : Int))) ∧ LQ w' lo hi a n (fun i => (k : Int) + (i : Int)) ∧ Turns lo hi w w' := by
  go_enter Try.func36, Try.ntmps36
  have hb0 : Below w.heap.size w (w.alloc (wyO a n c s d 30)) := (Below.refl _ _).alloc (Nat.le_refl _) _
  have hT0 : Turns lo hi w (w.alloc (wyO a n c s d 30)) := turns_of hb0
  go_wp2_with fail
  refine (markQ a n c k lo hi f _ hn (by omega) (h.on hb0)).mono ?_
  rintro e w1 ⟨rfl, hf1, hO1⟩
  have hT1 := hT0.trans hO1.turns
  clear hb0 hT0 h hO1
  go_wp2
  go_ret
  exact ⟨rfl, hf1, hT1⟩
set_option maxHeartbeats 1000000 in
theorem heldWay_any (a : Option Addr) (n c k lo hi : Nat) (s d : Int) (w : World) (hn : n ≤ 1048576) (hk : k ≤ 1048576) (h : LQ w lo hi a n (fun i => (k : Int) + (i : Int))) :
    Calls Try.prog 37 #[wyv a n c s d, .int .i64 (k : Int)] w fun e w' => e = .returned (.int .i64 ((k : Int) + (n : Int))) ∧ Below w.heap.size w w' := by
  have j : ¬ (k : Int) + (n : Int) < 0 := by omega
  go_enter Try.func37, Try.ntmps37
  have hb0 : Below w.heap.size w (w.alloc (wyO a n c s d 30)) := (Below.refl _ _).alloc (Nat.le_refl _) _
  go_wp2_with fail
  refine (heldQ a n c k lo hi _ hn (by omega) (h.on hb0)).mono ?_
  rintro e w1 ⟨rfl, hw1⟩
  have hs1 := hw1.symm
  clear hw1
  subst hs1
  go_wp2
  go_ret
  exact ⟨rfl, hb0⟩
end Go.Proofs.Ytfciecoigfnnhaa
