/- The walk of the law on RootStep. -/
import Derived.Test.YtgcnkecfdmafdaaPtRootS
import Derived.Test.YtgcnkecfdmafdaaPtRootsLaw
namespace Go.Proofs.Ytgcnkecfdmafdaa
open Go.RowKit

set_option maxHeartbeats 400000 in
theorem sz_any (q : Option Addr) (n qc : Nat) (w : World) (hn : n ≤ 1048576) :
    Calls Try.prog 24 #[.slice q n qc, .int .i64 1048576] w fun e w' => e = .returned (.int .i64 ((1048576 : Int) - (n : Int))) ∧ w' = w := by
  have e0 : ¬ (1048576 : Int) - (n : Int) < 0 := by omega
  go_enter Try.func24, Try.ntmps24
  go_wp2
  go_ret
  exact ⟨rfl, rfl⟩
set_option maxHeartbeats 400000 in
theorem sz_long (q : Option Addr) (n qc : Nat) (w : World) (hn : 1048576 < n) (hm : n ≤ 9223372036854775807) :
    Calls Try.prog 24 #[.slice q n qc, .int .i64 1048576] w fun e w' => e = .returned (.int .i64 (-1)) ∧ w' = w := by
  have e0 : (1048576 : Int) - (n : Int) < 0 := by omega
  go_enter Try.func24, Try.ntmps24
  go_wp2
  go_ret
  exact ⟨rfl, rfl⟩

set_option maxHeartbeats 8000000 in
theorem rstepLaw_some (a : Option Addr) (len cap : Nat) (f : Nat → Nat) (q : Option Addr) (n qc : Nat) (X Y : Nat → Nat) (w : World) (hL : len ≤ 1048576) (h : FS w a len f) (hn : n ≤ 1048576) (hq : PA w q n X Y) (z : (Nat → Nat) × (Nat → Nat)) (hr : stepAn f len n X Y = some z) :
    Calls Try.prog 7 #[.slice a len cap, .slice q n qc] w fun e w' => e = .returned (.bool true) ∧ Below w.heap.size w w' := by
  have hf := h.2.1
  have hX := hq.1
  have hB := Below.refl w.heap.size w
  have e0 : ¬ (1048576 : Int) - (n : Int) < 0 := by omega
  go_enter Try.func7, Try.ntmps7
  go_wp2_with (go_at_call 24; refine (sz_any q n qc w hn).mono ?_; rintro e w' ⟨rfl, hw'⟩; have hs' := hw'.symm; clear hw'; subst hs')
  clear e0
  refine (copyR_any a len cap f w (h.below hB)).mono ?_
  rintro e w1 ⟨v1, rfl, rfl, r, hbn⟩
  have hB' := hB.trans (hbn.mono hB.size)
  clear hB
  have hB := hB'
  clear hB'
  clear hbn
  go_wp2_with fail
  refine (toPoints_any q n qc X Y w1 hn (hq.below hB)).mono ?_
  rintro e w2 ⟨rfl, s, hbn⟩
  have r' := rowIs_below r hbn r.lt
  clear r
  have r := r'
  clear r'
  have hB' := hB.trans (hbn.mono hB.size)
  clear hB
  have hB := hB'
  clear hB'
  clear hbn
  go_wp2_with fail
  refine (specStep_any _ len len f _ n n X Y w2 (row_fs r hL hf) hn hX (fun _ => ⟨_, rfl, s⟩)).mono ?_
  rintro e w3 ⟨hA, hbn⟩
  rw [hr] at hA
  rcases hA with ⟨hA, -⟩ | ⟨z', Gb, Gc, hzz, rfl, Gg, G, hzb⟩
  · cases hA
  cases hzz
  have r' := rowIs_below r hbn r.lt
  clear r
  have r := r'
  clear r'
  have s' := s.below hbn s.lt
  clear s
  have s := s'
  clear s'
  have hB' := hB.trans (hbn.mono hB.size)
  clear hB
  have hB := hB'
  clear hB'
  clear hbn
  clear r
  clear s
  clear Gg hzb
  go_wp2_with fail
  have Gl := G.lt
  have bx : w.heap.size ≤ w3.heap.size := hB.size
  refine (copyR_any a len cap f w3 (h.below hB)).mono ?_
  rintro e w4 ⟨v4, rfl, rfl, x, hbn⟩
  have G' := G.below hbn G.lt
  clear G
  have G := G'
  clear G'
  have hB' := hB.trans (hbn.mono hB.size)
  clear hB
  have hB := hB'
  clear hB'
  clear hbn
  have l1 := Gl
  clear Gl
  go_wp2_with fail
  have l2 := x.lt
  have by' : w.heap.size ≤ w4.heap.size := hB.size
  refine (toPoints_any q n qc X Y w4 hn (hq.below hB)).mono ?_
  rintro e w5 ⟨rfl, y, hbn⟩
  have G' := G.below hbn G.lt
  clear G
  have G := G'
  clear G'
  have x' := rowIs_below x hbn x.lt
  clear x
  have x := x'
  clear x'
  have hB' := hB.trans (hbn.mono hB.size)
  clear hB
  have hB := hB'
  clear hB'
  clear hbn
  go_wp2_with fail
  have l3a := y.lt
  refine (implStep_any _ len len f _ n n X Y w5 (row_fs x hL hf) hn hX (fun _ => ⟨_, rfl, y⟩)).mono ?_
  rintro e w6 ⟨hA, hbn⟩
  rw [hr] at hA
  rcases hA with ⟨hA, -⟩ | ⟨z', bb, bc, hzz, rfl, bg, b, hzb⟩
  · cases hA
  cases hzz
  have G' := G.below hbn G.lt
  clear G
  have G := G'
  clear G'
  have x' := rowIs_below x hbn x.lt
  clear x
  have x := x'
  clear x'
  have y' := y.below hbn y.lt
  clear y
  have y := y'
  clear y'
  have hB' := hB.trans (hbn.mono hB.size)
  clear hB
  have hB := hB'
  clear hB'
  clear hbn
  have l3 : w4.heap.size < bb := Nat.lt_of_lt_of_le l3a bg
  clear bg
  clear l3a
  go_wp2_with fail
  refine (eqPoints_any _ _ n _ _ z.1 z.2 _ hn (fun _ => ⟨_, rfl, b⟩) (fun _ => ⟨_, rfl, G⟩) hzb).mono ?_
  rintro e w7 ⟨rfl, hbn⟩
  have G' := G.below hbn G.lt
  clear G
  have G := G'
  clear G'
  have x' := rowIs_below x hbn x.lt
  clear x
  have x := x'
  clear x'
  have y' := y.below hbn y.lt
  clear y
  have y := y'
  clear y'
  have b' := b.below hbn b.lt
  clear b
  have b := b'
  clear b'
  have hB' := hB.trans (hbn.mono hB.size)
  clear hB
  have hB := hB'
  clear hB'
  clear hbn
  go_wp2_with fail
  refine (copyR_any a len cap f w7 (h.below hB)).mono ?_
  rintro e w8 ⟨v8, rfl, rfl, t, hbn⟩
  have G' := G.below hbn G.lt
  clear G
  have G := G'
  clear G'
  have x' := rowIs_below x hbn x.lt
  clear x
  have x := x'
  clear x'
  have y' := y.below hbn y.lt
  clear y
  have y := y'
  clear y'
  have b' := b.below hbn b.lt
  clear b
  have b := b'
  clear b'
  have hB' := hB.trans (hbn.mono hB.size)
  clear hB
  have hB := hB'
  clear hB'
  clear hbn
  go_wp2_with fail
  refine (eqs_any _ _ len len len f _ (row_fs x hL hf) (row_fs t hL hf)).mono ?_
  rintro e w9 ⟨rfl, nn, hnn⟩
  have hbn := below_of hnn
  clear hnn
  have G' := G.below hbn G.lt
  clear G
  have G := G'
  clear G'
  have x' := rowIs_below x hbn x.lt
  clear x
  have x := x'
  clear x'
  have y' := y.below hbn y.lt
  clear y
  have y := y'
  clear y'
  have b' := b.below hbn b.lt
  clear b
  have b := b'
  clear b'
  have t' := rowIs_below t hbn t.lt
  clear t
  have t := t'
  clear t'
  have hB' := hB.trans (hbn.mono hB.size)
  clear hB
  have hB := hB'
  clear hB'
  clear hbn
  clear t
  go_wp2_with fail
  refine (toPoints_any q n qc X Y w9 hn (hq.below hB)).mono ?_
  rintro e w10 ⟨rfl, t, hbn⟩
  have G' := G.below hbn G.lt
  clear G
  have G := G'
  clear G'
  have x' := rowIs_below x hbn x.lt
  clear x
  have x := x'
  clear x'
  have y' := y.below hbn y.lt
  clear y
  have y := y'
  clear y'
  have b' := b.below hbn b.lt
  clear b
  have b := b'
  clear b'
  have hB' := hB.trans (hbn.mono hB.size)
  clear hB
  have hB := hB'
  clear hB'
  clear hbn
  go_wp2_with fail
  refine (eqPoints_any _ _ n _ _ X Y _ hn (fun _ => ⟨_, rfl, y⟩) (fun _ => ⟨_, rfl, t⟩) hX).mono ?_
  rintro e w11 ⟨rfl, hbn⟩
  have G' := G.below hbn G.lt
  clear G
  have G := G'
  clear G'
  have x' := rowIs_below x hbn x.lt
  clear x
  have x := x'
  clear x'
  have y' := y.below hbn y.lt
  clear y
  have y := y'
  clear y'
  have b' := b.below hbn b.lt
  clear b
  have b := b'
  clear b'
  have t' := t.below hbn t.lt
  clear t
  have t := t'
  clear t'
  have hB' := hB.trans (hbn.mono hB.size)
  clear hB
  have hB := hB'
  clear hB'
  clear hbn
  clear t
  go_wp2_with fail
  refine (markFloats_any _ len _ 1 _ _ hL (by omega) x).mono ?_
  rintro e w12 ⟨rfl, hO⟩
  have G' := G.only hO (Nat.ne_of_lt l1)
  clear G
  have G := G'
  clear G'
  have y' := y.only hO (Nat.ne_of_gt l2)
  clear y
  have y := y'
  clear y'
  have b' := b.only hO (Nat.ne_of_gt (Nat.lt_trans l2 l3))
  clear b
  have b := b'
  clear b'
  have hB' := hB.trans (hO.below.mono bx)
  clear hB
  have hB := hB'
  clear hB'
  clear hO
  clear x
  go_wp2_with fail
  have hmp := markPoints_any w4.heap.size n n (1 + len) X Y w12 hn (by omega) y
  have m1 : ((1 + len : Nat) : Int) = 1 + (len : Int) := by omega
  rw [m1] at hmp
  clear m1
  refine hmp.mono ?_
  rintro e w13 ⟨rfl, -, hO⟩
  clear hmp
  have G' := G.only hO (Nat.ne_of_lt (Nat.lt_trans l1 l2))
  clear G
  have G := G'
  clear G'
  have b' := b.only hO (Nat.ne_of_gt l3)
  clear b
  have b := b'
  clear b'
  have hB' := hB.trans (hO.below.mono by')
  clear hB
  have hB := hB'
  clear hB'
  clear hO
  clear y
  have k8 : ¬ (1 : Int) + (len : Int) + 2 * (n : Int) < 0 := by omega
  go_wp2_with fail
  refine (eqPoints_any _ _ n _ _ z.1 z.2 _ hn (fun _ => ⟨_, rfl, b⟩) (fun _ => ⟨_, rfl, G⟩) hzb).mono ?_
  rintro e w14 ⟨rfl, hbn⟩
  have G' := G.below hbn G.lt
  clear G
  have G := G'
  clear G'
  have b' := b.below hbn b.lt
  clear b
  have b := b'
  clear b'
  have hB' := hB.trans (hbn.mono hB.size)
  clear hB
  have hB := hB'
  clear hB'
  clear hbn
  clear k8
  go_wp2_with fail
  refine (markPoints_any _ n _ 1 z.1 z.2 _ hn (by omega) b).mono ?_
  rintro e w15 ⟨rfl, bm, hO⟩
  have G' := G.only hO (Nat.ne_of_lt (Nat.lt_trans l1 (Nat.lt_trans l2 l3)))
  clear G
  have G := G'
  clear G'
  have hB' := hB.trans (hO.below.mono (Nat.le_trans by' (Nat.le_of_lt l3)))
  clear hB
  have hB := hB'
  clear hB'
  clear hO
  clear b
  go_wp2_with fail
  refine (heldPoints_any _ n _ 1 _ hn (by omega) bm).mono ?_
  rintro e w16 ⟨rfl, hw'⟩
  have hs' := hw'.symm
  clear hw'
  subst hs'
  have k10 : ¬ (1 : Int) + 2 * (n : Int) < 0 := by omega
  go_wp2_with fail
  refine (copyR_any a len cap f w15 (h.below hB)).mono ?_
  rintro e w16 ⟨v16, rfl, rfl, r, hbn⟩
  have G' := G.below hbn G.lt
  clear G
  have G := G'
  clear G'
  have bm' := bm.below hbn bm.lt
  clear bm
  have bm := bm'
  clear bm'
  have hB' := hB.trans (hbn.mono hB.size)
  clear hB
  have hB := hB'
  clear hB'
  clear hbn
  go_wp2_with fail
  refine (toPoints_any q n qc X Y w16 hn (hq.below hB)).mono ?_
  rintro e w17 ⟨rfl, s, hbn⟩
  have G' := G.below hbn G.lt
  clear G
  have G := G'
  clear G'
  have bm' := bm.below hbn bm.lt
  clear bm
  have bm := bm'
  clear bm'
  have r' := rowIs_below r hbn r.lt
  clear r
  have r := r'
  clear r'
  have hB' := hB.trans (hbn.mono hB.size)
  clear hB
  have hB := hB'
  clear hB'
  clear hbn
  go_wp2_with fail
  refine (implStep_any _ len len f _ n n X Y w17 (row_fs r hL hf) hn hX (fun _ => ⟨_, rfl, s⟩)).mono ?_
  rintro e w18 ⟨hA, hbn⟩
  rw [hr] at hA
  rcases hA with ⟨hA, -⟩ | ⟨z', cb, cc, hzz, rfl, cg, c, hzb⟩
  · cases hA
  cases hzz
  have G' := G.below hbn G.lt
  clear G
  have G := G'
  clear G'
  have bm' := bm.below hbn bm.lt
  clear bm
  have bm := bm'
  clear bm'
  have r' := rowIs_below r hbn r.lt
  clear r
  have r := r'
  clear r'
  have s' := s.below hbn s.lt
  clear s
  have s := s'
  clear s'
  have hB' := hB.trans (hbn.mono hB.size)
  clear hB
  have hB := hB'
  clear hB'
  clear hbn
  clear r
  clear s
  clear cg
  go_wp2_with fail
  refine (eqPoints_any _ _ n _ _ z.1 z.2 _ hn (fun _ => ⟨_, rfl, c⟩) (fun _ => ⟨_, rfl, G⟩) hzb).mono ?_
  rintro e w19 ⟨rfl, hbn⟩
  have G' := G.below hbn G.lt
  clear G
  have G := G'
  clear G'
  have bm' := bm.below hbn bm.lt
  clear bm
  have bm := bm'
  clear bm'
  have c' := c.below hbn c.lt
  clear c
  have c := c'
  clear c'
  have hB' := hB.trans (hbn.mono hB.size)
  clear hB
  have hB := hB'
  clear hB'
  clear hbn
  clear c
  clear G
  go_wp2_with fail
  refine (heldPoints_any _ n _ 1 _ hn (by omega) bm).mono ?_
  rintro e w20 ⟨rfl, hw'⟩
  have hs' := hw'.symm
  clear hw'
  subst hs'
  clear bm
  go_wp2
  go_ret
  exact ⟨rfl, hB⟩

set_option maxHeartbeats 8000000 in
theorem rstepLaw_none (a : Option Addr) (len cap : Nat) (f : Nat → Nat) (q : Option Addr) (n qc : Nat) (X Y : Nat → Nat) (w : World) (hL : len ≤ 1048576) (h : FS w a len f) (hn : n ≤ 1048576) (hq : PA w q n X Y) (hr : stepAn f len n X Y = none) :
    Calls Try.prog 7 #[.slice a len cap, .slice q n qc] w fun e w' => e = .returned (.bool true) ∧ Below w.heap.size w w' := by
  have hf := h.2.1
  have hX := hq.1
  have hB := Below.refl w.heap.size w
  have e0 : ¬ (1048576 : Int) - (n : Int) < 0 := by omega
  have nl : ∀ w, PL w none 0 X Y := fun w h => absurd h (Nat.lt_irrefl _)
  have nbd : ∀ i, i < 0 → X i < 18446744073709551616 ∧ Y i < 18446744073709551616 := fun i h => absurd h (Nat.not_lt_zero _)
  go_enter Try.func7, Try.ntmps7
  go_wp2_with (go_at_call 24; refine (sz_any q n qc w hn).mono ?_; rintro e w' ⟨rfl, hw'⟩; have hs' := hw'.symm; clear hw'; subst hs')
  clear e0
  refine (copyR_any a len cap f w (h.below hB)).mono ?_
  rintro e w1 ⟨v1, rfl, rfl, r, hbn⟩
  have hB' := hB.trans (hbn.mono hB.size)
  clear hB
  have hB := hB'
  clear hB'
  clear hbn
  go_wp2_with fail
  refine (toPoints_any q n qc X Y w1 hn (hq.below hB)).mono ?_
  rintro e w2 ⟨rfl, s, hbn⟩
  have r' := rowIs_below r hbn r.lt
  clear r
  have r := r'
  clear r'
  have hB' := hB.trans (hbn.mono hB.size)
  clear hB
  have hB := hB'
  clear hB'
  clear hbn
  go_wp2_with fail
  refine (specStep_any _ len len f _ n n X Y w2 (row_fs r hL hf) hn hX (fun _ => ⟨_, rfl, s⟩)).mono ?_
  rintro e w3 ⟨hA, hbn⟩
  rw [hr] at hA
  rcases hA with ⟨-, rfl⟩ | ⟨z', gb, gc, hzz, -⟩
  rotate_left
  · cases hzz
  have r' := rowIs_below r hbn r.lt
  clear r
  have r := r'
  clear r'
  have s' := s.below hbn s.lt
  clear s
  have s := s'
  clear s'
  have hB' := hB.trans (hbn.mono hB.size)
  clear hB
  have hB := hB'
  clear hB'
  clear hbn
  clear r
  clear s
  go_wp2_with fail
  have bx : w.heap.size ≤ w3.heap.size := hB.size
  refine (copyR_any a len cap f w3 (h.below hB)).mono ?_
  rintro e w4 ⟨v4, rfl, rfl, x, hbn⟩
  have hB' := hB.trans (hbn.mono hB.size)
  clear hB
  have hB := hB'
  clear hB'
  clear hbn
  go_wp2_with fail
  have l2 := x.lt
  have by' : w.heap.size ≤ w4.heap.size := hB.size
  refine (toPoints_any q n qc X Y w4 hn (hq.below hB)).mono ?_
  rintro e w5 ⟨rfl, y, hbn⟩
  have x' := rowIs_below x hbn x.lt
  clear x
  have x := x'
  clear x'
  have hB' := hB.trans (hbn.mono hB.size)
  clear hB
  have hB := hB'
  clear hB'
  clear hbn
  go_wp2_with fail
  have l3a := y.lt
  refine (implStep_any _ len len f _ n n X Y w5 (row_fs x hL hf) hn hX (fun _ => ⟨_, rfl, y⟩)).mono ?_
  rintro e w6 ⟨hA, hbn⟩
  rw [hr] at hA
  rcases hA with ⟨-, rfl⟩ | ⟨z', gb, gc, hzz, -⟩
  rotate_left
  · cases hzz
  have x' := rowIs_below x hbn x.lt
  clear x
  have x := x'
  clear x'
  have y' := y.below hbn y.lt
  clear y
  have y := y'
  clear y'
  have hB' := hB.trans (hbn.mono hB.size)
  clear hB
  have hB := hB'
  clear hB'
  clear hbn
  clear l3a
  go_wp2_with fail
  refine (eqPoints_any _ _ 0 _ _ X Y _ (by omega) (nl _) (nl _) nbd).mono ?_
  rintro e w7 ⟨rfl, hbn⟩
  have x' := rowIs_below x hbn x.lt
  clear x
  have x := x'
  clear x'
  have y' := y.below hbn y.lt
  clear y
  have y := y'
  clear y'
  have hB' := hB.trans (hbn.mono hB.size)
  clear hB
  have hB := hB'
  clear hB'
  clear hbn
  go_wp2_with fail
  refine (copyR_any a len cap f w7 (h.below hB)).mono ?_
  rintro e w8 ⟨v8, rfl, rfl, t, hbn⟩
  have x' := rowIs_below x hbn x.lt
  clear x
  have x := x'
  clear x'
  have y' := y.below hbn y.lt
  clear y
  have y := y'
  clear y'
  have hB' := hB.trans (hbn.mono hB.size)
  clear hB
  have hB := hB'
  clear hB'
  clear hbn
  go_wp2_with fail
  refine (eqs_any _ _ len len len f _ (row_fs x hL hf) (row_fs t hL hf)).mono ?_
  rintro e w9 ⟨rfl, nn, hnn⟩
  have hbn := below_of hnn
  clear hnn
  have x' := rowIs_below x hbn x.lt
  clear x
  have x := x'
  clear x'
  have y' := y.below hbn y.lt
  clear y
  have y := y'
  clear y'
  have t' := rowIs_below t hbn t.lt
  clear t
  have t := t'
  clear t'
  have hB' := hB.trans (hbn.mono hB.size)
  clear hB
  have hB := hB'
  clear hB'
  clear hbn
  clear t
  go_wp2_with fail
  refine (toPoints_any q n qc X Y w9 hn (hq.below hB)).mono ?_
  rintro e w10 ⟨rfl, t, hbn⟩
  have x' := rowIs_below x hbn x.lt
  clear x
  have x := x'
  clear x'
  have y' := y.below hbn y.lt
  clear y
  have y := y'
  clear y'
  have hB' := hB.trans (hbn.mono hB.size)
  clear hB
  have hB := hB'
  clear hB'
  clear hbn
  go_wp2_with fail
  refine (eqPoints_any _ _ n _ _ X Y _ hn (fun _ => ⟨_, rfl, y⟩) (fun _ => ⟨_, rfl, t⟩) hX).mono ?_
  rintro e w11 ⟨rfl, hbn⟩
  have x' := rowIs_below x hbn x.lt
  clear x
  have x := x'
  clear x'
  have y' := y.below hbn y.lt
  clear y
  have y := y'
  clear y'
  have t' := t.below hbn t.lt
  clear t
  have t := t'
  clear t'
  have hB' := hB.trans (hbn.mono hB.size)
  clear hB
  have hB := hB'
  clear hB'
  clear hbn
  clear t
  go_wp2_with fail
  refine (markFloats_any _ len _ 1 _ _ hL (by omega) x).mono ?_
  rintro e w12 ⟨rfl, hO⟩
  have y' := y.only hO (Nat.ne_of_gt l2)
  clear y
  have y := y'
  clear y'
  have hB' := hB.trans (hO.below.mono bx)
  clear hB
  have hB := hB'
  clear hB'
  clear hO
  clear x
  go_wp2_with fail
  have hmp := markPoints_any w4.heap.size n n (1 + len) X Y w12 hn (by omega) y
  have m1 : ((1 + len : Nat) : Int) = 1 + (len : Int) := by omega
  rw [m1] at hmp
  clear m1
  refine hmp.mono ?_
  rintro e w13 ⟨rfl, -, hO⟩
  clear hmp
  have hB' := hB.trans (hO.below.mono by')
  clear hB
  have hB := hB'
  clear hB'
  clear hO
  clear y
  have k8 : ¬ (1 : Int) + (len : Int) + 2 * (n : Int) < 0 := by omega
  go_wp2_with fail
  refine (eqPoints_any _ _ 0 _ _ X Y _ (by omega) (nl _) (nl _) nbd).mono ?_
  rintro e w14 ⟨rfl, hbn⟩
  have hB' := hB.trans (hbn.mono hB.size)
  clear hB
  have hB := hB'
  clear hB'
  clear hbn
  clear k8
  go_wp2_with fail
  refine (mark_zero _ _ 1 _).mono ?_
  rintro e w15 ⟨rfl, hw'⟩
  have hs' := hw'.symm
  clear hw'
  subst hs'
  go_wp2_with fail
  refine (held_zero _ _ 1 _).mono ?_
  rintro e w15 ⟨rfl, hw'⟩
  have hs' := hw'.symm
  clear hw'
  subst hs'
  go_wp2_with fail
  refine (copyR_any a len cap f w14 (h.below hB)).mono ?_
  rintro e w15 ⟨v15, rfl, rfl, r, hbn⟩
  have hB' := hB.trans (hbn.mono hB.size)
  clear hB
  have hB := hB'
  clear hB'
  clear hbn
  go_wp2_with fail
  refine (toPoints_any q n qc X Y w15 hn (hq.below hB)).mono ?_
  rintro e w16 ⟨rfl, s, hbn⟩
  have r' := rowIs_below r hbn r.lt
  clear r
  have r := r'
  clear r'
  have hB' := hB.trans (hbn.mono hB.size)
  clear hB
  have hB := hB'
  clear hB'
  clear hbn
  go_wp2_with fail
  refine (implStep_any _ len len f _ n n X Y w16 (row_fs r hL hf) hn hX (fun _ => ⟨_, rfl, s⟩)).mono ?_
  rintro e w17 ⟨hA, hbn⟩
  rw [hr] at hA
  rcases hA with ⟨-, rfl⟩ | ⟨z', gb, gc, hzz, -⟩
  rotate_left
  · cases hzz
  have r' := rowIs_below r hbn r.lt
  clear r
  have r := r'
  clear r'
  have s' := s.below hbn s.lt
  clear s
  have s := s'
  clear s'
  have hB' := hB.trans (hbn.mono hB.size)
  clear hB
  have hB := hB'
  clear hB'
  clear hbn
  clear r
  clear s
  go_wp2_with fail
  refine (eqPoints_any _ _ 0 _ _ X Y _ (by omega) (nl _) (nl _) nbd).mono ?_
  rintro e w18 ⟨rfl, hbn⟩
  have hB' := hB.trans (hbn.mono hB.size)
  clear hB
  have hB := hB'
  clear hB'
  clear hbn
  go_wp2_with fail
  refine (held_zero _ _ 1 _).mono ?_
  rintro e w19 ⟨rfl, hw'⟩
  have hs' := hw'.symm
  clear hw'
  subst hs'
  go_wp2
  go_ret
  exact ⟨rfl, hB⟩

theorem rstepLaw (a : Option Addr) (len cap : Nat) (f : Nat → Nat) (q : Option Addr) (n qc : Nat) (X Y : Nat → Nat) (w : World) (hL : len ≤ 1048576) (h : FS w a len f) (hn : n ≤ 1048576) (hq : PA w q n X Y) :
    Calls Try.prog 7 #[.slice a len cap, .slice q n qc] w fun e w' => e = .returned (.bool true) ∧ Below w.heap.size w w' := by
  cases hr : stepAn f len n X Y with
  | none => exact rstepLaw_none a len cap f q n qc X Y w hL h hn hq hr
  | some z => exact rstepLaw_some a len cap f q n qc X Y w hL h hn hq z hr
set_option maxHeartbeats 400000 in
theorem rstepLaw_long (a q : Option Addr) (len cap n qc : Nat) (w : World) (hL : 1048576 < len) (hm : len ≤ 9223372036854775807) :
    Calls Try.prog 7 #[.slice a len cap, .slice q n qc] w fun e w' => e = .returned (.bool true) ∧ Below w.heap.size w w' := by
  go_enter Try.func7, Try.ntmps7
  go_wp2
  go_ret
  exact ⟨rfl, Below.refl _ _⟩
set_option maxHeartbeats 400000 in
theorem rstepLaw_long2 (a q : Option Addr) (len cap n qc : Nat) (w : World) (hL : len ≤ 1048576) (hn : 1048576 < n) (hm : n ≤ 9223372036854775807) :
    Calls Try.prog 7 #[.slice a len cap, .slice q n qc] w fun e w' => e = .returned (.bool true) ∧ Below w.heap.size w w' := by
  go_enter Try.func7, Try.ntmps7
  go_wp2_with (go_at_call 24; refine (sz_long q n qc w hn hm).mono ?_; rintro e w' ⟨rfl, rfl⟩)
  go_ret
  exact ⟨rfl, Below.refl _ _⟩
end Go.Proofs.Ytgcnkecfdmafdaa
