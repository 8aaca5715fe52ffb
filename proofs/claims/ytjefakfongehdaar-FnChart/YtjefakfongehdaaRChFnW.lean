/- FnChart behind its draws. -/
import Derived.Test.YtjefakfongehdaaRChFnM
import Derived.Test.YtjefakfongehdaaRChSam
import Derived.Test.YtjefakfongehdaaRChFlI
import Derived.Test.YtjefakfongehdaaRChRfI
import Derived.Test.YtjefakfongehdaaRChRunS
import Derived.Test.YtjefakfongehdaaRChRunI
import Derived.Test.YtjefakfongehdaaRChEsI
namespace Go.Proofs.YtjefakfongehdaaR
open Go.RowKit
/-- what is drawn: a chart and some events -/
def AnsDc (w w' : World) (e : Ending) : Prop := ∃ (a : Option Addr) (n c : Nat) (b : Option Addr) (m d : Nat) (f g : Nat → Int) (x : Option Addr) (q r : Nat) (h : Nat → Int), e = .returned (.tuple #[chv a n c b m d, .slice x q r]) ∧ (n ≤ c ∧ n ≤ 1000 ∧ m ≤ 1000 ∧ q ≤ 1000) ∧ IL w' a (n * 2) f ∧ IL w' b (m * 3) g ∧ IL w' x q h ∧ Below w.heap.size w w'
set_option maxRecDepth 20000 in
set_option maxHeartbeats 8000000 in
theorem chartFn (A : Option Addr) (len cap : Nat) (w : World) (hl : len ≤ 1048576)
    (hD : Calls Try.prog 8 #[.slice A len cap] w fun e w' => AnsDc w w' e) :
    Calls Try.prog 3 #[.slice A len cap] w fun e w' => e = .returned (.bool true) ∧ Below w.heap.size w w' := by
  have jl : ¬ (1048576 : Int) < (len : Int) := by omega
  go_enter Try.func3, Try.ntmps3
  go_wp2_with fail
  refine hD.mono ?_
  rintro e w1 ⟨a, n, c, b, m, d, f, g, x, q, r, h, rfl, ⟨hc, hn, hm, hq⟩, hf, hg, hx, hB1⟩
  clear hD
  have hn' : n ≤ 1048576 := by omega
  have hm' : m ≤ 1048576 := by omega
  have hq' : q ≤ 1048576 := by omega
  have kI := fun w hf hg hx => iRunChart a b x n c m d q r f g h w hn' hm' hq' hc hf hg hx
  have kS := fun w hf hg hx => sRunChart a b x n c m d q r f g h w hn' hm' hq' hf hg hx
  have kF := fun w hf hg => iFlatChart a b n c m d f g w hn' hm' hc hf hg
  have kE := fun w hf hg => iEnterState a b n c m d f g 0 w hn' hm' hc hf hg
  have kG := fun w hf hg => sGoodChart a b n c m d f g w hn' hm' hf hg
  have HSame : Hid (runQ n f m g q h = true → gchB n f m g = true ∧ rfQ n (flK f) (flR n f m g) (enterV n f m g 0) q h = true ∧ ∀ i, i < q + 1 → rfK (flR n f m g) h (enterV n f m g 0) i = runF n f m g h i) := fun ht => fl_same ht
  have kR := fun a2 N c2 w hN hA hx => iRunFlat a2 x N c2 q r (flK f) (flR n f m g) h (enterV n f m g 0) w hN hq' hA hx
  have hNle : flN (gchB n f m g) n ≤ 1048576 := by cases gchB n f m g <;> simp [flN] <;> omega
  generalize enterV n f m g 0 = E0 at *
  have hb2 : Below w1.heap.size w1 (w1.alloc (chO a n c b m d 26)) := (Below.refl _ _).alloc (Nat.le_refl _) _
  have b2 := bx_new (w := w1) (chL a n c b m d) 26 rfl
  have x0 := b2.c0
  have x1 := b2.c1
  go_wp2_with fail
  refine (kI _ (hf.below hb2) (hg.below hb2) (hx.below hb2)).mono ?_
  rintro e w3 ⟨⟨a3, c3, rfl, hA3⟩, hb3⟩
  have hX3 := stepA hb2 hb3
  have b3 := b2.on hb3
  clear kI x0 x1 hb2 hb3 b2
  have x0 := b3.c0
  have x1 := b3.c1
  go_wp2_with fail
  refine (kS _ (hf.below hX3) (hg.below hX3) (hx.below hX3)).mono ?_
  rintro e w4 ⟨⟨a4, c4, rfl, -⟩, hb4⟩
  have hX4 := stepA hX3 hb4
  have b4 := b3.on hb4
  have hA4 := hA3.on hb4
  clear kS x0 x1 hX3 hb4 b3 hA3
  have x0 := b4.c0
  have x1 := b4.c1
  cases hT : runQ n f m g q h with
  | false =>
    rw [hT] at hA4
    clear HSame hT
    go_wp2_with fail
    refine (kF _ (hf.below hX4) (hg.below hX4)).mono ?_
    rintro e w5 ⟨⟨a5, c5, rfl, hA5⟩, hb5⟩
    have hX5 := stepA hX4 hb5
    have b5 := b4.on hb5
    have hA5r := hA5.rr
    clear kF x0 x1 hX4 hb5 b4 hA4 hA5
    have x0 := b5.c0
    have x1 := b5.c1
    go_wp2_with fail
    refine (kE _ (hf.below hX5) (hg.below hX5)).mono ?_
    rintro e w6 ⟨rfl, hb6⟩
    have hX6 := stepA hX5 hb6
    have b6 := b5.on hb6
    have hA6 := hA5r.below hb6
    clear kE x0 x1 hX5 hb6 b5 hA5r
    have x0 := b6.c0
    have x1 := b6.c1
    go_wp2_with fail
    refine (kR a5 _ c5 _ hNle hA6 (hx.below hX6)).mono ?_
    rintro e w7 ⟨⟨a7, c7, rfl, -⟩, hb7⟩
    have hX7 := stepA hX6 hb7
    have b7 := b6.on hb7
    clear kR x0 x1 hX6 hb7 b6 hA6
    have x0 := b7.c0
    have x1 := b7.c1
    go_wp2_with fail
    refine (kG _ (hf.below hX7) (hg.below hX7)).mono ?_
    rintro e w8 ⟨rfl, hb8⟩
    have hX8 := stepA hB1 (stepA hX7 hb8)
    clear kG x0 x1 hb8 hX7 b7
    generalize gchB n f m g = GG at *
    cases GG with
    | false =>
      go_wp2
      go_ret
      exact ⟨rfl, hX8⟩
    | true =>
      go_wp2
      go_ret
      exact ⟨rfl, hX8⟩
  | true =>
    obtain ⟨hG, hR, hF⟩ := HSame.out hT
    rw [hT] at hA4
    have hfl : flN (gchB n f m g) n = n := by rw [hG]; rfl
    rw [hfl, hG] at kF
    have hA4' : LQ w4 _ _ a3 (q + 1) (runF n f m g h) := hA4
    clear HSame hT hfl hNle kG hA4
    go_wp2_with fail
    refine (kF _ (hf.below hX4) (hg.below hX4)).mono ?_
    rintro e w5 ⟨⟨a5, c5, rfl, hA5⟩, hb5⟩
    have hX5 := stepA hX4 hb5
    have b5 := b4.on hb5
    have hA5r := hA5.rr
    have hL5 := hA4'.on hb5
    clear kF x0 x1 hX4 hb5 b4 hA4' hA5
    have x0 := b5.c0
    have x1 := b5.c1
    go_wp2_with fail
    refine (kE _ (hf.below hX5) (hg.below hX5)).mono ?_
    rintro e w6 ⟨rfl, hb6⟩
    have hX6 := stepA hX5 hb6
    have b6 := b5.on hb6
    have hA6 := hA5r.below hb6
    have hL6 := hL5.on hb6
    clear kE x0 x1 hX5 hb6 b5 hA5r hL5
    have kR2 := kR a5 n c5 w6 hn' hA6 (hx.below hX6)
    rw [hR] at kR2
    clear kR
    go_wp2_with fail
    refine kR2.mono ?_
    rintro e w7 ⟨⟨a7, c7, rfl, hA7⟩, hb7⟩
    have hX7 := stepA hB1 (stepA hX6 hb7)
    have hL7 := (hL6.on hb7).il
    have hA8 : IL w7 a7 (q + 1) (runF n f m g h) := IL.congr (show IL w7 a7 (q + 1) (rfK (flR n f m g) h E0) from hA7.il) hF
    have kSame := sSame a3 a7 (q + 1) c3 c7 (runF n f m g h) w7 (by omega) hL7 hA8
    clear kR2 hX6 hb7 b6 hA6 hL6 hA7 hF hG hR hL7 hA8
    go_wp2_with fail
    refine kSame.mono ?_
    rintro e w8 ⟨rfl, hb8⟩
    have hX8 := stepA hX7 hb8
    clear kSame
    go_wp2
    go_ret
    exact ⟨rfl, hX8⟩
end Go.Proofs.YtjefakfongehdaaR
