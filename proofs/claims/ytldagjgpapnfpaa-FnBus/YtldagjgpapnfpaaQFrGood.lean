/- A frame as a value. -/
import Derived.Test.YtldagjgpapnfpaaQLqBase
import Derived.Test.YtldagjgpapnfpaaQByCp
import Derived.Test.YtldagjgpapnfpaaQInCore
namespace Go.Proofs.Ytldagjgpapnfpaa
open Go.RowKit

/-- a frame as a value -/
abbrev frv (W : Int) (a : Option Addr) (n c : Nat) : Value := .agg #[.int .i64 W, .slice a n c]
abbrev frvL (W : Int) (a : Option Addr) (n c : Nat) : List Value := [.int .i64 W, .slice a n c]
abbrev frvO (W : Int) (a : Option Addr) (n c : Nat) (t : TypeId) : Obj := .cells #[.int .i64 W, .slice a n c] t

/-- a return of a frame out of its box -/
theorem ret_frv {fn : Func} {t : Tmp} {R : Ending → World → Prop} {a : Act} {w : World} {b : Nat} {u v : Value} (h : fn.results = #[.cell t 54]) (hp : a.tmps.getD t undef = .pointer (some ⟨b, 0, none⟩)) (c0 : w.cell? ⟨b, 0, none⟩ = some u) (c1 : w.cell? ⟨b, 1, none⟩ = some v) (hd : a.defers = [])
    (hR : R (.returned (.agg #[u, v])) w) : bodyPost Try.prog fn R .ret a w := by
  refine bodyPost_ret ?_ hd hR
  have hp' : a.tmps[t]?.getD undef = .pointer (some ⟨b, 0, none⟩) := by simpa using hp
  simp [results, h, hp', asAddr, loadVar, go_sem, c0, c1]

end Go.Proofs.Ytldagjgpapnfpaa

/- Frames: the law's own copies of them, compared; their sizes. -/
namespace Go.Proofs.Ytldagjgpapnfpaa
open Go.RowKit

set_option maxHeartbeats 1000000 in
theorem toFrame_any (W : Int) (a : Option Addr) (n c : Nat) (f : Nat → Int) (w : World) (hn : n ≤ 1048576) (hf : YL w a n f) :
    Calls Try.prog 69 #[frv W a n c] w fun e w' => ∃ a', e = .returned (frv W a' n n) ∧ VQ w' w.heap.size w'.heap.size a' n (fun i => .int .u8 (f i)) ∧ Below w.heap.size w w' := by
  go_enter Try.func69, Try.ntmps69
  go_wp2_with fail
  refine (copyBy a n c f _ hn (((hf.alloc _).alloc _).alloc _)).mono ?_
  rintro e w1 ⟨rfl, hL1, hs1, hb1⟩
  have bO := (((bx_new (w := w.alloc (frvO W a n c 109)) (b := w.heap.size + 1) (frvL 0 none 0 0) 54 (by simp)).alloc _).on hb1)
  have bT := ((bx_new (w := (w.alloc (frvO W a n c 109)).alloc (frvO 0 none 0 0 54)) (b := w.heap.size + 1 + 1) (frvL W none 0 0) 54 (by simp)).on hb1)
  have hB1 := below_al (below_al (below_al hb1))
  simp only [size_al] at hL1 hs1
  clear hb1
  have y0 := bT.c0
  have y1 := bT.c1
  have yf := bT.fz 1
  have z0 := bO.c0
  have z1 := bO.c1
  have zf0 := bO.fz 0
  have zf1 := bO.fz 1
  have bR := ((bO.far (b' := w.heap.size + 1 + 1) (k := 1) (.slice (some ⟨w.heap.size + 1 + 1 + 1, 0, none⟩) n n) (by omega)).set 0 (by simp) (.int .i64 W)).set 1 (by simp) (.slice (some ⟨w.heap.size + 1 + 1 + 1, 0, none⟩) n n)
  have hL4 := vq_set (vq_set (vq_set hL1 (b := w.heap.size + 1 + 1) (k := 1) (.slice (some ⟨w.heap.size + 1 + 1 + 1, 0, none⟩) n n) (by omega)) (b := w.heap.size + 1) (k := 0) (.int .i64 W) (by omega)) (b := w.heap.size + 1) (k := 1) (.slice (some ⟨w.heap.size + 1 + 1 + 1, 0, none⟩) n n) (by omega)
  have hB4 := ((hB1.setCell (p := ⟨w.heap.size + 1 + 1, 1, none⟩) (by simp <;> omega) (.slice (some ⟨w.heap.size + 1 + 1 + 1, 0, none⟩) n n)).setCell (p := ⟨w.heap.size + 1, 0, none⟩) (by simp <;> omega) (.int .i64 W)).setCell (p := ⟨w.heap.size + 1, 1, none⟩) (by simp <;> omega) (.slice (some ⟨w.heap.size + 1 + 1 + 1, 0, none⟩) n n)
  go_wp2_with fail
  refine ret_frv Try.results69 rfl bR.c0 bR.c1 rfl ?_
  exact ⟨_, rfl, hL4.wide (by omega) (by simp only [size_set]; omega), hB4⟩

set_option maxHeartbeats 1000000 in
theorem eqFrame_any (W : Int) (a a2 : Option Addr) (n c c2 : Nat) (f : Nat → Int) (w : World) (hn : n ≤ 1048576) (hf : YL w a n f) (hf2 : YL w a2 n f) :
    Calls Try.prog 70 #[frv W a n c, frv W a2 n c2] w fun e w' => e = .returned (.bool true) ∧ Below w.heap.size w w' := by
  go_enter Try.func70, Try.ntmps70
  go_wp2_with fail
  refine (eqBy a a2 n c c2 f _ hn ((hf.alloc _).alloc _) ((hf2.alloc _).alloc _)).mono ?_
  rintro e w1 ⟨rfl, hb1⟩
  have hB1 := below_al (below_al hb1)
  clear hb1
  go_wp2
  go_ret
  exact ⟨rfl, hB1⟩

set_option maxHeartbeats 1000000 in
theorem szFrame_any (W : Int) (a : Option Addr) (n c : Nat) (l : Int) (w : World) (h0 : 0 ≤ l) (h1 : l ≤ 1048576) (hm : n ≤ 9223372036854775807) :
    Calls Try.prog 68 #[frv W a n c, .int .i64 l] w fun e w' => e = .returned (.int .i64 (if l < (n : Int) then -1 else l - (n : Int))) ∧ Below w.heap.size w w' := by
  have hb0 : Below w.heap.size w (w.alloc (frvO W a n c 109)) := (Below.refl _ _).alloc (Nat.le_refl _) _
  have hk := fun w2 => szBy a n c l w2 h0 h1 hm
  by_cases hh : l < (n : Int)
  · rw [if_pos hh] at hk ⊢
    go_enter Try.func68, Try.ntmps68
    go_wp2_with fail
    refine (hk _).mono ?_
    rintro e w1 ⟨rfl, hw1⟩
    have hs1 := hw1.symm
    clear hw1
    subst hs1
    go_wp2
    go_ret
    exact ⟨rfl, hb0⟩
  · rw [if_neg hh] at hk ⊢
    have j1 : ¬ l - (n : Int) < 0 := by omega
    go_enter Try.func68, Try.ntmps68
    go_wp2_with fail
    refine (hk _).mono ?_
    rintro e w1 ⟨rfl, hw1⟩
    have hs1 := hw1.symm
    clear hw1
    subst hs1
    go_wp2
    go_ret
    exact ⟨rfl, hb0⟩
theorem szFrame_in (W : Int) (a : Option Addr) (n c : Nat) (w : World) (h : n ≤ 1048576) :
    Calls Try.prog 68 #[frv W a n c, .int .i64 1048576] w fun e w' => e = .returned (.int .i64 (1048576 - (n : Int))) ∧ Below w.heap.size w w' := by
  have := szFrame_any W a n c 1048576 w (by omega) (by omega) (by omega)
  rw [if_neg (by omega)] at this
  exact this
theorem szFrame_out (W : Int) (a : Option Addr) (n c : Nat) (w : World) (h : 1048576 < n) (hn : n ≤ 9223372036854775807) :
    Calls Try.prog 68 #[frv W a n c, .int .i64 1048576] w fun e w' => e = .returned (.int .i64 (-1)) ∧ Below w.heap.size w w' := by
  have := szFrame_any W a n c 1048576 w (by omega) (by omega) hn
  rw [if_pos (by omega)] at this
  exact this
end Go.Proofs.Ytldagjgpapnfpaa

/- Which ids are good. -/
namespace Go.Proofs.Ytldagjgpapnfpaa
open Go.RowKit
def idB (x : Int) : Bool := decide (0 ≤ x) && decide (x ≤ 2047)
theorem idB_of {x : Int} (h : idB x = true) : 0 ≤ x ∧ x ≤ 2047 := by unfold idB at h; simpa using h
set_option maxHeartbeats 1000000 in
theorem goodId_any (x : Int) (w : World) : Calls Try.prog 71 #[.int .i64 x] w fun e w' => e = .returned (.bool (idB x)) ∧ w' = w := by
  unfold idB
  by_cases h0 : 0 ≤ x
  · by_cases h1 : x ≤ 2047
    · rw [decide_eq_true h0, decide_eq_true h1]
      go_enter Try.func71, Try.ntmps71
      go_wp2
      go_ret
      exact ⟨rfl, rfl⟩
    · rw [decide_eq_true h0, decide_eq_false h1]
      go_enter Try.func71, Try.ntmps71
      go_wp2
      go_ret
      exact ⟨rfl, rfl⟩
  · rw [decide_eq_false h0]
    go_enter Try.func71, Try.ntmps71
    go_wp2
    go_ret
    exact ⟨rfl, rfl⟩
end Go.Proofs.Ytldagjgpapnfpaa

/- A frame is good: both sides. -/
namespace Go.Proofs.Ytldagjgpapnfpaa
open Go.RowKit
def frB (W : Int) (n : Nat) : Bool := idB W && decide (n ≤ 8)
set_option maxHeartbeats 1000000 in
theorem sGoodF (W : Int) (a : Option Addr) (n c : Nat) (w : World) :
    Calls Try.prog 51 #[frv W a n c] w fun e w' => e = .returned (.bool (frB W n)) ∧ Below w.heap.size w w' := by
  have hb0 : Below w.heap.size w (w.alloc (frvO W a n c 54)) := (Below.refl _ _).alloc (Nat.le_refl _) _
  unfold frB idB
  by_cases h0 : 0 ≤ W
  · by_cases h1 : W ≤ 2047
    · by_cases h2 : n ≤ 8
      · have j : (n : Int) ≤ 8 := by omega
        rw [decide_eq_true h0, decide_eq_true h1, decide_eq_true h2]
        go_enter Try.func51, Try.ntmps51
        go_wp2
        go_ret
        exact ⟨rfl, hb0⟩
      · have j : ¬ (n : Int) ≤ 8 := by omega
        rw [decide_eq_true h0, decide_eq_true h1, decide_eq_false h2]
        go_enter Try.func51, Try.ntmps51
        go_wp2
        go_ret
        exact ⟨rfl, hb0⟩
    · rw [decide_eq_true h0, decide_eq_false h1]
      go_enter Try.func51, Try.ntmps51
      go_wp2
      go_ret
      exact ⟨rfl, hb0⟩
  · rw [decide_eq_false h0]
    go_enter Try.func51, Try.ntmps51
    go_wp2
    go_ret
    exact ⟨rfl, hb0⟩
set_option maxHeartbeats 1000000 in
theorem iGoodF (W : Int) (a : Option Addr) (n c : Nat) (w : World) :
    Calls Try.prog 57 #[frv W a n c] w fun e w' => e = .returned (.bool (frB W n)) ∧ Below w.heap.size w w' := by
  have hb0 : Below w.heap.size w (w.alloc (frvO W a n c 54)) := (Below.refl _ _).alloc (Nat.le_refl _) _
  have kG := fun w2 => goodId_any W w2
  unfold frB
  cases hq : idB W with
  | true =>
    rw [hq] at kG
    by_cases h2 : n ≤ 8
    · have j : (n : Int) ≤ 8 := by omega
      rw [decide_eq_true h2]
      go_enter Try.func57, Try.ntmps57
      go_wp2_with fail
      refine (kG _).mono ?_
      rintro e w2 ⟨rfl, hw2⟩
      have hs2 := hw2.symm
      clear hw2 kG
      subst hs2
      go_wp2
      go_ret
      exact ⟨rfl, hb0⟩
    · have j : decide ((n : Int) ≤ 8) = false := decide_eq_false (by omega)
      rw [decide_eq_false h2]
      go_enter Try.func57, Try.ntmps57
      go_wp2_with fail
      refine (kG _).mono ?_
      rintro e w2 ⟨rfl, hw2⟩
      have hs2 := hw2.symm
      clear hw2 kG
      subst hs2
      go_wp2
      go_ret
      exact ⟨rfl, hb0⟩
  | false =>
    rw [hq] at kG
    go_enter Try.func57, Try.ntmps57
    go_wp2_with fail
    refine (kG _).mono ?_
    rintro e w2 ⟨rfl, hw2⟩
    have hs2 := hw2.symm
    clear hw2 kG
    subst hs2
    go_wp2
    go_ret
    exact ⟨rfl, hb0⟩
end Go.Proofs.Ytldagjgpapnfpaa
