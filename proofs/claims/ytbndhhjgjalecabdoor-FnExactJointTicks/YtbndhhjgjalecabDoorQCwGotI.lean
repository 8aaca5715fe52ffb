/- The ground of good trips, and which trips are good, as the program tells it. -/
import Derived.Test.YtbndhhjgjalecabDoorQCwAlI
import Derived.Test.YtbndhhjgjalecabDoorQWyGof
import Derived.Test.YtbndhhjgjalecabDoorQSzHave
namespace Go.Proofs.YtbndhhjgjalecabDoor
open Go.RowKit

theorem il_take {w : World} {a : Option Addr} {n k : Nat} {f : Nat → Int} (h : IL w a n f) (hk : k ≤ n) : IL w a k f := fun h0 => by
  obtain ⟨b, o, e, h1, h2⟩ := h (by omega)
  exact ⟨b, o, e, h1, fun i hi => h2 i (by omega)⟩
abbrev z3 : List Value := [.int .i64 0, .int .i64 0, .slice none 0 0]
abbrev gL (W H : Int) (a : Option Addr) (n c : Nat) : List Value := [.int .i64 W, .int .i64 H, .slice a n c]
set_option maxRecDepth 20000 in
set_option maxHeartbeats 4000000 in
theorem got_any (W : Int) (a b : Option Addr) (n c m d : Nat) (f g : Nat → Int) (w : World) (hn : n ≤ 1048576) (hm : m ≤ 1048576) (hd : m ≤ d) (hf : IL w a n f) (hg : IL w b (m * 2) g) :
    Calls Tryd.prog 14 #[cel W a n c, .slice b m d] w fun e w' => e = .returned (.tuple #[gof W a n c (gtB W n f m g), .bool (gtB W n f m g)]) ∧ Below w.heap.size w w' := by
  have hb0 : Below w.heap.size w ((w.alloc (celO W a n c 29)).alloc (.cells #[.int .i64 0, .int .i64 0, .slice none 0 0] 43)) := ((Below.refl _ _).alloc (Nat.le_refl _) _).alloc (by simp) _
  have bR0 := bx_new (w := w.alloc (celO W a n c 29)) (b := w.heap.size + 1) z3 43 (by simp)
  have hf0 := hf.below hb0
  cases hs : celB W n f with
  | false =>
    have HR : Hid (gtB W n f m g = false) := by show gtB W n f m g = false; simp [gtB, hs]
    have hG := groundOf_no W a n c f _ hn hf0 hs
    clear hf0 hs
    go_enter Tryd.func14, Tryd.ntmps14
    go_wp2_with fail
    refine hG.mono ?_
    rintro e w1 ⟨rfl, hb1⟩
    have bG := bR0.on hb1
    have hB1 := stepA hb0 hb1
    clear hG hb0 hb1 bR0
    have r0 := bG.c0
    have r1 := bG.c1
    have r2 := bG.c2
    have f0 := bG.fz 0
    have f1 := bG.fz 1
    have f2 := bG.fz 2
    have lR := bG.lt
    have bE := (((bG.set 0 (by simp) (.int .i64 0)).set 1 (by simp) (.int .i64 0)).set 2 (by simp) (.slice none 0 0)).alloc (.cells #[.int .i64 0, .int .i64 0, .slice none 0 0] 43)
    have hBE := (((hB1.setCell (p := ⟨w.heap.size + 1, 0, none⟩) (by simp) (.int .i64 0)).setCell (p := ⟨w.heap.size + 1, 1, none⟩) (by simp) (.int .i64 0)).setCell (p := ⟨w.heap.size + 1, 2, none⟩) (by simp) (.slice none 0 0)).alloc (by simp only [size_set]; exact hB1.size) (.cells #[.int .i64 0, .int .i64 0, .slice none 0 0] 43)
    clear bG
    go_wp2
    refine ret_gr_tmp Tryd.results14 rfl bE.c0 bE.c1 bE.c2 rfl ?_
    exact ⟨by rw [HR.out]; rfl, hBE⟩
  | true =>
    have hG := groundOf_yes W a n c f _ hn hf0 hs
    clear hf0
    obtain ⟨H, eH⟩ : ∃ H, hgt W n = H := ⟨_, rfl⟩
    have HH : Hid (hgt W n = H) := eH
    rw [eH] at hG
    clear eH
    by_cases h5 : m ≤ 5
    case neg =>
      have h5' : (5 : Int) < (m : Int) := by omega
      have HR : Hid (gtB W n f m g = false) := by show gtB W n f m g = false; simp [gtB, h5]
      go_enter Tryd.func14, Tryd.ntmps14
      go_wp2_with fail
      refine hG.mono ?_
      rintro e w1 ⟨rfl, hb1⟩
      have bG := bR0.on hb1
      have hB1 := stepA hb0 hb1
      clear hG hb0 hb1 bR0
      have r0 := bG.c0
      have r1 := bG.c1
      have r2 := bG.c2
      have f0 := bG.fz 0
      have f1 := bG.fz 1
      have f2 := bG.fz 2
      have lR := bG.lt
      have bE := (((bG.set 0 (by simp) (.int .i64 0)).set 1 (by simp) (.int .i64 0)).set 2 (by simp) (.slice none 0 0)).alloc (.cells #[.int .i64 W, .int .i64 H, .slice a n c] 43)
      have hBE := (((hB1.setCell (p := ⟨w.heap.size + 1, 0, none⟩) (by simp) (.int .i64 0)).setCell (p := ⟨w.heap.size + 1, 1, none⟩) (by simp) (.int .i64 0)).setCell (p := ⟨w.heap.size + 1, 2, none⟩) (by simp) (.slice none 0 0)).alloc (by simp only [size_set]; exact hB1.size) (.cells #[.int .i64 W, .int .i64 H, .slice a n c] 43)
      clear bG
      go_wp2
      refine ret_gr_tmp Tryd.results14 rfl bE.c0 bE.c1 bE.c2 rfl ?_
      exact ⟨by rw [HR.out]; rfl, hBE⟩
    case pos =>
      have h5' : ¬ (5 : Int) < (m : Int) := by omega
      have HQ : Hid (gtB W n f m g = trB n f g m) := by show gtB W n f m g = trB n f g m; simp [gtB, hs, h5]
      clear hs
      go_enter Tryd.func14, Tryd.ntmps14
      go_wp2_with fail
      refine hG.mono ?_
      rintro e w1 ⟨rfl, hb1⟩
      have bG0 := bR0.on hb1
      have hB1 := stepA hb0 hb1
      clear hG hb0 hb1 bR0
      have bR := bG0.alloc (.cells #[.int .i64 W, .int .i64 H, .slice a n c] 43)
      have hB2 := hB1.alloc hB1.size (.cells #[.int .i64 W, .int .i64 H, .slice a n c] 43)
      have bG := bx_new (w := w1) (b := w1.heap.size) (gL W H a n c) 43 rfl
      have l0 := bG0.lt
      have hf2 := hf.below hB2
      have hg2 := hg.below hB2
      clear bG0 hB1 hf hg
      obtain ⟨G, eG⟩ : ∃ G, w1.heap.size = G := ⟨_, rfl⟩
      go_wp2
      rw [eG] at bG
      generalize w1.alloc (.cells #[.int .i64 W, .int .i64 H, .slice a n c] 43) = W2 at *
      clear eG l0
      go_loopw [26] (fun i wr => ∃ k : Nat, k ≤ m ∧ i = .int .i64 k ∧ trB n f g k = true ∧ Below W2.heap.size W2 wr) (fun i _ => m - (intOf i).toNat)
      case atStart => exact ⟨0, Nat.zero_le _, rfl, rfl, Below.refl _ _⟩
      case round =>
        obtain ⟨k, hk, rfl, hT, hB⟩ := hrel
        by_cases hlt : k < m
        · obtain ⟨gb, go_, eb, gl_, y0, y1⟩ := il_two (hg2.below hB) hlt
          have j0 : (0 : Int) ≤ (k : Int) := by omega
          have j1 : (k : Int) < (m : Int) := by omega
          have j2 : (k : Int) ≤ (d : Int) := by omega
          obtain ⟨O, eO⟩ : ∃ O : Obj, O = .cells #[.int .i64 (g (k * 2)), .int .i64 (g (k * 2 + 1))] 31 := ⟨_, rfl⟩
          have hBt : Below wr.heap.size wr (wr.alloc (.cells #[.int .i64 (g (k * 2)), .int .i64 (g (k * 2 + 1))] 31)) := (Below.refl _ _).alloc (Nat.le_refl _) _
          have bT := bx_new (w := wr) (b := wr.heap.size) [.int .i64 (g (k * 2)), .int .i64 (g (k * 2 + 1))] 31 rfl
          have hB3 := stepA hB hBt
          have hgk : IL (wr.alloc (.cells #[.int .i64 (g (k * 2)), .int .i64 (g (k * 2 + 1))] 31)) b (k * 2) g := il_take (hg2.below hB3) (by omega)
          have kF := fun w h => free_any W H a n c f (g (k * 2)) w h hn
          have kT := fun w h => free_any W H a n c f (g (k * 2 + 1)) w h hn
          have kC := fun q w hg h0 h1 hp => conTrip b k d g k q w (by omega) hg h0 h1 hp
          have HN : Hid (¬ (frB n f (g (k * 2)) = true ∧ frB n f (g (k * 2 + 1)) = true ∧ apB g k k = true) → gtB W n f m g = false) := fun h => gtB_false hlt h
          have HY : Hid (frB n f (g (k * 2)) = true → frB n f (g (k * 2 + 1)) = true → apB g k k = true → trB n f g (k + 1) = true) := fun h1 h2 h3 => by simp [trB, hT, h1, h2, h3]
          clear hg2 eO O
          subst eb
          generalize frB n f (g (k * 2)) = R1 at kF HN HY
          generalize frB n f (g (k * 2 + 1)) = R2 at kT HN HY
          generalize apB g k k = R3 at kC HN HY
          generalize g (k * 2) = v0 at *
          generalize g (k * 2 + 1) = v1 at *
          have bGr := bG.on hB
          have x0 := bGr.c0
          have x1 := bGr.c1
          have x2 := bGr.c2
          have lG := bGr.lt
          have bG3 := bG.on hB3
          have bR3 := bR.on hB3
          have hf3 := hf2.below hB3
          clear bG bR hf2 bGr
          go_wp2_with fail
          clear x0 x1 x2 lG
          obtain ⟨Tb, eT⟩ : ∃ Tb, wr.heap.size = Tb := ⟨_, rfl⟩
          rw [eT] at bT ⊢
          generalize wr.alloc (.cells #[.int .i64 v0, .int .i64 v1] 31) = w3 at *
          clear hB hBt eT y0 y1
          refine (kF _ hf3).mono ?_
          rintro e w4 ⟨rfl, hb4⟩
          have bG4 := bG3.on hb4
          have bR4 := bR3.on hb4
          have bT4 := bT.on hb4
          have hf4 := hf3.below hb4
          have hg4 := hgk.below hb4
          have hB4 := stepA hB3 hb4
          clear bG3 bR3 bT hf3 hgk hB3 hb4 kF
          cases R1 with
          | false =>
            have HR : Hid (gtB W n f m g = false) := HN.out (fun h => by cases h.1)
            have hB9 := hB2.trans (hB4.mono hB2.size)
            clear HN HY bG4 bT4 hf4 hg4 kT kC hB4 hB2
            have r0 := bR4.c0
            have r1 := bR4.c1
            have r2 := bR4.c2
            have f0 := bR4.fz 0
            have f1 := bR4.fz 1
            have f2 := bR4.fz 2
            have lR := bR4.lt
            have bE := (((bR4.set 0 (by simp) (.int .i64 0)).set 1 (by simp) (.int .i64 0)).set 2 (by simp) (.slice none 0 0))
            have hBE := (((hB9.setCell (p := ⟨w.heap.size + 1, 0, none⟩) (by simp) (.int .i64 0)).setCell (p := ⟨w.heap.size + 1, 1, none⟩) (by simp) (.int .i64 0)).setCell (p := ⟨w.heap.size + 1, 2, none⟩) (by simp) (.slice none 0 0))
            clear bR4
            go_wp2
            refine ret_gr_tmp Tryd.results14 rfl bE.c0 bE.c1 bE.c2 rfl ?_
            exact ⟨by rw [HR.out]; rfl, hBE⟩
          | true =>
            have x0 := bG4.c0
            have x1 := bG4.c1
            have x2 := bG4.c2
            have t1 := bT4.c1
            go_wp2_with fail
            clear x0 x1 x2 t1
            refine (kT _ hf4).mono ?_
            rintro e w5 ⟨rfl, hb5⟩
            have bG5 := bG4.on hb5
            have bR5 := bR4.on hb5
            have bT5 := bT4.on hb5
            have hg5 := hg4.below hb5
            have hB5 := stepA hB4 hb5
            clear bG4 bR4 bT4 hf4 hg4 hB4 hb5 kT
            cases R2 with
            | false =>
              have HR : Hid (gtB W n f m g = false) := HN.out (fun h => by cases h.2.1)
              have hB9 := hB2.trans (hB5.mono hB2.size)
              clear HN HY bG5 bT5 hg5 kC hB5 hB2
              have r0 := bR5.c0
              have r1 := bR5.c1
              have r2 := bR5.c2
              have f0 := bR5.fz 0
              have f1 := bR5.fz 1
              have f2 := bR5.fz 2
              have lR := bR5.lt
              have bE := (((bR5.set 0 (by simp) (.int .i64 0)).set 1 (by simp) (.int .i64 0)).set 2 (by simp) (.slice none 0 0))
              have hBE := (((hB9.setCell (p := ⟨w.heap.size + 1, 0, none⟩) (by simp) (.int .i64 0)).setCell (p := ⟨w.heap.size + 1, 1, none⟩) (by simp) (.int .i64 0)).setCell (p := ⟨w.heap.size + 1, 2, none⟩) (by simp) (.slice none 0 0))
              clear bR5
              go_wp2
              refine ret_gr_tmp Tryd.results14 rfl bE.c0 bE.c1 bE.c2 rfl ?_
              exact ⟨by rw [HR.out]; rfl, hBE⟩
            | true =>
              go_wp2_with fail
              refine (kC _ _ hg5 bT5.c0 bT5.c1 bT5.lt).mono ?_
              rintro e w6 ⟨rfl, hb6⟩
              have bR6 := bR5.on hb6
              have hB6 := stepA hB5 hb6
              clear bG5 bR5 bT5 hg5 hB5 hb6 kC
              cases R3 with
              | false =>
                have HR : Hid (gtB W n f m g = false) := HN.out (fun h => by cases h.2.2)
                have hB9 := hB2.trans (hB6.mono hB2.size)
                clear HN HY hB6 hB2
                have r0 := bR6.c0
                have r1 := bR6.c1
                have r2 := bR6.c2
                have f0 := bR6.fz 0
                have f1 := bR6.fz 1
                have f2 := bR6.fz 2
                have lR := bR6.lt
                have bE := (((bR6.set 0 (by simp) (.int .i64 0)).set 1 (by simp) (.int .i64 0)).set 2 (by simp) (.slice none 0 0))
                have hBE := (((hB9.setCell (p := ⟨w.heap.size + 1, 0, none⟩) (by simp) (.int .i64 0)).setCell (p := ⟨w.heap.size + 1, 1, none⟩) (by simp) (.int .i64 0)).setCell (p := ⟨w.heap.size + 1, 2, none⟩) (by simp) (.slice none 0 0))
                clear bR6
                go_wp2
                refine ret_gr_tmp Tryd.results14 rfl bE.c0 bE.c1 bE.c2 rfl ?_
                exact ⟨by rw [HR.out]; rfl, hBE⟩
              | true =>
                have HR : Hid (trB n f g (k + 1) = true) := by have h := HY.out; show trB n f g (k + 1) = true; simpa using h
                clear HN HY bR6
                go_wp2
                exact ⟨⟨k + 1, by omega, by go_num, HR.out, hB6⟩, by simp [intOf]; omega⟩
        · have hke : k = m := by omega
          subst hke
          have HR : Hid (gtB W n f k g = true) := by show gtB W n f k g = true; rw [HQ.out]; exact hT
          have bR3 := bR.on hB
          have bG3 := bG.on hB
          have x0 := bG3.c0
          have x1 := bG3.c1
          have x2 := bG3.c2
          have hB9 := hB2.trans (hB.mono hB2.size)
          have r0 := bR3.c0
          have r1 := bR3.c1
          have r2 := bR3.c2
          have f0 := bR3.fz 0
          have f1 := bR3.fz 1
          have f2 := bR3.fz 2
          have lR := bR3.lt
          have lG := bG3.lt
          have bE := (((bR3.set 0 (by simp) (.int .i64 W)).set 1 (by simp) (.int .i64 H)).set 2 (by simp) (.slice a n c))
          have hBE := (((hB9.setCell (p := ⟨w.heap.size + 1, 0, none⟩) (by simp) (.int .i64 W)).setCell (p := ⟨w.heap.size + 1, 1, none⟩) (by simp) (.int .i64 H)).setCell (p := ⟨w.heap.size + 1, 2, none⟩) (by simp) (.slice a n c))
          clear bR bG bR3 bG3 hf2 hg2 hB2 hB hB9 hT HQ
          go_wp2_with fail
          refine ret_gr_tmp Tryd.results14 rfl bE.c0 bE.c1 bE.c2 rfl ?_
          exact ⟨by rw [HR.out]; unfold gof; rw [HH.out]; rfl, hBE⟩
end Go.Proofs.YtbndhhjgjalecabDoor
