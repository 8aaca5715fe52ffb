/- Where a leaf steps to, as the model goes. -/
import Derived.Test.YtjefakfongehdaaRChEnS
namespace Go.Proofs.YtjefakfongehdaaR
open Go.RowKit
/-- no arrow of state s on event e among the first k -/
def noArw (h : Nat → Int) (s e : Int) (k : Nat) : Prop := ∀ j, j < k → ¬ (h (j * 3) = s ∧ h (j * 3 + 1) = e)
theorem arrowOf_none {m : Nat} {h : Nat → Int} {s e : Int} (hn : noArw h s e m) : arrowOf m h s e = none := by
  unfold arrowOf
  rw [List.find?_eq_none]
  intro k hk
  have := hn k (List.mem_range.1 hk)
  simpa using this
theorem arrowOf_first {m : Nat} {h : Nat → Int} {s e : Int} {k : Nat} (hk : k < m) (hn : noArw h s e k) (h0 : h (k * 3) = s) (h1 : h (k * 3 + 1) = e) : arrowOf m h s e = some k := by
  cases ha : arrowOf m h s e with
  | none =>
    have := List.find?_eq_none.1 ha k (List.mem_range.2 hk)
    simp [h0, h1] at this
  | some j =>
    obtain ⟨hj, e0, e1⟩ := arrowOf_some ha
    have hge : k ≤ j := Nat.le_of_not_lt fun hlt => hn j hlt ⟨e0, e1⟩
    by_cases e2 : j = k
    · rw [e2]
    · have hlt : k < j := by omega
      unfold arrowOf at ha
      obtain ⟨-, i, hi, hget, hall⟩ := List.find?_eq_some_iff_getElem.1 ha
      simp only [List.getElem_range] at hget
      subst hget
      have := hall k hlt
      simp [h0, h1] at this
/-- what is left to go from state s -/
def stepU (n : Nat) (g : Nat → Int) (m : Nat) (h : Nat → Int) (leaf : Nat) (e : Int) (s : Nat) : Nat := stepF n g m h leaf e (s + 1) s
theorem Gch.stepC_u {n m : Nat} {g h : Nat → Int} (H : Gch n g m h) {leaf : Nat} (e : Int) (hl : leaf < n) : stepC n g m h leaf e = stepU n g m h leaf e leaf := H.stepF_eq leaf e _ _ _ hl hl (Nat.lt_succ_self _)
theorem stepU_some {n m : Nat} {g h : Nat → Int} {leaf : Nat} {e : Int} {s k : Nat} (ha : arrowOf m h (s : Int) e = some k) : stepU n g m h leaf e s = ent n g (h (k * 3 + 2)).toNat := by
  unfold stepU stepF; rw [ha]
theorem Gch.stepU_up {n m : Nat} {g h : Nat → Int} (H : Gch n g m h) {leaf : Nat} {e : Int} {s : Nat} (hs : s < n) (ha : arrowOf m h (s : Int) e = none) (h0 : 0 ≤ g (s * 2)) : stepU n g m h leaf e s = stepU n g m h leaf e (g (s * 2)).toNat := by
  have hu := H.up hs h0
  have e1 : stepU n g m h leaf e s = stepF n g m h leaf e s (g (s * 2)).toNat := by
    unfold stepU; rw [stepF, ha]; exact if_pos h0
  rw [e1]
  exact H.stepF_eq leaf e _ _ _ (by omega) hu.1 (Nat.lt_succ_self _)
theorem stepU_end {n m : Nat} {g h : Nat → Int} {leaf : Nat} {e : Int} {s : Nat} (ha : arrowOf m h (s : Int) e = none) (h0 : ¬ 0 ≤ g (s * 2)) : stepU n g m h leaf e s = leaf := by
  unfold stepU; rw [stepF, ha]; exact if_neg h0
set_option maxRecDepth 20000 in
set_option maxHeartbeats 4000000 in
theorem sStep (a b : Option Addr) (n c m d : Nat) (f g : Nat → Int) (leaf : Nat) (ev : Int) (w : World) (H : Gch n f m g) (hl : leaf < n) (hf : IL w a (n * 2) f) (hg : IL w b (m * 3) g) :
    Calls Try.prog 35 #[chv a n c b m d, .int .i64 (leaf : Int), .int .i64 ev] w fun e w' => e = .returned (.int .i64 (stepC n f m g leaf ev : Nat)) ∧ Below w.heap.size w w' := by
  have hb0 : Below w.heap.size w (w.alloc (chO a n c b m d 26)) := (Below.refl _ _).alloc (Nat.le_refl _) _
  have b0 := bx_new (w := w) (chL a n c b m d) 26 rfl
  have hf0 := hf.below hb0
  have hg0 := hg.below hb0
  have HH : Hid (Gch n f m g) := H
  have HS : Hid (stepC n f m g leaf ev = stepU n f m g leaf ev leaf) := H.stepC_u ev hl
  have hn12 := H.n12
  have hm24 := H.m24
  have kE := fun s w hs h => sEnter a b n c m d f g s w H hs h
  clear H hf hg
  go_enter Try.func35, Try.ntmps35
  go_wp2
  generalize w.alloc (chO a n c b m d 26) = w1 at *
  go_loopw [7] (fun i wr => ((∃ s : Nat, s < n ∧ i = .int .i64 (s : Int) ∧ Hid (stepC n f m g leaf ev = stepU n f m g leaf ev s)) ∨ (i = .int .i64 (-1) ∧ Hid (stepC n f m g leaf ev = leaf))) ∧ Below w1.heap.size w1 wr) (fun i _ => (intOf i + 1).toNat)
  case atStart => exact ⟨.inl ⟨leaf, hl, rfl, HS⟩, Below.refl _ _⟩
  case round =>
    obtain ⟨⟨s, hs, rfl, HE⟩ | ⟨rfl, HE⟩, hB⟩ := hrel
    · have b1 := b0.on hB
      have hf1 := hf0.below hB
      have hg1 := hg0.below hB
      have hBw := stepA hb0 hB
      have x0 := b1.c0
      have x1 := b1.c1
      have j0 : (0 : Int) ≤ (s : Int) := by omega
      obtain ⟨w2, hw2⟩ : ∃ w2, w2 = wr := ⟨wr, rfl⟩
      subst hw2
      have HBB : Hid (∀ wr, Below w2.heap.size w2 wr → Below w1.heap.size w1 wr) := fun wr h => stepA hB h
      clear hB b0 hf0 hg0 HS
      go_wp2
      go_loopw [22] (fun i wr => ∃ k : Nat, k ≤ m ∧ i = .int .i64 (k : Int) ∧ Hid (noArw g (s : Int) ev k) ∧ Below w2.heap.size w2 wr) (fun i _ => m - (intOf i).toNat)
      case atStart => exact ⟨0, Nat.zero_le _, rfl, fun j hj => absurd hj (Nat.not_lt_zero _), Below.refl _ _⟩
      case round =>
        obtain ⟨k, hk, rfl, HN, hB2⟩ := hrel
        have hBr := stepA hBw hB2
        have b2 := b1.on hB2
        have x2 := b2.c0
        by_cases hlt : k < m
        · obtain ⟨gb, go_, rfl, gl_, y0, y1, y2⟩ := il_three (hg1.below hB2) hlt
          have hA := HH.out.arw k hlt
          have HF : Hid (g (k * 3) = (s : Int) → g (k * 3 + 1) = ev → stepC n f m g leaf ev = ent n f (g (k * 3 + 2)).toNat) := fun h0 h1 => HE.out.trans (stepU_some (arrowOf_first hlt HN.out h0 h1))
          have HG : Hid (¬ (g (k * 3) = (s : Int) ∧ g (k * 3 + 1) = ev) → noArw g (s : Int) ev (k + 1)) := fun h0 j hj => by
            by_cases e : j = k
            · rw [e]; exact h0
            · exact HN.out j (by omega)
          obtain ⟨u, hu⟩ : ∃ u : Nat, g (k * 3 + 2) = (u : Int) := ⟨(g (k * 3 + 2)).toNat, by omega⟩
          have hun : u < n := by omega
          rw [hu] at y2 HF
          rw [Int.toNat_natCast] at HF
          generalize g (k * 3) = X at *
          generalize g (k * 3 + 1) = Y at *
          have hbt : Below wr.heap.size wr (wr.alloc (.cells #[.int .i64 X, .int .i64 Y, .int .i64 (u : Int)] 69)) := (Below.refl _ _).alloc (Nat.le_refl _) _
          have b3 := bx_new (w := wr) [.int .i64 X, .int .i64 Y, .int .i64 (u : Int)] 69 rfl
          have z0 := b3.c0
          have z1 := b3.c1
          have z2 := b3.c2
          have b4 := b2.on hbt
          have v0 := b4.c0
          have v1 := b4.c1
          have i0 : (0 : Int) ≤ (k : Int) := by omega
          have i1 : (k : Int) < (m : Int) := by omega
          have hBt := stepA hB2 hbt
          have hBu := stepA hBr hbt
          have kE2 := kE u (wr.alloc (.cells #[.int .i64 X, .int .i64 Y, .int .i64 (u : Int)] 69)) hun ((hf1.below hB2).below hbt)
          clear hA hu hbt b3 b4 b2 x2 HE kE
          by_cases h0 : X = (s : Int)
          · subst h0
            by_cases h1 : Y = ev
            · subst h1
              have HR : Hid (stepC n f m g leaf Y = ent n f u) := HF.out rfl rfl
              clear HF HG
              go_wp2_with fail
              refine kE2.mono ?_
              rintro e w3 ⟨rfl, hb3⟩
              have hB3 := stepA hBu hb3
              clear kE2 z0 z1 z2 v0 v1 y0 y1 y2
              go_wp2
              go_ret
              exact ⟨by rw [HR.out]; rfl, hB3⟩
            · have h1' : (Y == ev) = false := by simpa using h1
              have HN2 : Hid (noArw g (s : Int) ev (k + 1)) := HG.out (fun e => h1 e.2)
              clear HF HG kE2 h1
              go_wp2
              exact ⟨⟨k + 1, by omega, by go_num, HN2, hBt⟩, by simp [intOf]; omega⟩
          · have h0' : (X == (s : Int)) = false := by simpa using h0
            have HN2 : Hid (noArw g (s : Int) ev (k + 1)) := HG.out (fun e => h0 e.1)
            clear HF HG kE2 h0
            go_wp2
            exact ⟨⟨k + 1, by omega, by go_num, HN2, hBt⟩, by simp [intOf]; omega⟩
        · have hkm : k = m := by omega
          subst hkm
          have ha := arrowOf_none HN.out
          obtain ⟨fb, fo_, rfl, fl_, y0, y1⟩ := il_two (hf1.below hB2) hs
          have i0 : (0 : Int) ≤ (s : Int) := by omega
          have i1 : (s : Int) < (n : Int) := by omega
          have hBt := (hB2.mono (Nat.le_refl _))
          by_cases h0 : 0 ≤ f (s * 2)
          · obtain ⟨h1, h2⟩ := HH.out.up hs h0
            have HE2 : Hid (stepC n f k g leaf ev = stepU n f k g leaf ev (f (s * 2)).toNat) := HE.out.trans (HH.out.stepU_up hs ha h0)
            obtain ⟨u, hu⟩ : ∃ u, (f (s * 2)).toNat = u := ⟨_, rfl⟩
            rw [hu] at h1 h2 HE2
            rw [← h2] at y0
            clear hu h2 h0 HE kE ha
            go_wp2
            exact ⟨⟨.inl ⟨u, by omega, rfl, HE2⟩, HBB.out wr hB2⟩, by simp [intOf]; omega⟩
          · have hm1 : f (s * 2) = -1 := by
              by_cases e : s = 0
              · rw [e]; exact HH.out.root
              · have := (HH.out.par s (by omega) hs).1
                omega
            have HE2 : Hid (stepC n f k g leaf ev = leaf) := HE.out.trans (stepU_end ha h0)
            rw [hm1] at y0
            clear hm1 h0 HE kE ha
            go_wp2
            exact ⟨⟨.inr ⟨rfl, HE2⟩, HBB.out wr hB2⟩, by simp [intOf]⟩
    · have hBw := stepA hb0 hB
      clear kE b0 hf0 hg0
      go_wp2
      go_ret
      exact ⟨by rw [HE.out]; rfl, hBw⟩
end Go.Proofs.YtjefakfongehdaaR
