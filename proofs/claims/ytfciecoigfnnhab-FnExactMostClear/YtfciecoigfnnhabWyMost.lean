/- MostClear, as the specification says it. -/
import Derived.Test.YtfciecoigfnnhabWyClear
import Derived.Test.YtfciecoigfnnhabWyAns
namespace Go.Proofs.Ytfciecoigfnnhab
open Go.RowKit

set_option maxHeartbeats 2000000 in
theorem specMost (W : Int) (a : Option Addr) (n c : Nat) (f : Nat → Int) (p : Int) (w : World) (hn : n ≤ 1048576) (hf : IL w a n f) :
    Calls Try.prog 18 #[cel W a n c, .int .i64 p] w fun e w' => AnsL w w' e (mostL W n f p) ∧ Below w.heap.size w w' := by
  obtain ⟨i0, hi, hzz⟩ := Option.map_eq_some_iff.1 infoI
  simp only [Prod.mk.injEq] at hzz
  obtain ⟨hz0, hz1, hz2⟩ := hzz
  have hb0 : Below w.heap.size w (w.alloc (celO W a n c 27)) := (Below.refl _ _).alloc (Nat.le_refl _) _
  have hg := specGoodL W a n c f (w.alloc (celO W a n c 27)) hn (hf.alloc _)
  have b0 := bx_new (w := w) (celL W a n c) 27 rfl
  have x0 := b0.c0
  have x1 := b0.c1
  cases hs : celB W n f with
  | false =>
    have e0 : mostL W n f p = [] := by simp [mostL, hs]
    rw [e0]
    rw [hs] at hg
    go_enter Try.func18, Try.ntmps18
    go_wp2_with fail
    refine hg.mono ?_
    rintro e w1 ⟨rfl, hb1⟩
    have hB1 := stepA hb0 hb1
    clear hg
    go_wp2
    go_ret
    exact ⟨ansL_nil _ _, hB1⟩
  | true =>
    rw [hs] at hg
    have hN := sized_le (celB_parts hs).1
    have hsz := (celB_parts hs).1
    cases hp0 : frB n f p with
    | false =>
      have e0 : mostL W n f p = [] := by simp [mostL, hp0]
      rw [e0]
      go_enter Try.func18, Try.ntmps18
      go_wp2_with fail
      refine hg.mono ?_
      rintro e w1 ⟨rfl, hb1⟩
      have hB1 := stepA hb0 hb1
      have b1 := b0.on hb1
      have y0 := b1.c0
      have y1 := b1.c1
      have kf := sfree_any W a n c f p w1 (hf.below hB1) hn
      rw [hp0] at kf
      clear hg x0 x1
      go_wp2_with fail
      refine kf.mono ?_
      rintro e w2 ⟨rfl, hb2⟩
      have hB2 := stepA hB1 hb2
      clear kf
      go_wp2
      go_ret
      exact ⟨ansL_nil _ _, hB2⟩
    | true =>
      have e0 : mostL W n f p = mcK W n f p n := by simp [mostL, hp0, hs]
      rw [e0]
      go_enter Try.func18, Try.ntmps18
      go_wp2_with fail
      refine hg.mono ?_
      rintro e w0 ⟨rfl, hb1⟩
      have hB0 := stepA hb0 hb1
      have b1 := b0.on hb1
      have y0 := b1.c0
      have y1 := b1.c1
      have kf := sfree_any W a n c f p w0 (hf.below hB0) hn
      rw [hp0] at kf
      clear hg x0 x1 b0 hb1 hb0
      go_wp2_with fail
      refine kf.mono ?_
      rintro e w1 ⟨rfl, hb2⟩
      have hB1 := stepA hB0 hb2
      have hf1 := hf.below hB1
      have b2 := b1.on hb2
      have x0 := b2.c0
      have x1 := b2.c1
      clear kf y0 y1 b1 hB0 hb2 hf e0
      go_wp2
      clear x0 x1
      have HF : Hid _ := hf1
      clear hf1
      go_loopw [5, 19] (fun v i wr => ∃ k : Nat, k ≤ n ∧ i = .int .i64 k ∧ Own wr w1.heap.size v (mcK W n f p k).length (gl (mcK W n f p k)) ∧ Below w1.heap.size w1 wr) (fun _ i _ => n - (intOf i).toNat)
      case atStart => exact ⟨0, Nat.zero_le _, rfl, World.ownsRow_nil _ _ _ _, Below.refl _ _⟩
      case round =>
        obtain ⟨k, hk, rfl, hown, hB⟩ := hrel
        have hlen := mcK_len W n f p k
        have hBw := hB1.trans (hB.mono hB1.size)
        have hbase : w1.heap.size ≤ wr.heap.size := hB.size
        by_cases hlt : k < n
        · have b3 := b2.on hB
          have x0 := b3.c0
          have x1 := b3.c1
          have kc := sClear W a n c f p (k : Int) wr hsz (IL.below HF.out hB)
          have j1 : (k : Int) < (n : Int) := by omega
          have hstep : mcK W n f p (k + 1) = if clrB W n f p (k : Int) then mcK W n f p k ++ [(k : Int)] else mcK W n f p k := rfl
          generalize hl : mcK W n f p k = l at hown hlen hstep
          obtain ⟨sa, sc, rfl⟩ := hown.shape
          clear hl HF
          cases ec : clrB W n f p (k : Int) with
          | true =>
            have hp : mcK W n f p (k + 1) = l ++ [(k : Int)] := by rw [hstep, ec]; rfl
            rw [ec] at kc
            clear hstep ec
            go_wp2_with fail
            refine kc.mono ?_
            rintro e w4 ⟨rfl, hb4⟩
            have hB4 := stepA hB hb4
            have hown4 := hown.below hb4
            have hbase4 : w1.heap.size ≤ w4.heap.size := hB4.size
            clear kc x0 x1 b3 hb4 hown hB
            go_wp2_with (at_builtin; refine wpList_append_own _ rfl _ _ 22 rfl w1.heap.size 3 i0 (.int .i64 0) 1 8 Try.underlying22 hi hz0 hz1 hz2 rfl (by decide) _ _ _ rfl (World.ownsRow.alloc hown4 _) ⟨w4.heap.size, 0, none⟩ 1 1 [.int .i64 (k : Int)] rfl rfl (cell_one_new _ _ _) (fun x hx => by simp at hx; subst hx; rfl) (by unfold maxLen; omega) (by omega) (by simp; omega) ?_; intro v' w3 hown' hgrow3 _)
            have hB5 := (hB4.alloc hB4.size (.cells #[.int .i64 (k : Int)] 3)).grown hgrow3 (by simp; omega) (fun q hq => (World.ownsRow.lt hown4 q hq).1)
            exact ⟨⟨k + 1, by omega, by go_num, by rw [hp]; exact own_snoc hown', hB5⟩, by simp [intOf]; omega⟩
          | false =>
            have hp : mcK W n f p (k + 1) = l := by rw [hstep, ec]; rfl
            rw [ec] at kc
            clear hstep ec
            go_wp2_with fail
            refine kc.mono ?_
            rintro e w4 ⟨rfl, hb4⟩
            have hB4 := stepA hB hb4
            have hown4 := hown.below hb4
            clear kc x0 x1 b3
            go_wp2
            exact ⟨⟨k + 1, by omega, by go_num, by rw [hp]; exact hown4, hB4⟩, by simp [intOf]; omega⟩
        · have hke : k = n := by omega
          subst hke
          obtain ⟨sa, sc, rfl⟩ := hown.shape
          clear HF b2
          go_wp2
          go_ret
          exact ⟨ansL_own hown hB1.size, hBw⟩
end Go.Proofs.Ytfciecoigfnnhab
