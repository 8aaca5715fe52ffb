/- All free places, as both tell them. -/
import Derived.Test.YtfciecoigfnnhaaClFrB
namespace Go.Proofs.Ytfciecoigfnnhaa
open Go.RowKit

set_option maxRecDepth 20000 in
set_option maxHeartbeats 2000000 in
theorem specAll (W : Int) (a : Option Addr) (n c : Nat) (f : Nat → Int) (w : World) (hn : n ≤ 1048576) (hf : IL w a n f) :
    Calls Try.prog 74 #[cel W a n c] w fun e w' => AnsL w w' e (apl W n f) ∧ Below w.heap.size w w' := by
  obtain ⟨i0, hi, hzz⟩ := Option.map_eq_some_iff.1 infoI
  simp only [Prod.mk.injEq] at hzz
  obtain ⟨hz0, hz1, hz2⟩ := hzz
  have hb0 : Below w.heap.size w (w.alloc (celO W a n c 25)) := (Below.refl _ _).alloc (Nat.le_refl _) _
  have hg := specGoodL W a n c f (w.alloc (celO W a n c 25)) hn (hf.alloc _)
  have b0 := bx_new (w := w) (celL W a n c) 25 rfl
  unfold apl
  cases hs : celB W n f with
  | false =>
    rw [hs] at hg
    go_enter Try.func74, Try.ntmps74
    go_wp2_with fail
    refine hg.mono ?_
    rintro e w1 ⟨rfl, hb1⟩
    have hB1 := stepA hb0 hb1
    clear hg
    go_wp2
    go_ret
    exact ⟨ansL_nil _ _, hB1⟩
  | true =>
    rw [hs] at hg
    have hN := sized_le (celB_parts hs).1
    simp only [if_true]
    go_enter Try.func74, Try.ntmps74
    go_wp2_with fail
    refine hg.mono ?_
    rintro e w1 ⟨rfl, hb1⟩
    have hB1 := stepA hb0 hb1
    have hf1 := hf.below hB1
    have b1 := b0.on hb1
    clear hg hb0 hb1 b0 hf
    have x1 := b1.c1
    go_wp2
    go_loopw [3, 11] (fun v i wr => ∃ k : Nat, k ≤ n ∧ i = .int .i64 k ∧ Own wr w1.heap.size v (pl f k).length (gl (pl f k)) ∧ Below w1.heap.size w1 wr) (fun _ i _ => n - (intOf i).toNat)
    case atStart => exact ⟨0, Nat.zero_le _, rfl, World.ownsRow_nil _ _ _ _, Below.refl _ _⟩
    case round =>
      obtain ⟨k, hk, rfl, hown, hB⟩ := hrel
      have hlen := pl_len f k
      have hBw := hB1.trans (hB.mono hB1.size)
      have hbase : w1.heap.size ≤ wr.heap.size := hB.size
      by_cases hlt : k < n
      · obtain ⟨p, off, rfl, hb, hc⟩ := (hf1.below hB) (by omega)
        have x0 := hc k hlt
        have y1 := (b1.on hB).c1
        have j1 : (k : Int) < (n : Int) := by omega
        by_cases hz : f k = 0
        · have hp : pl f (k + 1) = pl f k ++ [(k : Int)] := by simp [pl, hz]
          rw [hz] at x0
          clear hf1 hc x1 b1 hz
          generalize hl : pl f k = l at hown hp hlen
          obtain ⟨sa, sc, rfl⟩ := hown.shape
          go_wp2_with (at_builtin; refine wpList_append_own _ rfl _ _ 23 rfl w1.heap.size 3 i0 (.int .i64 0) 1 8 Try.underlying23 hi hz0 hz1 hz2 rfl (by decide) _ _ _ rfl (World.ownsRow.alloc hown _) ⟨wr.heap.size, 0, none⟩ 1 1 [.int .i64 (k : Int)] rfl rfl (cell_one_new _ _ _) (fun x hx => by simp at hx; subst hx; rfl) (by unfold maxLen; omega) (by omega) (by simp; omega) ?_; intro v' w3 hown' hgrow3 _)
          have hB3 := (hB.alloc hB.size (.cells #[.int .i64 (k : Int)] 3)).grown hgrow3 (by simp; omega) (fun q hq => (World.ownsRow.lt hown q hq).1)
          exact ⟨⟨k + 1, by omega, by go_num, by rw [hp]; exact own_snoc hown', hB3⟩, by simp [intOf]; omega⟩
        · have hp : pl f (k + 1) = pl f k := by simp [pl, hz]
          generalize f k = x at x0 hz
          have k2 : (x == 0) = false := by simpa using hz
          clear hf1 hc x1 b1 hz
          go_wp2
          exact ⟨⟨k + 1, by omega, by go_num, by rw [hp]; exact hown, hB⟩, by simp [intOf]; omega⟩
      · have hke : k = n := by omega
        subst hke
        obtain ⟨sa, sc, rfl⟩ := hown.shape
        clear hf1 b1 x1
        go_wp2
        go_ret
        exact ⟨ansL_own hown hB1.size, hBw⟩
end Go.Proofs.Ytfciecoigfnnhaa
