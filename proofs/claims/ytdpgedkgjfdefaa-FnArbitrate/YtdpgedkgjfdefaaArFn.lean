/- The walk of the law on ids that are drawn. -/
import Derived.Test.YtdpgedkgjfdefaaArLf
import Derived.Test.YtdpgedkgjfdefaaArDraw
namespace Go.Proofs.Ytdpgedkgjfdefaa
open Go.RowKit
set_option maxHeartbeats 4000000 in
theorem arFn (a : Option Addr) (len cap : Nat) (w : World) (hl : len ≤ 1048576) (hb : 0 < len → ∃ b off, a = some ⟨b, off, none⟩ ∧ b < w.heap.size ∧ ∀ i, i < len → ∃ v : Int, w.cell? ⟨b, off + i, none⟩ = some (.int .u8 v) ∧ 0 ≤ v ∧ v ≤ 255) :
    Calls Try.prog 4 #[.slice a len cap] w fun e w' => e = .returned (.bool true) ∧ Below w.heap.size w w' := by
  have hd := drawArb a len cap w hl hb
  clear hb
  have j0 : ¬ (1048576 : Int) < (len : Int) := by omega
  go_enter Try.func4, Try.ntmps4
  go_wp2_with fail
  refine hd.mono ?_
  rintro e w1 ⟨a', n, c', f, rfl, hk, hA1, hB1⟩
  clear hd
  obtain ⟨K, M, G, B, hAr⟩ := arIs_some n f
  have hI := fun w2 h => iArb a' n c' f K M G B w2 (by omega) hAr h
  have hS := fun w2 h => sArb a' n c' f K M G B w2 (by omega) hAr h
  rcases hAr with ⟨hok, hK, rfl, rfl, rfl⟩ | ⟨_, rfl, rfl, rfl⟩
  · go_wp2_with fail
    refine (hI _ hA1).mono ?_
    rintro e w2 ⟨⟨p2, q2, rfl, hL2⟩, hb2⟩
    have hA2 := hA1.below hb2
    have hB2 := stepA hB1 hb2
    clear hb2 hB1 hA1 hI
    go_wp2_with fail
    refine (hS _ hA2).mono ?_
    rintro e w3 ⟨⟨p3, q3, rfl, -⟩, hb3⟩
    have hA3 := hA2.below hb3
    have hB3 := stepA hB2 hb3
    have hL3 := hL2.on hb3
    clear hb3 hB2 hA2 hS hL2
    have hM := leastFirst_any a' p2 M c' q2 f K w3 (by omega) hok.2.2 hK hA3 hL3.il
    go_wp2_with fail
    refine hM.mono ?_
    rintro e w4 ⟨rfl, hw4⟩
    have hs4 := hw4.symm
    clear hw4 hM
    subst hs4
    go_wp2
    go_ret
    exact ⟨rfl, hB3⟩
  · go_wp2_with fail
    refine (hI _ hA1).mono ?_
    rintro e w2 ⟨⟨p2, q2, rfl, hL2⟩, hb2⟩
    have hA2 := hA1.below hb2
    have hB2 := stepA hB1 hb2
    clear hb2 hB1 hA1 hI
    go_wp2_with fail
    refine (hS _ hA2).mono ?_
    rintro e w3 ⟨⟨p3, q3, rfl, -⟩, hb3⟩
    have hB3 := stepA hB2 hb3
    clear hb3 hB2 hA2 hS hL2
    go_wp2
    go_ret
    exact ⟨rfl, hB3⟩
set_option maxHeartbeats 400000 in
theorem arFn_long (a : Option Addr) (len cap : Nat) (w : World) (h : 1048576 < len) :
    Calls Try.prog 4 #[.slice a len cap] w fun e w' => e = .returned (.bool true) ∧ Below w.heap.size w w' := by
  have j : (1048576 : Int) < (len : Int) := by omega
  go_enter Try.func4, Try.ntmps4
  go_wp2
  go_ret
  exact ⟨rfl, Below.refl _ _⟩
theorem arFnAll (a : Option Addr) (len cap : Nat) (w : World) (hb : 0 < len → ∃ b off, a = some ⟨b, off, none⟩ ∧ b < w.heap.size ∧ ∀ i, i < len → ∃ v : Int, w.cell? ⟨b, off + i, none⟩ = some (.int .u8 v) ∧ 0 ≤ v ∧ v ≤ 255) :
    Calls Try.prog 4 #[.slice a len cap] w fun e w' => e = .returned (.bool true) ∧ Below w.heap.size w w' := by
  by_cases h : len ≤ 1048576
  · exact arFn a len cap w h hb
  · exact arFn_long a len cap w (by omega)
end Go.Proofs.Ytdpgedkgjfdefaa
