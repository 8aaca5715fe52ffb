/- Which places are free, as the model says it. -/
import Derived.Test.YtgfmeineialcgaaClFrB
namespace Go.Proofs.Ytgfmeineialcgaa
open Go.RowKit

set_option maxHeartbeats 1000000 in
theorem sfree_any (W : Int) (a : Option Addr) (n c : Nat) (f : Nat → Int) (p : Int) (w : World) (hf : IL w a n f) (hn : n ≤ 1048576) :
    Calls Try.prog 11 #[cel W a n c, .int .i64 p] w fun e w' => e = .returned (.bool (frB n f p)) ∧ Below w.heap.size w w' := by
  have hb0 : Below w.heap.size w (w.alloc (celO W a n c 29)) := (Below.refl _ _).alloc (Nat.le_refl _) _
  by_cases h0 : 0 ≤ p
  · by_cases h1 : p < (n : Int)
    · obtain ⟨k, rfl⟩ := Int.eq_ofNat_of_zero_le h0
      have hk : k < n := by omega
      obtain ⟨b, off, rfl, hb, hc⟩ := hf (by omega)
      have x0 := (hb0.cell (p := ⟨b, off + k, none⟩) hb).trans (hc k hk)
      by_cases h2 : f k = 0
      · have he : frB n f (k : Int) = true := frB_mk ⟨h0, h1, by simpa using h2⟩
        rw [he]
        rw [h2] at x0
        clear hc hf h2 he
        go_enter Try.func11, Try.ntmps11
        go_wp2
        go_ret
        exact ⟨rfl, hb0⟩
      · have he : frB n f (k : Int) = false := frB_f (by simp [h2])
        rw [he]
        generalize f k = x at x0 h2
        have k2 : (x == 0) = false := by simpa using h2
        clear hc hf h2 he
        go_enter Try.func11, Try.ntmps11
        go_wp2
        go_ret
        first | exact ⟨rfl, hb0⟩ | exact ⟨ret_bool k2, hb0⟩
    · rw [frB_f (by omega)]
      go_enter Try.func11, Try.ntmps11
      go_wp2
      go_ret
      exact ⟨rfl, hb0⟩
  · rw [frB_f (by omega)]
    go_enter Try.func11, Try.ntmps11
    go_wp2
    go_ret
    exact ⟨rfl, hb0⟩
end Go.Proofs.Ytgfmeineialcgaa
