/- A list of pairs of ints by one flat index. -/
import Derived.Test.YtbndhhjgjalecabDoorQLqBase
import Derived.Test.YtbndhhjgjalecabDoorQClFrB
namespace Go.Proofs.YtbndhhjgjalecabDoor
open Go.RowKit
theorem ip_two {w : World} {b n : Nat} {F : Nat → Int} (h : IP w b (n * 2) F) {k : Nat} (hk : k < n) :
    w.cell? ⟨b, k * 2, none⟩ = some (.int .i64 (F (k * 2))) ∧ w.cell? ⟨b, k * 2 + 1, none⟩ = some (.int .i64 (F (k * 2 + 1))) :=
  ⟨h.c _ (by omega), h.c _ (by omega)⟩
theorem il_two {w : World} {a : Option Addr} {n : Nat} {F : Nat → Int} (h : IL w a (n * 2) F) {k : Nat} (hk : k < n) : ∃ b off, a = some ⟨b, off, none⟩ ∧ b < w.heap.size ∧
    w.cell? ⟨b, off + k * 2, none⟩ = some (.int .i64 (F (k * 2))) ∧ w.cell? ⟨b, off + k * 2 + 1, none⟩ = some (.int .i64 (F (k * 2 + 1))) := by
  obtain ⟨b, off, ha, hb, hc⟩ := h (by omega)
  refine ⟨b, off, ha, hb, hc _ (by omega), ?_⟩
  rw [Nat.add_assoc]; exact hc _ (by omega)

end Go.Proofs.YtbndhhjgjalecabDoor

/- Which places are free, as the model says it. -/
namespace Go.Proofs.YtbndhhjgjalecabDoor
open Go.RowKit

set_option maxHeartbeats 1000000 in
theorem sfree_any (W : Int) (a : Option Addr) (n c : Nat) (f : Nat → Int) (p : Int) (w : World) (hf : IL w a n f) (hn : n ≤ 1048576) :
    Calls Tryd.prog 19 #[cel W a n c, .int .i64 p] w fun e w' => e = .returned (.bool (frB n f p)) ∧ Below w.heap.size w w' := by
  have hb0 : Below w.heap.size w (w.alloc (celO W a n c 29)) := (Below.refl _ _).alloc (Nat.le_refl _) _
  by_cases h0 : 0 ≤ p
  · by_cases h1 : p < (n : Int)
    · obtain ⟨k, rfl⟩ := Int.eq_ofNat_of_zero_le h0
      have hk : k < n := by omega
      obtain ⟨b, off, rfl, hb, hc⟩ := hf (by omega)
      have x0 := (hb0.cell (p := ⟨b, off + k, none⟩) hb).trans (hc k hk)
      by_cases h2 : f k = 0
      · have he : frB n f (k : Int) = true := frB_mk ⟨h0, h1, by simpa using h2⟩
        rw [he]
        rw [h2] at x0
        clear hc hf h2 he
        go_enter Tryd.func19, Tryd.ntmps19
        go_wp2
        go_ret
        exact ⟨rfl, hb0⟩
      · have he : frB n f (k : Int) = false := frB_f (by simp [h2])
        rw [he]
        generalize f k = x at x0 h2
        have k2 : (x == 0) = false := by simpa using h2
        clear hc hf h2 he
        go_enter Tryd.func19, Tryd.ntmps19
        go_wp2
        go_ret
        first | exact ⟨rfl, hb0⟩ | exact ⟨ret_bool k2, hb0⟩
    · rw [frB_f (by omega)]
      go_enter Tryd.func19, Tryd.ntmps19
      go_wp2
      go_ret
      exact ⟨rfl, hb0⟩
  · rw [frB_f (by omega)]
    go_enter Tryd.func19, Tryd.ntmps19
    go_wp2
    go_ret
    exact ⟨rfl, hb0⟩
end Go.Proofs.YtbndhhjgjalecabDoor
