/- A number to the base 2, as the library writes it; noughts ahead of it. -/
import Derived.Test.YtplpggcbpcebcaaDoorFbM
import Derived.Test.YtplpggcbpcebcaaDoorSfB
import Derived.Test.YtplpggcbpcebcaaDoorWhVq
import Derived.Test.YtplpggcbpcebcaaDoorRpShelf
import Derived.Laws.BitsLemmas
import Derived.Deep.Cut
namespace Go.Proofs.YtplpggcbpcebcaaDoor
open Go.RowKit
/-- the table of math/bits by which noughts at the end are counted, as far as it is asked for -/
def Db (w : World) : Prop := 5 < w.heap.size ∧ w.cell? ⟨5, 1, none⟩ = some (.int .u8 1)
theorem Db.on {w w' : World} (h : Db w) (k : Below w.heap.size w w') : Db w' := ⟨Nat.lt_of_lt_of_le h.1 k.size, (k.cell (p := ⟨5, 1, none⟩) h.1).trans h.2⟩
set_option maxHeartbeats 1000000 in
theorem tz64 (w : World) (h : Db w) : Calls Tryd.prog 99 #[.int .u64 2] w fun e w' => e = .returned (.int .i64 1) ∧ w' = w := by
  obtain ⟨h1, h2⟩ := h
  have e1 : IntKind.u64.wrap (-2) = 18446744073709551614 := by decide +kernel
  have e2 : bits .and .u64 2 18446744073709551614 = 2 := by decide +kernel
  have e3 : IntKind.u64.wrap (2 * 285870213051353865) = 571740426102707730 := by decide +kernel
  go_enter Tryd.func99, Tryd.ntmps99
  go_wp2
  go_ret
  exact ⟨rfl, rfl⟩
set_option maxHeartbeats 1000000 in
theorem tz (w : World) (h : Db w) : Calls Tryd.prog 92 #[.int .u64 2] w fun e w' => e = .returned (.int .i64 1) ∧ w' = w := by
  have k := tz64 w h
  go_enter Tryd.func92, Tryd.ntmps92
  go_wp2_with (first | (go_at_call 99; refine k.mono ?_; rintro e w9 ⟨rfl, hw9⟩; have hs' := hw9.symm; clear hw9; subst hs') | fail)
  go_ret
  exact ⟨rfl, rfl⟩
set_option maxHeartbeats 1000000 in
theorem pw2 (w : World) : Calls Tryd.prog 91 #[.int .i64 2] w fun e w' => e = .returned (.bool true) ∧ w' = w := by
  go_enter Tryd.func91, Tryd.ntmps91
  go_wp2
  go_ret
  exact ⟨rfl, rfl⟩
theorem and1 (y : Nat) (h : y < 32768) : bits .and .u64 (y : Int) 1 = ((y % 2 : Nat) : Int) := by
  have k := bits_mask .u64 63 (by decide) (fun n h0 h1 => by rw [IntKind.wrap_u64]; omega) 1 (by decide) (y : Int) (by omega) (by omega)
  have e : ((2 : Int) ^ 1 - 1) = 1 := by decide
  have e2 : ((2 : Int) ^ 1) = 2 := by decide
  rw [e, e2] at k
  rw [k]; omega
/-- what stands in the buffer behind k digits -/
def bfF (v k : Nat) (i : Nat) : Value := .int .u8 (if 65 ≤ i + k ∧ i < 65 then dgt v (64 - i) else 0)
theorem bfF_step {w : World} {b v k : Nat} (h : VP w b 65 (bfF v k)) (hk : k < 65) : VP (w.setCell ⟨b, 64 - k, none⟩ (.int .u8 (dgt v k))) b 65 (bfF v (k + 1)) := by
  have q := h.set (k := 64 - k) (by omega) (.int .u8 (dgt v k))
  refine ⟨q.lt, fun i hi => ?_, q.fz⟩
  rw [q.c i hi]
  congr 1
  unfold bfF
  by_cases e : i = 64 - k
  · subst e
    rw [if_pos rfl, if_pos (by omega), show 64 - (64 - k) = k by omega]
  · rw [if_neg e]
    by_cases e2 : 65 ≤ i + k ∧ i < 65
    · rw [if_pos e2, if_pos (by omega)]
    · rw [if_neg e2, if_neg (by omega)]
theorem low_row {w : World} {b v k : Nat} (h : VP w b 65 (bfF v k)) (hk : k ≤ 65) : ∀ i, i < (lowL v k).length → ∃ x, (lowL v k)[i]? = some x ∧ w.cell? ⟨b, (65 - k) + i, none⟩ = some (.int .u8 x) := fun i hi => by
  have hl : (lowL v k).length = k := by simp [lowL]
  refine ⟨dgt v (k - 1 - i), by simp [lowL, show i < k by omega], ?_⟩
  rw [h.c _ (by omega)]
  unfold bfF
  rw [if_pos (by omega), show 64 - (65 - k + i) = k - 1 - i by omega]
end Go.Proofs.YtplpggcbpcebcaaDoor
