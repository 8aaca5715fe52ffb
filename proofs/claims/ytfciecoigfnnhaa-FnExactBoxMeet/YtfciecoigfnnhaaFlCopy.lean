/- The contracts of the copy of a list of floats, and of the comparison of two lists of the same floats. -/
import Derived.Test.YtfciecoigfnnhaaFlSame
import Derived.Test.YtfciecoigfnnhaaFlOps
import Derived.Deep.QuietTactic
import Derived.BigQuiet
namespace Go.Proofs.Ytfciecoigfnnhaa
open Go.RowKit

theorem infoF : (Try.prog.info? 106).map (fun i => (i.zero, i.size, i.bytes)) = some (some (.float .f64 0), 1, 8) := by kernel_rfl

/-- the row behind a copy's first k stores -/
def rowK (f : Nat → Nat) (k : Nat) (i : Nat) : Value := if i < k then .float .f64 (f i) else .float .f64 0

theorem rowK_step (f : Nat → Nat) (k : Nat) {w : World} {b n : Nat} (h : w.rowIs b 106 n (rowK f k)) : (w.setCell ⟨b, k, none⟩ (.float .f64 (f k))).rowIs b 106 n (rowK f (k + 1)) := by
  refine (h.set k _).congr fun i _ => ?_
  unfold rowK
  by_cases e : i = k
  · subst e; simp
  · by_cases e2 : i < k
    · simp [e, e2, Nat.lt_succ_of_lt e2]
    · have : ¬ i < k + 1 := by omega
      simp [e, e2, this]

set_option maxHeartbeats 400000 in
theorem copy_any (a : Option Addr) (len cap : Nat) (f : Nat → Nat) (w : World) (h : FS w a len f) :
    Calls Try.prog 60 #[.slice a len cap] w fun e w' => ∃ v, e = .returned v ∧ v = .slice (some ⟨w.heap.size, 0, none⟩) len len ∧ FS w' (some ⟨w.heap.size, 0, none⟩) len f ∧ w.heap.size < w'.heap.size ∧ Below w.heap.size w w' := by
  obtain ⟨hl, hf, hc⟩ := h
  have hmk := run_make_row' (P := Try.prog) 41 106 (.float .f64 0) 8 Try.underlying41 infoF rfl .i64 .i64 len (by omega) (by omega)
  have hr0 : (w.alloc (.cells (madeCells #[.float .f64 0] len) 106)).rowIs w.heap.size 106 len (rowK f 0) := (World.rowIs_made w (.float .f64 0) len 106).congr fun i _ => by simp [rowK]
  have hb0 : Below w.heap.size w (w.alloc (.cells (madeCells #[.float .f64 0] len) 106)) := (Below.refl _ _).alloc (Nat.le_refl _) _
  have HR : Hid ((w.alloc (.cells (madeCells #[.float .f64 0] len) 106)).rowIs w.heap.size 106 len (rowK f 0)) := hr0
  clear hr0
  go_enter Try.func60, Try.ntmps60
  go_wp2
  go_loopw [4] (fun i wr => ∃ k : Nat, k ≤ len ∧ i = .int .i64 k ∧ wr.rowIs w.heap.size 106 len (rowK f k) ∧ Below w.heap.size w wr) (fun i _ => len - (intOf i).toNat)
  case atStart => exact ⟨0, Nat.zero_le _, rfl, HR.out, hb0⟩
  case round =>
    obtain ⟨k, hk, rfl, hrow, hbel⟩ := hrel
    by_cases hlt : k < len
    · obtain ⟨b, off, rfl, hbw, hcell⟩ := hc (by omega)
      have hck : wr.cell? ⟨b, off + k, none⟩ = some (.float .f64 (f k)) := (hbel.cell (p := ⟨b, off + k, none⟩) hbw).trans (hcell k hlt)
      have ho : wr.cell? ⟨w.heap.size, k, none⟩ = some (.float .f64 0) := by rw [hrow.cell hlt]; simp [rowK]
      have hfz := hrow.frozen k
      have hrow' := rowK_step f k hrow
      have hbel' := hbel.setCell (p := ⟨w.heap.size, k, none⟩) (Nat.le_refl _) (.float .f64 (f k))
      clear hcell hf hc hmk hb0 HR hrow hbel
      go_wp2
      go_roundw
      case rel => exact ⟨k + 1, by omega, by go_num, hrow', hbel'⟩
      case measure => simp [intOf]; omega
    · have : k = len := by omega
      subst this
      clear hmk hb0 HR
      go_wp2
      go_ret
      refine ⟨_, rfl, rfl, ⟨hl, hf, fun _ => ⟨_, _, rfl, hrow.lt, fun i hi => ?_⟩⟩, hrow.lt, hbel⟩
      rw [Nat.zero_add, hrow.cell hi]; simp [rowK, hi]

set_option maxHeartbeats 400000 in
theorem eqs_any (a1 a2 : Option Addr) (len c1 c2 : Nat) (f : Nat → Nat) (w : World) (h1 : FS w a1 len f) (h2 : FS w a2 len f) :
    Calls Try.prog 66 #[.slice a1 len c1, .slice a2 len c2] w fun e w' => e = .returned (.bool true) ∧ ∃ n, w' = w.drewN n := by
  obtain ⟨hl, hf, hc1⟩ := h1
  obtain ⟨_, _, hc2⟩ := h2
  go_enter Try.func66, Try.ntmps66
  go_wp2
  go_loopw [5] (fun i wr => ∃ k n : Nat, k ≤ len ∧ i = .int .i64 k ∧ wr = w.drewN n) (fun i _ => len - (intOf i).toNat)
  case atStart => exact ⟨0, 0, Nat.zero_le _, rfl, rfl⟩
  case round =>
    obtain ⟨k, n, hk, rfl, hw⟩ := hrel
    have HW : Hid (wr = w.drewN n) := hw
    clear hw
    by_cases hlt : k < len
    · obtain ⟨b1, o1, rfl, hb1, hcell1⟩ := hc1 (by omega)
      obtain ⟨b2, o2, rfl, hb2, hcell2⟩ := hc2 (by omega)
      have hk1 : wr.cell? ⟨b1, o1 + k, none⟩ = some (.float .f64 (f k)) := by rw [HW.out]; exact hcell1 k hlt
      have hk2 : wr.cell? ⟨b2, o2 + k, none⟩ = some (.float .f64 (f k)) := by rw [HW.out]; exact hcell2 k hlt
      have hfk := hf k hlt
      have hlt' : (k : Int) < (len : Int) := by omega
      clear hcell1 hcell2 hc1 hc2 hf
      go_wp2
      go_quiet ((go_at_call 95; exact Calls.quiet_of_same (same_any _ _ hfk)))
      go_wp2
      go_roundw
      case rel => exact ⟨k + 1, _, by omega, by go_num, by rw [HW.out, World.drewN_drewN]⟩
      case measure => simp [intOf]; omega
    · clear hc1 hc2 hf
      go_wp2
      go_ret
      exact ⟨rfl, n, HW.out⟩
end Go.Proofs.Ytfciecoigfnnhaa
