/- A copy of a list of floats as a row of its own, and the contract of the function that marks one. -/
import Derived.Test.YtgcnkecfdmafdaaPtRow
import Derived.Test.YtgcnkecfdmafdaaFlCopy
namespace Go.Proofs.Ytgcnkecfdmafdaa
open Go.RowKit

/-- a row of floats -/
def fRow (f : Nat → Nat) (i : Nat) : Value := .float .f64 (f i)
theorem row_fs {w : World} {b len : Nat} {f : Nat → Nat} (h : w.rowIs b 22 len (fRow f)) (hl : len ≤ 1048576) (hf : ∀ i, i < len → f i < 18446744073709551616) : FS w (some ⟨b, 0, none⟩) len f :=
  ⟨hl, hf, fun _ => ⟨b, 0, rfl, h.lt, fun i hi => by rw [Nat.zero_add]; exact h.cell hi⟩⟩

set_option maxHeartbeats 400000 in
theorem copyR_any (a : Option Addr) (len cap : Nat) (f : Nat → Nat) (w : World) (h : FS w a len f) :
    Calls Try.prog 16 #[.slice a len cap] w fun e w' => ∃ v, e = .returned v ∧ v = .slice (some ⟨w.heap.size, 0, none⟩) len len ∧ w'.rowIs w.heap.size 22 len (fRow f) ∧ Below w.heap.size w w' := by
  obtain ⟨hl, hf, hc⟩ := h
  have hmk := run_make_row' (P := Try.prog) 31 22 (.float .f64 0) 8 Try.underlying31 infoF rfl .i64 .i64 len (by omega) (by omega)
  have hr0 : (w.alloc (.cells (madeCells #[.float .f64 0] len) 22)).rowIs w.heap.size 22 len (rowK f 0) := (World.rowIs_made w (.float .f64 0) len 22).congr fun i _ => by simp [rowK]
  have hb0 : Below w.heap.size w (w.alloc (.cells (madeCells #[.float .f64 0] len) 22)) := (Below.refl _ _).alloc (Nat.le_refl _) _
  have HR : Hid ((w.alloc (.cells (madeCells #[.float .f64 0] len) 22)).rowIs w.heap.size 22 len (rowK f 0)) := hr0
  clear hr0
  go_enter Try.func16, Try.ntmps16
  go_wp2
  go_loopw [4] (fun i wr => ∃ k : Nat, k ≤ len ∧ i = .int .i64 k ∧ wr.rowIs w.heap.size 22 len (rowK f k) ∧ Below w.heap.size w wr) (fun i _ => len - (intOf i).toNat)
  case atStart => exact ⟨0, Nat.zero_le _, rfl, HR.out, hb0⟩
  case round =>
    obtain ⟨k, hk, rfl, hrow, hbel⟩ := hrel
    by_cases hlt : k < len
    · obtain ⟨b, off, rfl, hbw, hcell⟩ := hc (by omega)
      have hck : wr.cell? ⟨b, off + k, none⟩ = some (.float .f64 (f k)) := (hbel.cell (p := ⟨b, off + k, none⟩) hbw).trans (hcell k hlt)
      have ho : wr.cell? ⟨w.heap.size, k, none⟩ = some (.float .f64 0) := by rw [hrow.cell hlt]; simp [rowK]
      have hfz := hrow.frozen k
      have hrow' := rowK_step f k hrow
      have hbel' := hbel.setCell (p := ⟨w.heap.size, k, none⟩) (Nat.le_refl _) (.float .f64 (f k))
      clear hcell hf hc hmk hb0 HR hrow hbel
      go_wp2
      go_roundw
      case rel => exact ⟨k + 1, by omega, by go_num, hrow', hbel'⟩
      case measure => simp [intOf]; omega
    · have : k = len := by omega
      subst this
      clear hmk hb0 HR
      go_wp2
      go_ret
      exact ⟨_, rfl, rfl, hrow.congr fun i hi => (by simp [rowK, fRow, hi]), hbel⟩

set_option maxHeartbeats 1000000 in
theorem markFloats_any (b n cap m : Nat) (F : Nat → Value) (w : World) (hn : n ≤ 1048576) (hm : m ≤ 1048576 * 4) (h : w.rowIs b 22 n F) :
    Calls Try.prog 28 #[.slice (some ⟨b, 0, none⟩) n cap, .int .i64 (m : Int)] w fun e w' => e = .returned (.int .i64 ((m : Int) + (n : Int))) ∧ Only b w w' := by
  go_enter Try.func28, Try.ntmps28
  go_wp2
  go_loopw [1, 5] (fun q i wr => ∃ (k : Nat) (F' : Nat → Value), k ≤ n ∧ i = .int .i64 k ∧ q = .int .i64 ((m : Int) + (k : Int)) ∧ wr.rowIs b 22 n F' ∧ Only b w wr) (fun _ i _ => n - (intOf i).toNat)
  case atStart => exact ⟨0, F, Nat.zero_le _, rfl, by simp, h, Only.refl _ _⟩
  case round =>
    obtain ⟨k, F', hk, rfl, rfl, hrow, hO⟩ := hrel
    clear h
    by_cases hlt : k < n
    · have x0 := hrow.cell hlt
      have f0 := hrow.frozen k
      have i0 : (0 : Int) ≤ (k : Int) := by omega
      have i1 : (k : Int) < (n : Int) := by omega
      go_wp2
      exact ⟨⟨k + 1, _, by omega, by go_num, by congr 1 <;> omega, hrow.set k _, hO.set _ _⟩, by simp [intOf]; omega⟩
    · have hke : k = n := by omega
      subst hke
      go_wp2
      go_ret
      exact ⟨rfl, hO⟩
end Go.Proofs.Ytgcnkecfdmafdaa
