/- The law's own functions on lists of floats: copies, comparisons, sizes. -/
import Derived.Test.YtfciecoigfnnhaaFqCore
import Derived.Test.YtfciecoigfnnhaaFlCopy
namespace Go.Proofs.Ytfciecoigfnnhaa
open Go.RowKit

theorem FL.fs {w : World} {a : Option Addr} {n : Nat} {f : Nat → Nat} (h : FL w a n f) (hl : n ≤ 1048576) (hf : ∀ i, i < n → f i < 18446744073709551616) : FS w a n f := ⟨hl, hf, h⟩
theorem FS.fl {w : World} {a : Option Addr} {n : Nat} {f : Nat → Nat} (h : FS w a n f) : FL w a n f := h.2.2
theorem FS.alloc {w : World} {a : Option Addr} {len : Nat} {f : Nat → Nat} (h : FS w a len f) (o : Obj) : FS (w.alloc o) a len f := h.below ((Below.refl w.heap.size w).alloc (Nat.le_refl _) o)

set_option maxHeartbeats 400000 in
theorem copyF (a : Option Addr) (len cap : Nat) (f : Nat → Nat) (w : World) (h : FS w a len f) :
    Calls Try.prog 60 #[.slice a len cap] w fun e w' => e = .returned (.slice (some ⟨w.heap.size, 0, none⟩) len len) ∧ FQ w' w.heap.size (w.heap.size + 1) (some ⟨w.heap.size, 0, none⟩) len f ∧ w.heap.size < w'.heap.size ∧ Below w.heap.size w w' := by
  obtain ⟨hl, hf, hc⟩ := h
  have hmk := run_make_row' (P := Try.prog) 41 106 (.float .f64 0) 8 Try.underlying41 infoF rfl .i64 .i64 len (by omega) (by omega)
  have hr0 : (w.alloc (.cells (madeCells #[.float .f64 0] len) 106)).rowIs w.heap.size 106 len (rowK f 0) := (World.rowIs_made w (.float .f64 0) len 106).congr fun i _ => by simp [rowK]
  have hb0 : Below w.heap.size w (w.alloc (.cells (madeCells #[.float .f64 0] len) 106)) := (Below.refl _ _).alloc (Nat.le_refl _) _
  have HR : Hid ((w.alloc (.cells (madeCells #[.float .f64 0] len) 106)).rowIs w.heap.size 106 len (rowK f 0)) := hr0
  clear hr0
  go_enter Try.func60, Try.ntmps60
  go_wp2
  go_loopw [4] (fun i wr => ∃ k : Nat, k ≤ len ∧ i = .int .i64 k ∧ wr.rowIs w.heap.size 106 len (rowK f k) ∧ Below w.heap.size w wr) (fun i _ => len - (intOf i).toNat)
  case atStart => exact ⟨0, Nat.zero_le _, rfl, HR.out, hb0⟩
  case round =>
    obtain ⟨k, hk, rfl, hrow, hbel⟩ := hrel
    by_cases hlt : k < len
    · obtain ⟨b, off, rfl, hbw, hcell⟩ := hc (by omega)
      have hck : wr.cell? ⟨b, off + k, none⟩ = some (.float .f64 (f k)) := (hbel.cell (p := ⟨b, off + k, none⟩) hbw).trans (hcell k hlt)
      have ho : wr.cell? ⟨w.heap.size, k, none⟩ = some (.float .f64 0) := by rw [hrow.cell hlt]; simp [rowK]
      have hfz := hrow.frozen k
      have hrow' := rowK_step f k hrow
      have hbel' := hbel.setCell (p := ⟨w.heap.size, k, none⟩) (Nat.le_refl _) (.float .f64 (f k))
      clear hcell hf hc hmk hb0 HR hrow hbel
      go_wp2
      go_roundw
      case rel => exact ⟨k + 1, by omega, by go_num, hrow', hbel'⟩
      case measure => simp [intOf]; omega
    · have : k = len := by omega
      subst this
      clear hmk hb0 HR
      go_wp2
      go_ret
      have hq : wr.rowIs w.heap.size 106 k (fRow f) := hrow.congr fun i hi => (by simp [rowK, fRow, hi])
      exact ⟨rfl, fq_of (row_fp hq) (Nat.le_refl _) (Nat.lt_succ_self _), hrow.lt, hbel⟩

set_option maxHeartbeats 400000 in
theorem szF_in (a : Option Addr) (n c : Nat) (l : Int) (w : World) (h0 : (n : Int) ≤ l) (h1 : l ≤ 1048576) :
    Calls Try.prog 58 #[.slice a n c, .int .i64 l] w fun e w' => e = .returned (.int .i64 (l - (n : Int))) ∧ w' = w := by
  have j : ¬ l - (n : Int) < 0 := by omega
  go_enter Try.func58, Try.ntmps58
  go_wp2
  go_ret
  exact ⟨rfl, rfl⟩
set_option maxHeartbeats 400000 in
theorem szF_out (a : Option Addr) (n c : Nat) (l : Int) (w : World) (h0 : l < (n : Int)) (h1 : 0 ≤ l) (hm : n ≤ 9223372036854775807) :
    Calls Try.prog 58 #[.slice a n c, .int .i64 l] w fun e w' => e = .returned (.int .i64 (-1)) ∧ w' = w := by
  have j : l - (n : Int) < 0 := by omega
  go_enter Try.func58, Try.ntmps58
  go_wp2
  go_ret
  exact ⟨rfl, rfl⟩
end Go.Proofs.Ytfciecoigfnnhaa
