/- The contracts of the law's own functions that copy lists of ints, compare them, mark them, and look for the marks. -/
import Derived.Test.YtldagjgpapnfpaaQInCore
import Derived.Test.YtldagjgpapnfpaaQLqBase
namespace Go.Proofs.Ytldagjgpapnfpaa
open Go.RowKit

/-- the row behind a copy's first k stores -/
def rowK (f : Nat → Int) (k : Nat) (i : Nat) : Value := if i < k then .int .i64 (f i) else .int .i64 0
theorem rowK_step (f : Nat → Int) (k : Nat) {w : World} {b n : Nat} (h : w.rowIs b 3 n (rowK f k)) : (w.setCell ⟨b, k, none⟩ (.int .i64 (f k))).rowIs b 3 n (rowK f (k + 1)) := by
  refine (h.set k _).congr fun i _ => ?_
  unfold rowK
  by_cases e : i = k
  · subst e; simp
  · by_cases e2 : i < k
    · simp [e, e2, Nat.lt_succ_of_lt e2]
    · have : ¬ i < k + 1 := by omega
      simp [e, e2, this]

set_option maxHeartbeats 400000 in
theorem copyI_any (a : Option Addr) (len cap : Nat) (f : Nat → Int) (w : World) (hl : len ≤ 1048576) (hc : IL w a len f) :
    Calls Try.prog 11 #[.slice a len cap] w fun e w' => ∃ v, e = .returned v ∧ v = .slice (some ⟨w.heap.size, 0, none⟩) len len ∧ w'.rowIs w.heap.size 3 len (iRow f) ∧ Below w.heap.size w w' := by
  have hmk := run_make_row' (P := Try.prog) 24 3 (.int .i64 0) 8 Try.underlying24 infoI rfl .i64 .i64 len (by omega) (by omega)
  have hr0 : (w.alloc (.cells (madeCells #[.int .i64 0] len) 3)).rowIs w.heap.size 3 len (rowK f 0) := (World.rowIs_made w (.int .i64 0) len 3).congr fun i _ => by simp [rowK]
  have hb0 : Below w.heap.size w (w.alloc (.cells (madeCells #[.int .i64 0] len) 3)) := (Below.refl _ _).alloc (Nat.le_refl _) _
  have HR : Hid ((w.alloc (.cells (madeCells #[.int .i64 0] len) 3)).rowIs w.heap.size 3 len (rowK f 0)) := hr0
  clear hr0
  go_enter Try.func11, Try.ntmps11
  go_wp2
  go_loopw [4] (fun i wr => ∃ k : Nat, k ≤ len ∧ i = .int .i64 k ∧ wr.rowIs w.heap.size 3 len (rowK f k) ∧ Below w.heap.size w wr) (fun i _ => len - (intOf i).toNat)
  case atStart => exact ⟨0, Nat.zero_le _, rfl, HR.out, hb0⟩
  case round =>
    obtain ⟨k, hk, rfl, hrow, hbel⟩ := hrel
    by_cases hlt : k < len
    · obtain ⟨b, off, rfl, hbw, hcell⟩ := hc (by omega)
      have hck : wr.cell? ⟨b, off + k, none⟩ = some (.int .i64 (f k)) := (hbel.cell (p := ⟨b, off + k, none⟩) hbw).trans (hcell k hlt)
      have ho : wr.cell? ⟨w.heap.size, k, none⟩ = some (.int .i64 0) := by rw [hrow.cell hlt]; simp [rowK]
      have hfz := hrow.frozen k
      have hrow' := rowK_step f k hrow
      have hbel' := hbel.setCell (p := ⟨w.heap.size, k, none⟩) (Nat.le_refl _) (.int .i64 (f k))
      clear hcell hc hmk hb0 HR hrow hbel
      go_wp2
      go_roundw
      case rel => exact ⟨k + 1, by omega, by go_num, hrow', hbel'⟩
      case measure => simp [intOf]; omega
    · have : k = len := by omega
      subst this
      clear hmk hb0 HR
      go_wp2
      go_ret
      exact ⟨_, rfl, rfl, hrow.congr fun i hi => (by simp [rowK, iRow, hi]), hbel⟩

set_option maxHeartbeats 400000 in
theorem eqI_any (a1 a2 : Option Addr) (len c1 c2 : Nat) (f : Nat → Int) (w : World) (hl : len ≤ 1048576) (hc1 : IL w a1 len f) (hc2 : IL w a2 len f) :
    Calls Try.prog 14 #[.slice a1 len c1, .slice a2 len c2] w fun e w' => e = .returned (.bool true) ∧ Below w.heap.size w w' := by
  go_enter Try.func14, Try.ntmps14
  go_wp2
  go_loopw [5] (fun i wr => ∃ k : Nat, k ≤ len ∧ i = .int .i64 k ∧ Below w.heap.size w wr) (fun i _ => len - (intOf i).toNat)
  case atStart => exact ⟨0, Nat.zero_le _, rfl, Below.refl _ _⟩
  case round =>
    obtain ⟨k, hk, rfl, hB⟩ := hrel
    by_cases hlt : k < len
    · obtain ⟨b1, o1, rfl, hb1, hcell1⟩ := hc1 (by omega)
      obtain ⟨b2, o2, rfl, hb2, hcell2⟩ := hc2 (by omega)
      have hk1 : wr.cell? ⟨b1, o1 + k, none⟩ = some (.int .i64 (f k)) := (hB.cell (p := ⟨b1, _, none⟩) hb1).trans (hcell1 k hlt)
      have hk2 : wr.cell? ⟨b2, o2 + k, none⟩ = some (.int .i64 (f k)) := (hB.cell (p := ⟨b2, _, none⟩) hb2).trans (hcell2 k hlt)
      have hlt' : (k : Int) < (len : Int) := by omega
      clear hcell1 hcell2 hc1 hc2
      go_wp2
      go_region
      go_wp2
      go_roundw
      case rel => exact ⟨k + 1, by omega, by go_num, by first | exact hB | exact below_dr hB _ | exact hB.drew⟩
      case measure => simp [intOf]; omega
    · clear hc1 hc2
      go_wp2
      go_ret
      exact ⟨rfl, hB⟩
end Go.Proofs.Ytldagjgpapnfpaa

/- The law's own copy of a list of ints, with its range. -/
namespace Go.Proofs.Ytldagjgpapnfpaa
open Go.RowKit

theorem copyQ (a : Option Addr) (len cap : Nat) (f : Nat → Int) (w : World) (hl : len ≤ 1048576) (hc : IL w a len f) :
    Calls Try.prog 11 #[.slice a len cap] w fun e w' => e = .returned (.slice (some ⟨w.heap.size, 0, none⟩) len len) ∧ LQ w' w.heap.size (w.heap.size + 1) (some ⟨w.heap.size, 0, none⟩) len f ∧ w.heap.size < w'.heap.size ∧ Below w.heap.size w w' :=
  (copyI_any a len cap f w hl hc).mono fun e w' ⟨v, h1, h2, h3, h4⟩ => ⟨by rw [h1, h2], lq_of (row_ip h3) (Nat.le_refl _) (Nat.lt_succ_self _), h3.lt, h4⟩
end Go.Proofs.Ytldagjgpapnfpaa

/- The law's own marks of a list of ints, where it asks for none of them. -/
namespace Go.Proofs.Ytldagjgpapnfpaa
open Go.RowKit
set_option maxHeartbeats 1000000 in
theorem markIb_any (b n cap m : Nat) (F : Nat → Int) (w : World) (hn : n ≤ 1048576) (hm : m ≤ 16777216) (h : IP w b n F) :
    Calls Try.prog 16 #[.slice (some ⟨b, 0, none⟩) n cap, .int .i64 (m : Int)] w fun e w' => e = .returned (.int .i64 ((m : Int) + (n : Int))) ∧ IP w' b n (fun i => (m : Int) + (i : Int)) ∧ Only b w w' := by
  go_enter Try.func16, Try.ntmps16
  go_wp2
  go_loopw [1, 5] (fun q i wr => ∃ (k : Nat) (F' : Nat → Int), k ≤ n ∧ i = .int .i64 k ∧ q = .int .i64 ((m : Int) + (k : Int)) ∧ IP wr b n F' ∧ (∀ j, j < k → F' j = (m : Int) + (j : Int)) ∧ Only b w wr) (fun _ i _ => n - (intOf i).toNat)
  case atStart => exact ⟨0, F, Nat.zero_le _, rfl, by simp, h, fun j hj => absurd hj (Nat.not_lt_zero _), Only.refl _ _⟩
  case round =>
    obtain ⟨k, F', hk, rfl, rfl, hP, hF, hO⟩ := hrel
    clear h
    by_cases hlt : k < n
    · have x0 := hP.c k hlt
      have f0 := hP.fz k
      have i0 : (0 : Int) ≤ (k : Int) := by omega
      have i1 : (k : Int) < (n : Int) := by omega
      go_wp2
      refine ⟨⟨k + 1, _, by omega, by go_num, by congr 1 <;> omega, hP.set hlt _, fun j hj => ?_, hO.set _ _⟩, by simp [intOf]; omega⟩
      unfold put
      by_cases e : j = k
      · subst e; simp
      · rw [if_neg e]; exact hF j (by omega)
    · have hke : k = n := by omega
      subst hke
      go_wp2
      go_ret
      exact ⟨rfl, hP.congr hF, hO⟩
set_option maxHeartbeats 400000 in
theorem markIb_zero (a : Option Addr) (cap m : Nat) (w : World) :
    Calls Try.prog 16 #[.slice a 0 cap, .int .i64 (m : Int)] w fun e w' => e = .returned (.int .i64 (m : Int)) ∧ w' = w := by
  go_enter Try.func16, Try.ntmps16
  go_wp2
  go_loopw [1, 5] (fun q i wr => i = .int .i64 0 ∧ q = .int .i64 (m : Int) ∧ wr = w) (fun _ _ _ => 0)
  case atStart => exact ⟨rfl, rfl, rfl⟩
  case round =>
    obtain ⟨rfl, rfl, rfl⟩ := hrel
    go_wp2
    go_ret
    exact ⟨rfl, rfl⟩
set_option maxHeartbeats 400000 in
theorem markIb (a : Option Addr) (n cap m lo hi : Nat) (F : Nat → Int) (w : World) (hn : n ≤ 1048576) (hm : m ≤ 16777216) (h : LQ w lo hi a n F) :
    Calls Try.prog 16 #[.slice a n cap, .int .i64 (m : Int)] w fun e w' => e = .returned (.int .i64 ((m : Int) + (n : Int))) ∧ Turns lo hi w w' := by
  by_cases h0 : 0 < n
  · obtain ⟨b, rfl, h1, h2, hP⟩ := h h0
    exact (markIb_any b n cap m F w hn hm hP).mono fun e w' ⟨h3, _, h5⟩ => ⟨h3, (OnlyIn.of h5 h1 h2).turns⟩
  · have : n = 0 := by omega
    subst this
    refine (markIb_zero a cap m w).mono fun e w' ⟨h3, h4⟩ => ?_
    subst h4
    exact ⟨by rw [h3]; simp, (OnlyIn.refl _ _ _).turns⟩
end Go.Proofs.Ytldagjgpapnfpaa
