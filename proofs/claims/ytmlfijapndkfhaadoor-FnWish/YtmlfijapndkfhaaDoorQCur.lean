/- The cursor that draws: each step answers within its bounds and changes the cursor's own block alone. -/
import Derived.Test.YtmlfijapndkfhaaDoorQInCore
import Derived.Laws.BitsLemmas
namespace Go.Proofs.YtmlfijapndkfhaaDoor
open Go.RowKit

/-- block C holds a cursor over len bytes; it has taken n of them -/
structure Cur (w : World) (C : Nat) (a : Option Addr) (len cap : Nat) (n : Nat) : Prop where
  lt : C < w.heap.size
  code : w.cell? ⟨C, 0, none⟩ = some (.slice a len cap)
  at_ : w.cell? ⟨C, 1, none⟩ = some (.int .i64 (n : Int))
  seed : ∃ s : Int, w.cell? ⟨C, 2, none⟩ = some (.int .u64 s) ∧ 0 ≤ s ∧ s < 18446744073709551616
  f1 : w.frozen? ⟨C, 1, none⟩ = false
  f2 : w.frozen? ⟨C, 2, none⟩ = false
  bytes : 0 < len → ∃ b off, a = some ⟨b, off, none⟩ ∧ b < C ∧ ∀ i, i < len → ∃ v : Int, w.cell? ⟨b, off + i, none⟩ = some (.int .u8 v) ∧ 0 ≤ v ∧ v ≤ 255
  small : len ≤ 1048576

theorem Cur.below {w w' : World} {B C : Nat} {a : Option Addr} {len cap n : Nat} (h : Cur w C a len cap n) (k : Below B w w') (hB : C < B) : Cur w' C a len cap n := by
  obtain ⟨s, hs, hs1, hs2⟩ := h.seed
  refine ⟨Nat.lt_of_lt_of_le h.lt k.size, (k.cell (p := ⟨C, _, none⟩) hB).trans h.code, (k.cell (p := ⟨C, _, none⟩) hB).trans h.at_, ⟨s, (k.cell (p := ⟨C, _, none⟩) hB).trans hs, hs1, hs2⟩, (k.frozen (p := ⟨C, _, none⟩) hB).trans h.f1, (k.frozen (p := ⟨C, _, none⟩) hB).trans h.f2, fun h0 => ?_, h.small⟩
  obtain ⟨b, off, ha, hb, hc⟩ := h.bytes h0
  refine ⟨b, off, ha, hb, fun i hi => ?_⟩
  obtain ⟨v, hv, hv1⟩ := hc i hi
  exact ⟨v, (k.cell (p := ⟨b, _, none⟩) (Nat.lt_trans hb hB)).trans hv, hv1⟩

/-- the cursor behind a step -/
theorem Cur.step {w w' : World} {C : Nat} {a : Option Addr} {len cap n m : Nat} {s : Int} (h : Cur w C a len cap n) (k : Only C w w') (h0 : w'.cell? ⟨C, 0, none⟩ = some (.slice a len cap)) (h1 : w'.cell? ⟨C, 1, none⟩ = some (.int .i64 (m : Int))) (h2 : w'.cell? ⟨C, 2, none⟩ = some (.int .u64 s)) (hs : 0 ≤ s ∧ s < 18446744073709551616) (f1 : w'.frozen? ⟨C, 1, none⟩ = false) (f2 : w'.frozen? ⟨C, 2, none⟩ = false) : Cur w' C a len cap m := by
  refine ⟨by rw [k.size]; exact h.lt, h0, h1, ⟨s, h2, hs⟩, f1, f2, fun hl => ?_, h.small⟩
  obtain ⟨b, off, ha, hb, hc⟩ := h.bytes hl
  refine ⟨b, off, ha, hb, fun i hi => ?_⟩
  obtain ⟨v, hv, hv1⟩ := hc i hi
  exact ⟨v, (World.cell?_of_block (w := w) (k.block b (Nat.ne_of_lt hb))).trans hv, hv1⟩

theorem Cur.drew {w : World} {C : Nat} {a : Option Addr} {len cap n : Nat} (h : Cur w C a len cap n) : Cur w.drew C a len cap n := ⟨h.lt, h.code, h.at_, h.seed, h.f1, h.f2, h.bytes, h.small⟩
theorem Cur.two {w : World} {C : Nat} {a : Option Addr} {len cap n : Nat} (h : Cur w C a len cap n) (y : Int) (hy : 0 ≤ y ∧ y < 18446744073709551616) :
    Cur ((w.setCell ⟨C, 1, none⟩ (.int .i64 ((n : Int) + 1))).setCell ⟨C, 2, none⟩ (.int .u64 y)) C a len cap (n + 1) ∧ Only C w ((w.setCell ⟨C, 1, none⟩ (.int .i64 ((n : Int) + 1))).setCell ⟨C, 2, none⟩ (.int .u64 y)) := by
  have hO : Only C w ((w.setCell ⟨C, 1, none⟩ (.int .i64 ((n : Int) + 1))).setCell ⟨C, 2, none⟩ (.int .u64 y)) := ((Only.refl C w).set 1 _).set 2 _
  obtain ⟨s, hs, _⟩ := h.seed
  refine ⟨h.step hO ?_ ?_ ?_ hy (by simpa using h.f1) (by simpa using h.f2), hO⟩
  · exact (World.cell?_setCell_other _ _ _ _ (by simp)).trans ((World.cell?_setCell_other _ _ _ _ (by simp)).trans h.code)
  · exact (World.cell?_setCell_other _ _ _ _ (by simp)).trans (World.cell?_setCell_same _ _ _ h.at_)
  · exact World.cell?_setCell_same _ _ _ ((World.cell?_setCell_other _ _ _ _ (by simp)).trans hs)
theorem u64_bd (x : Int) : 0 ≤ IntKind.u64.wrap x ∧ IntKind.u64.wrap x < 18446744073709551616 := by
  have e : IntKind.u64.wrap x = x % 18446744073709551616 := by simp [IntKind.wrap, IntKind.signed, IntKind.bits]
  rw [e]
  omega
theorem byte_bd (x : Int) : 0 ≤ wrap64 (bits .and .u64 (IntKind.u64.wrap x / 1099511627776) 255) ∧ wrap64 (bits .and .u64 (IntKind.u64.wrap x / 1099511627776) 255) ≤ 255 := by
  have hb := u64_bd x
  generalize IntKind.u64.wrap x = y at hb
  have h := bits_mask .u64 63 (by decide) (fun n h0 h1 => by rw [IntKind.wrap_u64]; omega) 8 (by decide) (y / 1099511627776) (by omega) (by omega)
  have e : ((2 : Int) ^ 8 - 1) = 255 := by decide
  have e2 : ((2 : Int) ^ 8) = 256 := by decide
  rw [e, e2] at h
  rw [h]
  unfold wrap64
  omega

set_option maxHeartbeats 2000000 in
theorem next_any (C : Nat) (a : Option Addr) (len cap n : Nat) (w : World) (h : Cur w C a len cap n) (hn : n ≤ 1048576) :
    Calls Tryd.prog 50 #[.pointer (some ⟨C, 0, none⟩)] w fun e w' => ∃ v : Int, e = .returned (.int .i64 v) ∧ (0 ≤ v ∧ v ≤ 255) ∧ Cur w' C a len cap (n + 1) ∧ Only C w w' := by
  have hsm := h.small
  obtain ⟨s, hs, hs1, hs2⟩ := h.seed
  have c0 := h.code
  have c1 := h.at_
  have g1 := h.f1
  have g2 := h.f2
  by_cases hlt : n < len
  · obtain ⟨b, off, rfl, hb, hc⟩ := h.bytes (by omega)
    obtain ⟨v, hv, hv1⟩ := hc n hlt
    have i0 : (0 : Int) ≤ (n : Int) := by omega
    have i1 : (n : Int) < (len : Int) := by omega
    have i2 : (n : Int) + 1 ≤ (len : Int) := by omega
    clear hc
    go_enter Tryd.func50, Tryd.ntmps50
    go_wp2
    go_region
    go_wp2
    go_region
    go_wp2
    go_region
    go_wp2
    go_ret
    exact ⟨v, rfl, hv1, (h.two _ (u64_bd _)).1.drew.drew.drew, (h.two _ (u64_bd _)).2.drew.drew.drew⟩
  · have i1 : ¬ (n : Int) < (len : Int) := by omega
    have i2 : ¬ (n : Int) + 1 ≤ (len : Int) := by omega
    go_enter Tryd.func50, Tryd.ntmps50
    go_wp2
    go_region
    go_wp2
    go_region
    go_wp2
    go_ret
    exact ⟨_, rfl, byte_bd _, (h.two _ (u64_bd _)).1.drew.drew, (h.two _ (u64_bd _)).2.drew.drew⟩
end Go.Proofs.YtmlfijapndkfhaaDoor
