/- What the cursor draws: one of some numbers. -/
import Derived.Test.YtldagjgpapnfpaaQCurPk
namespace Go.Proofs.Ytldagjgpapnfpaa
open Go.RowKit
set_option maxHeartbeats 1000000 in
theorem among_any (C : Nat) (a : Option Addr) (len cap n : Nat) (L k c : Nat) (F : Nat → Int) (w : World) (h : Cur w C a len cap n) (hn : n ≤ 1000000) (hL : IP w L k F) (hne : L ≠ C) (hk : 1 ≤ k) (hk2 : k ≤ 1000) :
    Calls Try.prog 24 #[.pointer (some ⟨C, 0, none⟩), .slice (some ⟨L, 0, none⟩) k c] w fun e w' => ∃ (i n' : Nat), i < k ∧ e = .returned (.int .i64 (F i)) ∧ n' ≤ n + 2 ∧ Cur w' C a len cap n' ∧ Only C w w' := by
  go_enter Try.func24, Try.ntmps24
  go_wp2_with fail
  refine (pick_any C a len cap n (k : Int) w h hn).mono ?_
  rintro e w1 ⟨x, n', rfl, hx0, hx1, -, hn', h', hO⟩
  have hx2 := hx1 (by omega)
  obtain ⟨i, rfl⟩ := Int.eq_ofNat_of_zero_le hx0
  have hi : i < k := by omega
  have hc := (hL.only hO hne).c i hi
  clear h hx1 hL
  go_wp2
  go_ret
  exact ⟨i, n', hi, rfl, hn', h', hO⟩
end Go.Proofs.Ytldagjgpapnfpaa

/- A new cursor. -/
namespace Go.Proofs.Ytldagjgpapnfpaa
open Go.RowKit

theorem cur_new (w : World) (a : Option Addr) (len cap : Nat) (hl : len ≤ 1048576) (hb : 0 < len → ∃ b off, a = some ⟨b, off, none⟩ ∧ b < w.heap.size ∧ ∀ i, i < len → ∃ v : Int, w.cell? ⟨b, off + i, none⟩ = some (.int .u8 v) ∧ 0 ≤ v ∧ v ≤ 255) :
    Cur (w.alloc (.cells #[.slice a len cap, .int .i64 0, .int .u64 0] 46)) w.heap.size a len cap 0 := by
  have hB : Below w.heap.size w (w.alloc (.cells #[.slice a len cap, .int .i64 0, .int .u64 0] 46)) := (Below.refl _ _).alloc (Nat.le_refl _) _
  refine ⟨by simp, by simp [go_sem], by simp [go_sem], ⟨0, by simp [go_sem], by omega, by omega⟩, by simp [go_sem], by simp [go_sem], fun h0 => ?_, hl⟩
  obtain ⟨b, off, ha, hbw, hc⟩ := hb h0
  refine ⟨b, off, ha, hbw, fun i hi => ?_⟩
  obtain ⟨v, hv, hv1⟩ := hc i hi
  exact ⟨v, (hB.cell (p := ⟨b, _, none⟩) hbw).trans hv, hv1⟩
end Go.Proofs.Ytldagjgpapnfpaa
