/- Whether a list's floats are all good: impl.goodReals. -/
import Derived.Test.YtfciecoigfnnhaaBxMath

import Derived.Deep.QuietTactic
import Derived.BigQuiet
namespace Go.Proofs.Ytfciecoigfnnhaa
open Go.RowKit

set_option maxHeartbeats 400000 in
theorem implGoods_any (a : Option Addr) (len cap : Nat) (f : Nat → Nat) (w : World) (h : FS w a len f) :
    Calls Try.prog 108 #[.slice a len cap] w fun e w' => e = .returned (.bool (goodsB f len)) ∧ w' = w := by
  obtain ⟨hl, hf, hc⟩ := h
  by_cases h200 : len ≤ 200
  · have eg : goodsB f len = allG f len := by unfold goodsB; simp [h200]
    rw [eg]; clear eg
    go_enter Try.func108, Try.ntmps108
    go_wp2
    go_loop [10] (fun i => ∃ k : Nat, k ≤ len ∧ i = .int .i64 k ∧ allG f k = true) (fun i => len - (intOf i).toNat)
    case atStart => exact ⟨0, Nat.zero_le _, rfl, rfl⟩
    case round =>
      obtain ⟨k, hk, rfl, hg⟩ := hrel
      by_cases hlt : k < len
      · obtain ⟨b, off, rfl, hbw, hcell⟩ := hc (by omega)
        have hck := hcell k hlt
        have hfk := hf k hlt
        have HG : Hid (allG f k = true) := hg
        clear hg hcell hf hc
        by_cases hgk : goodB (f k) = true
        · go_wp2_with (go_at_call 112; refine (implGood_any _ _ hfk).mono ?_; rintro e w' ⟨rfl, rfl⟩)
          go_round
          case rel => exact ⟨k + 1, by omega, by go_num, by simp [allG, HG.out, hgk]⟩
          case measure => simp [intOf]; omega
        · have hgk' : goodB (f k) = false := by simpa using hgk
          clear hgk
          go_wp2_with (go_at_call 112; refine (implGood_any _ _ hfk).mono ?_; rintro e w' ⟨rfl, rfl⟩)
          go_ret
          exact ⟨ret_bool (allG_false hlt hgk').symm, rfl⟩
      · have HG : Hid (allG f k = true) := hg
        clear hg hf hc
        go_wp2
        go_ret
        exact ⟨ret_bool (by have : k = len := by omega
                            subst this; rw [HG.out]), rfl⟩
  · have eg : goodsB f len = false := by unfold goodsB; simp [h200]
    rw [eg]; clear eg hf hc
    go_enter Try.func108, Try.ntmps108
    go_wp2
    go_ret
    exact ⟨rfl, rfl⟩

end Go.Proofs.Ytfciecoigfnnhaa
