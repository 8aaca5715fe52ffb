/- The contracts of the functions on lists of floats: the two tests for good floats, the two that tell a finite answer. -/
import Derived.Test.YtgcnkecfdmafdaaFlPlain
import Derived.Test.YtgcnkecfdmafdaaFlOps
import Derived.Deep.QuietTactic
import Derived.BigQuiet
namespace Go.Proofs.Ytgcnkecfdmafdaa
open Go.RowKit

set_option maxHeartbeats 400000 in
theorem specGoods_any (a : Option Addr) (len cap : Nat) (f : Nat → Nat) (w : World) (h : FS w a len f) :
    Calls Try.prog 59 #[.slice a len cap] w fun e w' => e = .returned (.bool (goodsB f len)) ∧ w' = w := by
  obtain ⟨hl, hf, hc⟩ := h
  by_cases h200 : len ≤ 200
  · have eg : goodsB f len = allG f len := by unfold goodsB; simp [h200]
    rw [eg]; clear eg
    go_enter Try.func59, Try.ntmps59
    go_wp2
    go_loop [10] (fun i => ∃ k : Nat, k ≤ len ∧ i = .int .i64 k ∧ allG f k = true) (fun i => len - (intOf i).toNat)
    case atStart => exact ⟨0, Nat.zero_le _, rfl, rfl⟩
    case round =>
      obtain ⟨k, hk, rfl, hg⟩ := hrel
      by_cases hlt : k < len
      · obtain ⟨b, off, rfl, hbw, hcell⟩ := hc (by omega)
        have hck := hcell k hlt
        have hfk := hf k hlt
        have HG : Hid (allG f k = true) := hg
        clear hg hcell hf hc
        by_cases hgk : goodB (f k) = true
        · go_wp2_with (go_at_call 53; refine (specGood_any _ _ hfk).mono ?_; rintro e w' ⟨rfl, rfl⟩)
          go_round
          case rel => exact ⟨k + 1, by omega, by go_num, by simp [allG, HG.out, hgk]⟩
          case measure => simp [intOf]; omega
        · have hgk' : goodB (f k) = false := by simpa using hgk
          clear hgk
          go_wp2_with (go_at_call 53; refine (specGood_any _ _ hfk).mono ?_; rintro e w' ⟨rfl, rfl⟩)
          go_ret
          exact ⟨ret_bool (allG_false hlt hgk').symm, rfl⟩
      · have HG : Hid (allG f k = true) := hg
        clear hg hf hc
        go_wp2
        go_ret
        exact ⟨ret_bool (by have : k = len := by omega
                            subst this; rw [HG.out]), rfl⟩
  · have eg : goodsB f len = false := by unfold goodsB; simp [h200]
    rw [eg]; clear eg hf hc
    go_enter Try.func59, Try.ntmps59
    go_wp2
    go_ret
    exact ⟨rfl, rfl⟩
set_option maxHeartbeats 400000 in
theorem implGoods_any (a : Option Addr) (len cap : Nat) (f : Nat → Nat) (w : World) (h : FS w a len f) :
    Calls Try.prog 60 #[.slice a len cap] w fun e w' => e = .returned (.bool (goodsB f len)) ∧ w' = w := by
  obtain ⟨hl, hf, hc⟩ := h
  by_cases h200 : len ≤ 200
  · have eg : goodsB f len = allG f len := by unfold goodsB; simp [h200]
    rw [eg]; clear eg
    go_enter Try.func60, Try.ntmps60
    go_wp2
    go_loop [10] (fun i => ∃ k : Nat, k ≤ len ∧ i = .int .i64 k ∧ allG f k = true) (fun i => len - (intOf i).toNat)
    case atStart => exact ⟨0, Nat.zero_le _, rfl, rfl⟩
    case round =>
      obtain ⟨k, hk, rfl, hg⟩ := hrel
      by_cases hlt : k < len
      · obtain ⟨b, off, rfl, hbw, hcell⟩ := hc (by omega)
        have hck := hcell k hlt
        have hfk := hf k hlt
        have HG : Hid (allG f k = true) := hg
        clear hg hcell hf hc
        by_cases hgk : goodB (f k) = true
        · go_wp2_with (go_at_call 55; refine (implGood_any _ _ hfk).mono ?_; rintro e w' ⟨rfl, rfl⟩)
          go_round
          case rel => exact ⟨k + 1, by omega, by go_num, by simp [allG, HG.out, hgk]⟩
          case measure => simp [intOf]; omega
        · have hgk' : goodB (f k) = false := by simpa using hgk
          clear hgk
          go_wp2_with (go_at_call 55; refine (implGood_any _ _ hfk).mono ?_; rintro e w' ⟨rfl, rfl⟩)
          go_ret
          exact ⟨ret_bool (allG_false hlt hgk').symm, rfl⟩
      · have HG : Hid (allG f k = true) := hg
        clear hg hf hc
        go_wp2
        go_ret
        exact ⟨ret_bool (by have : k = len := by omega
                            subst this; rw [HG.out]), rfl⟩
  · have eg : goodsB f len = false := by unfold goodsB; simp [h200]
    rw [eg]; clear eg hf hc
    go_enter Try.func60, Try.ntmps60
    go_wp2
    go_ret
    exact ⟨rfl, rfl⟩

theorem l2Finite_any (v : Nat) (w : World) (hv : v < 18446744073709551616) :
    Calls Try.prog 39 #[.float .f64 v] w fun e w' => e = .returned (.bool (!nanB v && !infB v)) ∧ w' = w := by
  by_cases hn : nanB v = true
  · rw [hn]
    go_enter Try.func39, Try.ntmps39
    go_wp2_with (first | (go_at_call 57; refine (isNaN_any _ _).mono ?_; rintro e w' ⟨rfl, rfl⟩) | (go_at_call 58; refine (isInf_any _ _ hv).mono ?_; rintro e w' ⟨rfl, rfl⟩))
    go_ret
    exact ⟨rfl, rfl⟩
  · have hn' : nanB v = false := by simpa using hn
    clear hn
    rw [hn']
    go_enter Try.func39, Try.ntmps39
    go_wp2_with (first | (go_at_call 57; refine (isNaN_any _ _).mono ?_; rintro e w' ⟨rfl, rfl⟩) | (go_at_call 58; refine (isInf_any _ _ hv).mono ?_; rintro e w' ⟨rfl, rfl⟩))
    go_ret
    exact ⟨rfl, rfl⟩
theorem finite_any (v : Nat) (w : World) (hv : v < 18446744073709551616) :
    Calls Try.prog 56 #[.float .f64 v] w fun e w' => e = .returned (.tuple #[.float .f64 (toldV v), .bool (toldT v)]) ∧ w' = w := by
  by_cases hn : nanB v = true
  · have e1 : toldV v = 0 := by unfold toldV; rw [hn]; rfl
    have e2 : toldT v = false := by unfold toldT; rw [hn]; rfl
    rw [e1, e2]; clear e1 e2
    go_enter Try.func56, Try.ntmps56
    go_wp2_with (first | (go_at_call 57; refine (isNaN_any _ _).mono ?_; rintro e w' ⟨rfl, rfl⟩) | (go_at_call 58; refine (isInf_any _ _ hv).mono ?_; rintro e w' ⟨rfl, rfl⟩) | (go_at_call 61; refine (unsigned_any _ _).mono ?_; rintro e w' ⟨rfl, rfl⟩))
    go_ret2
    exact ⟨rfl, rfl⟩
  · have hn' : nanB v = false := by simpa using hn
    clear hn
    by_cases hi : infB v = true
    · have e1 : toldV v = 0 := by unfold toldV; rw [hi]; simp
      have e2 : toldT v = false := by unfold toldT; rw [hi]; simp
      rw [e1, e2]; clear e1 e2
      go_enter Try.func56, Try.ntmps56
      go_wp2_with (first | (go_at_call 57; refine (isNaN_any _ _).mono ?_; rintro e w' ⟨rfl, rfl⟩) | (go_at_call 58; refine (isInf_any _ _ hv).mono ?_; rintro e w' ⟨rfl, rfl⟩) | (go_at_call 61; refine (unsigned_any _ _).mono ?_; rintro e w' ⟨rfl, rfl⟩))
      go_ret2
      exact ⟨rfl, rfl⟩
    · have hi' : infB v = false := by simpa using hi
      clear hi
      have e1 : toldV v = plain v := by unfold toldV; rw [hn', hi']; rfl
      have e2 : toldT v = true := by unfold toldT; rw [hn', hi']; rfl
      rw [e1, e2]; clear e1 e2
      go_enter Try.func56, Try.ntmps56
      go_wp2_with (first | (go_at_call 57; refine (isNaN_any _ _).mono ?_; rintro e w' ⟨rfl, rfl⟩) | (go_at_call 58; refine (isInf_any _ _ hv).mono ?_; rintro e w' ⟨rfl, rfl⟩) | (go_at_call 61; refine (unsigned_any _ _).mono ?_; rintro e w' ⟨rfl, rfl⟩))
      go_ret2
      exact ⟨rfl, rfl⟩
end Go.Proofs.Ytgcnkecfdmafdaa
