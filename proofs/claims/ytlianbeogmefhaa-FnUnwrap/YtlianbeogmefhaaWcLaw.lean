/- Both WrapCount functions, and the walk of the law on them. -/
import Derived.Test.YtlianbeogmefhaaWcBase
namespace Go.Proofs.Ytlianbeogmefhaa
open Go.RowKit

theorem wc_in {n s : Int} (h : sizeB s = true) (k : inB n 1000000000000 = true) : wc n s = n % s := by simp [wc, h, k]
theorem wc_out {n s : Int} (h : sizeB s = false ∨ inB n 1000000000000 = false) : wc n s = 0 := by
  rcases h with h | h <;> simp [wc, h]

set_option maxHeartbeats 400000 in
theorem implWrap_any (n s : Int) (w : World) :
    Calls Try.prog 9 #[.int .i64 n, .int .i64 s] w fun e w' => e = .returned (.int .i64 (wc n s)) ∧ w' = w := by
  cases hs : sizeB s with
  | false =>
    rw [wc_out (.inl hs)]
    go_enter Try.func9, Try.ntmps9
    go_wp2_with (go_at_call 20; refine (goodSize_any s _).mono ?_; rintro e w' ⟨rfl, rfl⟩; rw [hs])
    go_ret
    exact ⟨rfl, rfl⟩
  | true =>
    have hs2 := sizeB_t.1 hs
    cases hn : inB n 1000000000000 with
    | false =>
      rw [wc_out (.inr hn)]
      go_enter Try.func9, Try.ntmps9
      go_wp2_with (first | (go_at_call 20; refine (goodSize_any s _).mono ?_; rintro e w' ⟨rfl, rfl⟩; rw [hs]) | (go_at_call 23; refine (within_any n 1000000000000 _ (by omega) (by omega)).mono ?_; rintro e w' ⟨rfl, rfl⟩; rw [hn]))
      go_ret
      exact ⟨rfl, rfl⟩
    | true =>
      rw [wc_in hs hn]
      go_enter Try.func9, Try.ntmps9
      go_wp2_with (first | (go_at_call 20; refine (goodSize_any s _).mono ?_; rintro e w' ⟨rfl, rfl⟩; rw [hs]) | (go_at_call 23; refine (within_any n 1000000000000 _ (by omega) (by omega)).mono ?_; rintro e w' ⟨rfl, rfl⟩; rw [hn]) | (go_at_call 24; refine (wrap_any n s _ hs2.1 hs2.2).mono ?_; rintro e w' ⟨rfl, rfl⟩))
      go_ret
      exact ⟨rfl, rfl⟩

set_option maxHeartbeats 400000 in
theorem specWrap_any (n s : Int) (w : World) :
    Calls Try.prog 10 #[.int .i64 n, .int .i64 s] w fun e w' => e = .returned (.int .i64 (wc n s)) ∧ w' = w := by
  cases hs : sizeB s with
  | false =>
    rw [wc_out (.inl hs)]
    go_enter Try.func10, Try.ntmps10
    go_wp2_with (go_at_call 22; refine (l8Size_any s _).mono ?_; rintro e w' ⟨rfl, rfl⟩; rw [hs])
    go_ret
    exact ⟨rfl, rfl⟩
  | true =>
    have hs2 := sizeB_t.1 hs
    by_cases h0 : n < -1000000000000
    · rw [wc_out (.inr (by simp [inB]; omega))]
      go_enter Try.func10, Try.ntmps10
      go_wp2_with (go_at_call 22; refine (l8Size_any s _).mono ?_; rintro e w' ⟨rfl, rfl⟩; rw [hs])
      go_ret
      exact ⟨rfl, rfl⟩
    · by_cases h1 : 1000000000000 < n
      · rw [wc_out (.inr (by simp [inB]; omega))]
        go_enter Try.func10, Try.ntmps10
        go_wp2_with (go_at_call 22; refine (l8Size_any s _).mono ?_; rintro e w' ⟨rfl, rfl⟩; rw [hs])
        go_ret
        exact ⟨rfl, rfl⟩
      · rw [wc_in hs (by simp [inB]; omega)]
        go_enter Try.func10, Try.ntmps10
        go_wp2_with (first | (go_at_call 22; refine (l8Size_any s _).mono ?_; rintro e w' ⟨rfl, rfl⟩; rw [hs]) | (go_at_call 18; refine (l8Mod_any n s _ hs2.1 hs2.2).mono ?_; rintro e w' ⟨rfl, rfl⟩))
        go_ret
        exact ⟨rfl, rfl⟩

set_option maxHeartbeats 400000 in
theorem wrapLaw (n s : Int) (w : World) :
    Calls Try.prog 4 #[.int .i64 n, .int .i64 s] w fun e w' => e = .returned (.bool true) ∧ Below w.heap.size w w' := by
  go_enter Try.func4, Try.ntmps4
  go_wp2_with (first | (go_at_call 10; refine (specWrap_any n s _).mono ?_; rintro e w' ⟨rfl, rfl⟩) | (go_at_call 9; refine (implWrap_any n s _).mono ?_; rintro e w' ⟨rfl, rfl⟩))
  go_ret
  exact ⟨rfl, Below.refl _ _⟩
end Go.Proofs.Ytlianbeogmefhaa
