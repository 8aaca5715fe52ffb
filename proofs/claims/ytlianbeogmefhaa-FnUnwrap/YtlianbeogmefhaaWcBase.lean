/- Counts that go round: what both say of sizes, and of what a number leaves. -/
import Derived.Test.YtlianbeogmefhaaInList
namespace Go.Proofs.Ytlianbeogmefhaa
open Go.RowKit

def sizeB (s : Int) : Bool := decide (2 ≤ s) && decide (s ≤ 1000000)
def inB (n m : Int) : Bool := decide (-m ≤ n) && decide (n ≤ m)
/-- what WrapCount tells -/
def wc (n s : Int) : Int := if sizeB s && inB n 1000000000000 then n % s else 0

theorem ret_bool {a b : Bool} (h : a = b) : Ending.returned (.bool a) = .returned (.bool b) := by rw [h]
theorem ret_int {a b : Int} (h : a = b) : Ending.returned (.int .i64 a) = .returned (.int .i64 b) := by rw [h]

theorem sizeB_t {s : Int} : sizeB s = true ↔ 2 ≤ s ∧ s ≤ 1000000 := by simp [sizeB]
theorem sizeB_f {s : Int} : sizeB s = false ↔ s < 2 ∨ 1000000 < s := by
  by_cases h : sizeB s = true
  · have := sizeB_t.1 h
    constructor
    · intro h2; rw [h] at h2; cases h2
    · omega
  · have h2 : sizeB s = false := by simpa using h
    constructor
    · intro _
      rcases Int.lt_or_le s 2 with h3 | h3
      · exact .inl h3
      · rcases Int.lt_or_le 1000000 s with h4 | h4
        · exact .inr h4
        · exact absurd (sizeB_t.2 ⟨h3, h4⟩) h
    · exact fun _ => h2

theorem tmod_add {n s : Int} (h : 0 < s) : (n.tmod s + s).tmod s = n % s := by
  have e := Int.tmod_eq_emod (a := n) (b := s)
  have h0 := Int.emod_nonneg n (Int.ne_of_gt h)
  have h1 := Int.emod_lt_of_pos n h
  by_cases hc : 0 ≤ n ∨ s ∣ n
  · rw [if_pos hc] at e
    have e : n.tmod s = n % s := by omega
    rw [e, Int.tmod_eq_emod_of_nonneg (by omega), Int.add_emod_right, Int.emod_emod_of_dvd _ (Int.dvd_refl _)]
  · rw [if_neg hc] at e
    have ea : ((s.natAbs : Nat) : Int) = s := by omega
    rw [ea] at e
    rw [e, Int.sub_add_cancel, Int.tmod_eq_emod_of_nonneg h0, Int.emod_emod_of_dvd _ (Int.dvd_refl _)]
theorem tmod_if {n s : Int} (h : 0 < s) : (if n.tmod s < 0 then n.tmod s + s else n.tmod s) = n % s := by
  have e := Int.tmod_eq_emod (a := n) (b := s)
  have h0 := Int.emod_nonneg n (Int.ne_of_gt h)
  have h1 := Int.emod_lt_of_pos n h
  by_cases hc : 0 ≤ n ∨ s ∣ n
  · rw [if_pos hc] at e
    have e : n.tmod s = n % s := by omega
    rw [e, if_neg (by omega)]
  · rw [if_neg hc] at e
    have ea : ((s.natAbs : Nat) : Int) = s := by omega
    rw [ea] at e
    rw [e, if_pos (by omega)]; omega
theorem tmod_bd (n : Int) {s : Int} (h : 0 < s) : -s < n.tmod s ∧ n.tmod s < s := by
  have e := Int.tmod_eq_emod (a := n) (b := s)
  have h0 := Int.emod_nonneg n (Int.ne_of_gt h)
  have h1 := Int.emod_lt_of_pos n h
  have ea : ((s.natAbs : Nat) : Int) = s := by omega
  by_cases hc : 0 ≤ n ∨ s ∣ n
  · rw [if_pos hc] at e; omega
  · rw [if_neg hc, ea] at e
    have : n % s ≠ 0 := fun h3 => hc (.inr (Int.dvd_of_emod_eq_zero h3))
    omega

set_option maxHeartbeats 400000 in
theorem l8Size_any (s : Int) (w : World) :
    Calls Try.prog 22 #[.int .i64 s] w fun e w' => e = .returned (.bool (sizeB s)) ∧ w' = w := by
  by_cases h0 : 2 ≤ s
  · by_cases h1 : s ≤ 1000000
    · go_enter Try.func22, Try.ntmps22
      go_wp2
      go_ret
      exact ⟨ret_bool (by simp [sizeB, h0, h1]), rfl⟩
    · go_enter Try.func22, Try.ntmps22
      go_wp2
      go_ret
      exact ⟨ret_bool (by simp [sizeB, h0, h1]), rfl⟩
  · go_enter Try.func22, Try.ntmps22
    go_wp2
    go_ret
    exact ⟨ret_bool (by simp [sizeB]; omega), rfl⟩
set_option maxHeartbeats 400000 in
theorem goodSize_any (s : Int) (w : World) :
    Calls Try.prog 20 #[.int .i64 s] w fun e w' => e = .returned (.bool (sizeB s)) ∧ w' = w := by
  by_cases h0 : 2 ≤ s
  · by_cases h1 : s ≤ 1000000
    · go_enter Try.func20, Try.ntmps20
      go_wp2
      go_ret
      exact ⟨ret_bool (by simp [sizeB, h0, h1]), rfl⟩
    · go_enter Try.func20, Try.ntmps20
      go_wp2
      go_ret
      exact ⟨ret_bool (by simp [sizeB, h0, h1]), rfl⟩
  · go_enter Try.func20, Try.ntmps20
    go_wp2
    go_ret
    exact ⟨ret_bool (by simp [sizeB]; omega), rfl⟩
set_option maxHeartbeats 400000 in
theorem within_any (n m : Int) (w : World) (hm : 0 ≤ m) (hm2 : m ≤ 1000000000000) :
    Calls Try.prog 23 #[.int .i64 n, .int .i64 m] w fun e w' => e = .returned (.bool (inB n m)) ∧ w' = w := by
  by_cases h0 : -m ≤ n
  · by_cases h1 : n ≤ m
    · go_enter Try.func23, Try.ntmps23
      go_wp2
      go_ret
      exact ⟨ret_bool (by simp [inB, h0, h1]), rfl⟩
    · go_enter Try.func23, Try.ntmps23
      go_wp2
      go_ret
      exact ⟨ret_bool (by simp [inB, h0, h1]), rfl⟩
  · go_enter Try.func23, Try.ntmps23
    go_wp2
    go_ret
    exact ⟨ret_bool (by simp [inB]; omega), rfl⟩
set_option maxHeartbeats 400000 in
theorem wrap_any (n s : Int) (w : World) (h1 : 2 ≤ s) (h2 : s ≤ 1000000) :
    Calls Try.prog 24 #[.int .i64 n, .int .i64 s] w fun e w' => e = .returned (.int .i64 (n % s)) ∧ w' = w := by
  have hb := tmod_bd n (s := s) (by omega)
  have he := tmod_add (n := n) (s := s) (by omega)
  have hs : s ≠ 0 := by omega
  go_enter Try.func24, Try.ntmps24
  go_wp2
  go_ret
  exact ⟨rfl, rfl⟩
set_option maxHeartbeats 400000 in
theorem l8Mod_any (n s : Int) (w : World) (h1 : 2 ≤ s) (h2 : s ≤ 1000000) :
    Calls Try.prog 18 #[.int .i64 n, .int .i64 s] w fun e w' => e = .returned (.int .i64 (n % s)) ∧ w' = w := by
  have hb := tmod_bd n (s := s) (by omega)
  have he := tmod_if (n := n) (s := s) (by omega)
  have hs : s ≠ 0 := by omega
  by_cases hn : n.tmod s < 0
  · rw [if_pos hn] at he
    go_enter Try.func18, Try.ntmps18
    go_wp2
    go_ret
    exact ⟨rfl, rfl⟩
  · rw [if_neg hn] at he
    go_enter Try.func18, Try.ntmps18
    go_wp2
    go_ret
    exact ⟨rfl, rfl⟩
end Go.Proofs.Ytlianbeogmefhaa
