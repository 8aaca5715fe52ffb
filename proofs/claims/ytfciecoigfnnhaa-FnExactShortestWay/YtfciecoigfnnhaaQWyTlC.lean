/- Tolls: what a way costs, as the program holds it. -/
import Derived.Test.YtfciecoigfnnhaaQWyKey
import Derived.Test.YtfciecoigfnnhaaQClVal
import Derived.BigQuiet
import Derived.Deep.Cut
import Derived.WalkSmall
namespace Go.Proofs.Ytfciecoigfnnhaa
open Go.RowKit

/-- a toll as a value -/
abbrev tl (a b : Int) : Value := .agg #[.int .i64 a, .int .i64 b]
def szI (n : Int) : Int := if n < 0 then -n else n
def sg1 (n : Int) : Int := if n < 0 then -1 else 1
def sS (n : Int) : Int := if n < 0 then -(n * n) else n * n
def cmpI (x y : Int) : Int := if x < y then -1 else if y < x then 1 else 0
theorem sS_eq (n : Int) : sg1 n * szI n * szI n = sS n := by
  unfold sg1 szI sS
  split
  · rw [Int.mul_assoc, Int.neg_mul_neg, Int.neg_mul, Int.one_mul]
  · rw [Int.one_mul]
theorem sS_le {n : Int} (h0 : -1000000 ≤ n) (h1 : n ≤ 1000000) : -1000000000000 ≤ sS n ∧ sS n ≤ 1000000000000 := by
  have := sq_le h0 h1
  unfold sS
  split <;> omega
theorem root2 (m : Nat) : ∀ n : Nat, n * n = 2 * (m * m) → m = 0 := by
  induction m using Nat.strongRecOn with
  | ind m ih =>
    intro n h
    have h2 : n % 2 = 0 := by
      rcases Nat.mod_two_eq_zero_or_one n with e | e
      · exact e
      · exfalso
        have : n * n % 2 = 1 := by rw [Nat.mul_mod, e]
        omega
    obtain ⟨k, rfl⟩ : ∃ k, n = 2 * k := ⟨n / 2, by omega⟩
    have h3 : m * m = 2 * (k * k) := by
      have e : 2 * k * (2 * k) = 4 * (k * k) := by rw [Nat.mul_assoc, Nat.mul_left_comm k 2 k, ← Nat.mul_assoc]
      omega
    by_cases hm : m = 0
    · exact hm
    · exfalso
      have hk : k < m := by
        apply Nat.lt_of_not_le
        intro hle
        have := Nat.mul_le_mul hle hle
        have p : 0 < m * m := Nat.mul_pos (by omega) (by omega)
        omega
      have := ih k hk m h3
      subst this
      have : m * m = 0 := by simpa using h3
      have p : 0 < m * m := Nat.mul_pos (by omega) (by omega)
      omega
theorem root2i {a b : Int} (h : a * a = 2 * (b * b)) : b * b = 0 := by
  have e1 : ((a.natAbs * a.natAbs : Nat) : Int) = a * a := by rw [Int.natCast_mul, Int.natAbs_mul_self' a]
  have e2 : ((b.natAbs * b.natAbs : Nat) : Int) = b * b := by rw [Int.natCast_mul, Int.natAbs_mul_self' b]
  have := root2 b.natAbs a.natAbs (by omega)
  rw [← e2, this]
  rfl
theorem neg_sq' (a : Int) : -a * -a = a * a := by rw [Int.neg_mul_neg]
theorem tl_cmp (a b : Int) : cmpI (sS a) (2 * sS (-b)) = cmpV a b := by
  have pos : ∀ x : Int, x ≠ 0 → 0 < x * x := fun x hx => by
    rcases Int.lt_or_gt_of_ne hx with h | h
    · exact Int.mul_pos_of_neg_of_neg h h
    · exact Int.mul_pos h h
  have ea : ∀ x : Int, x = 0 → x * x = 0 := fun x hx => by rw [hx]; rfl
  have eb : 2 * b * b = 2 * (b * b) := Int.mul_assoc 2 b b
  have en := neg_sq' b
  have pa := pos a
  have pb := pos b
  have hr := @root2i a b
  have za := ea a
  have zb := ea b
  have sn : ∀ x : Int, x < 0 → sS x = -(x * x) := fun x h => if_pos h
  have sp : ∀ x : Int, ¬ x < 0 → sS x = x * x := fun x h => if_neg h
  have gn : ∀ x : Int, x < 0 → sgI x = -1 := fun x h => if_pos h
  have gp : ∀ x : Int, 0 < x → sgI x = 1 := fun x h => (if_neg (by omega)).trans (if_pos h)
  have gz : ∀ x : Int, x = 0 → sgI x = 0 := fun x h => (if_neg (by omega)).trans (if_neg (by omega))
  have ha : (a < 0 ∧ sS a = -(a * a) ∧ sgI a = -1 ∧ 0 < a * a) ∨ (a = 0 ∧ sS a = a * a ∧ sgI a = 0 ∧ a * a = 0) ∨ (0 < a ∧ sS a = a * a ∧ sgI a = 1 ∧ 0 < a * a) := by
    rcases Int.lt_trichotomy a 0 with h | h | h
    · exact .inl ⟨h, sn a h, gn a h, pa (by omega)⟩
    · exact .inr (.inl ⟨h, sp a (by omega), gz a h, za h⟩)
    · exact .inr (.inr ⟨h, sp a (by omega), gp a h, pa (by omega)⟩)
  have hb : (b < 0 ∧ sS (-b) = b * b ∧ sgI b = -1 ∧ 0 < b * b) ∨ (b = 0 ∧ sS (-b) = b * b ∧ sgI b = 0 ∧ b * b = 0) ∨ (0 < b ∧ sS (-b) = -(b * b) ∧ sgI b = 1 ∧ 0 < b * b) := by
    rcases Int.lt_trichotomy b 0 with h | h | h
    · exact .inl ⟨h, by rw [sp _ (by omega), en], gn b h, pb (by omega)⟩
    · exact .inr (.inl ⟨h, by rw [sp _ (by omega), en], gz b h, zb h⟩)
    · exact .inr (.inr ⟨h, by rw [sn _ (by omega), en], gp b h, pb (by omega)⟩)
  unfold cmpI cmpV
  rw [eb]
  generalize sS a = P at *
  generalize sS (-b) = Q at *
  generalize a * a = A at *
  generalize b * b = B at *
  clear sn sp gn gp gz pos ea eb en pa pb za zb
  rcases ha with ⟨a0, rfl, a2, a3⟩ | ⟨a0, rfl, a2, a3⟩ | ⟨a0, rfl, a2, a3⟩ <;> rcases hb with ⟨b0, rfl, b2, b3⟩ | ⟨b0, rfl, b2, b3⟩ | ⟨b0, rfl, b2, b3⟩ <;> rw [a2, b2] <;> (repeat' split) <;> omega

set_option maxHeartbeats 400000 in
theorem sizeSign_any (n : Int) (w : World) (h : -1000000000 ≤ n ∧ n ≤ 1000000000) :
    Calls Try.prog 87 #[.int .i64 n] w fun e w' => e = .returned (.tuple #[.int .i64 (szI n), .int .i64 (sg1 n)]) ∧ w' = w := by
  by_cases hz : n < 0
  · have e : szI n = -n := by simp [szI, hz]
    have e2 : sg1 n = -1 := by simp [sg1, hz]
    rw [e, e2]
    go_enter Try.func87, Try.ntmps87
    go_wp2
    go_ret2
    exact ⟨rfl, rfl⟩
  · have e : szI n = n := by simp [szI, hz]
    have e2 : sg1 n = 1 := by simp [sg1, hz]
    rw [e, e2]
    go_enter Try.func87, Try.ntmps87
    go_wp2
    go_ret2
    exact ⟨rfl, rfl⟩
end Go.Proofs.Ytfciecoigfnnhaa

/- Tolls held against each other, as the program does it. -/
namespace Go.Proofs.Ytfciecoigfnnhaa
open Go.RowKit

set_option maxHeartbeats 400000 in
theorem isNaN_any (x : Int) (w : World) :
    Calls Try.prog 106 #[.int .i64 x] w fun e w' => e = .returned (.bool false) ∧ w' = w := by
  go_enter Try.func106, Try.ntmps106
  go_wp2
  go_ret
  exact ⟨rfl, rfl⟩
set_option maxHeartbeats 400000 in
theorem cmp_any (x y : Int) (w : World) :
    Calls Try.prog 89 #[.int .i64 x, .int .i64 y] w fun e w' => e = .returned (.int .i64 (cmpI x y)) ∧ w' = w := by
  by_cases h0 : x < y
  · go_enter Try.func89, Try.ntmps89
    go_wp2_with (go_at_call 106; refine (isNaN_any _ _).mono ?_; rintro e w' ⟨rfl, hw'⟩; have hs := hw'.symm; clear hw'; subst hs)
    go_ret
    exact ⟨ret_int (by simp [cmpI, h0]), rfl⟩
  · by_cases h1 : y < x
    · go_enter Try.func89, Try.ntmps89
      go_wp2_with (go_at_call 106; refine (isNaN_any _ _).mono ?_; rintro e w' ⟨rfl, hw'⟩; have hs := hw'.symm; clear hw'; subst hs)
      go_ret
      exact ⟨ret_int (by unfold cmpI; rw [if_neg (by omega), if_pos (by omega)]), rfl⟩
    · go_enter Try.func89, Try.ntmps89
      go_wp2_with (go_at_call 106; refine (isNaN_any _ _).mono ?_; rintro e w' ⟨rfl, hw'⟩; have hs := hw'.symm; clear hw'; subst hs)
      go_ret
      exact ⟨ret_int (by unfold cmpI; rw [if_neg (by omega), if_neg (by omega)]), rfl⟩
set_option maxHeartbeats 400000 in
theorem signSq_any (n : Int) (w : World) (h0 : -1000000 ≤ n) (h1 : n ≤ 1000000) :
    Calls Try.prog 90 #[.int .i64 n] w fun e w' => e = .returned (.int .i64 (sS n)) ∧ w' = w := by
  have k := sizeSign_any n
  have e0 := sS_eq n
  have e1 := sS_le h0 h1
  have b1 : -1000000 ≤ sg1 n * szI n ∧ sg1 n * szI n ≤ 1000000 := by
    unfold sg1 szI; split <;> omega
  generalize szI n = z at *
  generalize sg1 n = s at *
  rw [← e0]
  rw [← e0] at e1
  clear e0
  go_enter Try.func90, Try.ntmps90
  go_wp2_with (go_at_call 87; refine (k _ (by omega)).mono ?_; rintro e w' ⟨rfl, hw'⟩; have hs := hw'.symm; clear hw'; subst hs)
  go_ret
  exact ⟨rfl, rfl⟩
set_option maxHeartbeats 400000 in
theorem tgood_any (a b : Int) (w : World) :
    Calls Try.prog 53 #[tl a b] w fun e w' => e = .returned (.bool (stB a && stB b)) ∧ Below w.heap.size w w' := by
  have hb0 : Below w.heap.size w (w.alloc (.cells #[.int .i64 a, .int .i64 b] 88)) := (Below.refl _ _).alloc (Nat.le_refl _) _
  by_cases h0 : 0 ≤ a
  · by_cases h1 : a ≤ 1000000
    · by_cases h2 : 0 ≤ b
      · by_cases h3 : b ≤ 1000000
        · have e : (stB a && stB b) = true := by simp [stB, *]
          rw [e]
          go_enter Try.func53, Try.ntmps53
          go_wp2
          go_ret
          exact ⟨rfl, hb0⟩
        · have e : (stB a && stB b) = false := by simp [stB, *]
          rw [e]
          go_enter Try.func53, Try.ntmps53
          go_wp2
          go_ret
          exact ⟨rfl, hb0⟩
      · have e : (stB a && stB b) = false := by simp [stB, *]
        rw [e]
        go_enter Try.func53, Try.ntmps53
        go_wp2
        go_ret
        exact ⟨rfl, hb0⟩
    · have e : (stB a && stB b) = false := by simp [stB, *]
      rw [e]
      go_enter Try.func53, Try.ntmps53
      go_wp2
      go_ret
      exact ⟨rfl, hb0⟩
  · have e : (stB a && stB b) = false := by simp [stB, *]
    rw [e]
    go_enter Try.func53, Try.ntmps53
    go_wp2
    go_ret
    exact ⟨rfl, hb0⟩
set_option maxHeartbeats 1000000 in
theorem tcmp_any (a b c d : Int) (w : World) (ha : 0 ≤ a ∧ a ≤ 1000000) (hb : 0 ≤ b ∧ b ≤ 1000000) (hc : 0 ≤ c ∧ c ≤ 1000000) (hd : 0 ≤ d ∧ d ≤ 1000000) :
    Calls Try.prog 54 #[tl a b, tl c d] w fun e w' => e = .returned (.int .i64 (cmpV (a - c) (b - d))) ∧ Below w.heap.size w w' := by
  have hb0 : Below w.heap.size w ((w.alloc (.cells #[.int .i64 a, .int .i64 b] 88)).alloc (.cells #[.int .i64 c, .int .i64 d] 88)) := ((Below.refl _ _).alloc (Nat.le_refl _) _).alloc (by simp) _
  have bA := (bx_new (w := w) [.int .i64 a, .int .i64 b] 88 rfl).alloc (.cells #[.int .i64 c, .int .i64 d] 88)
  have bB := bx_new (w := w.alloc (.cells #[.int .i64 a, .int .i64 b] 88)) (b := w.heap.size + 1) [.int .i64 c, .int .i64 d] 88 (by simp)
  have k1 := fun w => signSq_any (a - c) w (by omega) (by omega)
  have k2 := fun w => signSq_any (d - b) w (by omega) (by omega)
  have k3 := fun w => cmp_any (sS (a - c)) (2 * sS (d - b)) w
  have l1 := sS_le (n := a - c) (by omega) (by omega)
  have l2 := sS_le (n := d - b) (by omega) (by omega)
  have e := tl_cmp (a - c) (b - d)
  rw [Int.neg_sub] at e
  rw [← e]
  clear e
  generalize sS (a - c) = X at *
  generalize sS (d - b) = Y at *
  generalize cmpI X (2 * Y) = V at *
  go_enter Try.func54, Try.ntmps54
  go_upto_region 1 with fail
  generalize (w.alloc (.cells #[.int .i64 a, .int .i64 b] 88)).alloc (.cells #[.int .i64 c, .int .i64 d] 88) = w1 at *
  have x0 := bA.c0
  have x1 := bA.c1
  have y0 := bB.c0
  have y1 := bB.c1
  go_quiet (first | (go_at_call_of 90 (Value.int .i64 (a - c)); exact Calls.quiet_of_same (k1 _)) | (go_at_call_of 90 (Value.int .i64 (d - b)); exact Calls.quiet_of_same (k2 _)) | (go_at_call 89; exact Calls.quiet_of_same (k3 _)))
  go_wp2
  go_ret
  exact ⟨rfl, below_drewN hb0 _⟩
end Go.Proofs.Ytfciecoigfnnhaa
