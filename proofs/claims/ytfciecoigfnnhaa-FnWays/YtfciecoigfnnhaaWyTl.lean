/- Tolls: what a way costs, as the program holds it. -/
import Derived.Test.YtfciecoigfnnhaaWyMath
import Derived.Test.YtfciecoigfnnhaaLqBase
import Derived.BigQuiet
namespace Go.Proofs.Ytfciecoigfnnhaa
open Go.RowKit

/-- a toll as a value -/
abbrev tl (a b : Int) : Value := .agg #[.int .i64 a, .int .i64 b]
def szI (n : Int) : Int := if n < 0 then -n else n
def sg1 (n : Int) : Int := if n < 0 then -1 else 1
def sS (n : Int) : Int := if n < 0 then -(n * n) else n * n
def cmpI (x y : Int) : Int := if x < y then -1 else if y < x then 1 else 0
theorem sS_eq (n : Int) : sg1 n * szI n * szI n = sS n := by
  unfold sg1 szI sS
  split
  · rw [Int.mul_assoc, Int.neg_mul_neg, Int.neg_mul, Int.one_mul]
  · rw [Int.one_mul]
theorem sS_le {n : Int} (h0 : -1000000 ≤ n) (h1 : n ≤ 1000000) : -1000000000000 ≤ sS n ∧ sS n ≤ 1000000000000 := by
  have := sq_le h0 h1
  unfold sS
  split <;> omega
theorem root2 (m : Nat) : ∀ n : Nat, n * n = 2 * (m * m) → m = 0 := by
  induction m using Nat.strongRecOn with
  | ind m ih =>
    intro n h
    have h2 : n % 2 = 0 := by
      rcases Nat.mod_two_eq_zero_or_one n with e | e
      · exact e
      · exfalso
        have : n * n % 2 = 1 := by rw [Nat.mul_mod, e]
        omega
    obtain ⟨k, rfl⟩ : ∃ k, n = 2 * k := ⟨n / 2, by omega⟩
    have h3 : m * m = 2 * (k * k) := by
      have e : 2 * k * (2 * k) = 4 * (k * k) := by rw [Nat.mul_assoc, Nat.mul_left_comm k 2 k, ← Nat.mul_assoc]
      omega
    by_cases hm : m = 0
    · exact hm
    · exfalso
      have hk : k < m := by
        apply Nat.lt_of_not_le
        intro hle
        have := Nat.mul_le_mul hle hle
        have p : 0 < m * m := Nat.mul_pos (by omega) (by omega)
        omega
      have := ih k hk m h3
      subst this
      have : m * m = 0 := by simpa using h3
      have p : 0 < m * m := Nat.mul_pos (by omega) (by omega)
      omega
theorem root2i {a b : Int} (h : a * a = 2 * (b * b)) : b * b = 0 := by
  have e1 : ((a.natAbs * a.natAbs : Nat) : Int) = a * a := by rw [Int.natCast_mul, Int.natAbs_mul_self' a]
  have e2 : ((b.natAbs * b.natAbs : Nat) : Int) = b * b := by rw [Int.natCast_mul, Int.natAbs_mul_self' b]
  have := root2 b.natAbs a.natAbs (by omega)
  rw [← e2, this]
  rfl
theorem neg_sq' (a : Int) : -a * -a = a * a := by rw [Int.neg_mul_neg]
theorem tl_cmp (a b : Int) : cmpI (sS a) (2 * sS (-b)) = cmpV a b := by
  have pos : ∀ x : Int, x ≠ 0 → 0 < x * x := fun x hx => by
    rcases Int.lt_or_gt_of_ne hx with h | h
    · exact Int.mul_pos_of_neg_of_neg h h
    · exact Int.mul_pos h h
  have ea : ∀ x : Int, x = 0 → x * x = 0 := fun x hx => by rw [hx]; rfl
  have eb : 2 * b * b = 2 * (b * b) := Int.mul_assoc 2 b b
  have en := neg_sq' b
  have pa := pos a
  have pb := pos b
  have hr := @root2i a b
  have za := ea a
  have zb := ea b
  have sn : ∀ x : Int, x < 0 → sS x = -(x * x) := fun x h => if_pos h
  have sp : ∀ x : Int, ¬ x < 0 → sS x = x * x := fun x h => if_neg h
  have gn : ∀ x : Int, x < 0 → sgI x = -1 := fun x h => if_pos h
  have gp : ∀ x : Int, 0 < x → sgI x = 1 := fun x h => (if_neg (by omega)).trans (if_pos h)
  have gz : ∀ x : Int, x = 0 → sgI x = 0 := fun x h => (if_neg (by omega)).trans (if_neg (by omega))
  have ha : (a < 0 ∧ sS a = -(a * a) ∧ sgI a = -1 ∧ 0 < a * a) ∨ (a = 0 ∧ sS a = a * a ∧ sgI a = 0 ∧ a * a = 0) ∨ (0 < a ∧ sS a = a * a ∧ sgI a = 1 ∧ 0 < a * a) := by
    rcases Int.lt_trichotomy a 0 with h | h | h
    · exact .inl ⟨h, sn a h, gn a h, pa (by omega)⟩
    · exact .inr (.inl ⟨h, sp a (by omega), gz a h, za h⟩)
    · exact .inr (.inr ⟨h, sp a (by omega), gp a h, pa (by omega)⟩)
  have hb : (b < 0 ∧ sS (-b) = b * b ∧ sgI b = -1 ∧ 0 < b * b) ∨ (b = 0 ∧ sS (-b) = b * b ∧ sgI b = 0 ∧ b * b = 0) ∨ (0 < b ∧ sS (-b) = -(b * b) ∧ sgI b = 1 ∧ 0 < b * b) := by
    rcases Int.lt_trichotomy b 0 with h | h | h
    · exact .inl ⟨h, by rw [sp _ (by omega), en], gn b h, pb (by omega)⟩
    · exact .inr (.inl ⟨h, by rw [sp _ (by omega), en], gz b h, zb h⟩)
    · exact .inr (.inr ⟨h, by rw [sn _ (by omega), en], gp b h, pb (by omega)⟩)
  unfold cmpI cmpV
  rw [eb]
  generalize sS a = P at *
  generalize sS (-b) = Q at *
  generalize a * a = A at *
  generalize b * b = B at *
  clear sn sp gn gp gz pos ea eb en pa pb za zb
  rcases ha with ⟨a0, rfl, a2, a3⟩ | ⟨a0, rfl, a2, a3⟩ | ⟨a0, rfl, a2, a3⟩ <;> rcases hb with ⟨b0, rfl, b2, b3⟩ | ⟨b0, rfl, b2, b3⟩ | ⟨b0, rfl, b2, b3⟩ <;> rw [a2, b2] <;> (repeat' split) <;> omega

set_option maxHeartbeats 400000 in
theorem sizeSign_any (n : Int) (w : World) (h : -1000000000 ≤ n ∧ n ≤ 1000000000) :
    Calls Try.prog 87 #[.int .i64 n] w fun e w' => e = .returned (.tuple #[.int .i64 (szI n), .int .i64 (sg1 n)]) ∧ w' = w := by
  by_cases hz : n < 0
  · have e : szI n = -n := by simp [szI, hz]
    have e2 : sg1 n = -1 := by simp [sg1, hz]
    rw [e, e2]
    go_enter Try.func87, Try.ntmps87
    go_wp2
    go_ret2
    exact ⟨rfl, rfl⟩
  · have e : szI n = n := by simp [szI, hz]
    have e2 : sg1 n = 1 := by simp [sg1, hz]
    rw [e, e2]
    go_enter Try.func87, Try.ntmps87
    go_wp2
    go_ret2
    exact ⟨rfl, rfl⟩
end Go.Proofs.Ytfciecoigfnnhaa
