/- How float64 words stand to each other by their bits, and what good floats are: plain mathematics, no condition. -/
import Ieee.Arith
import GoSem.Core.Float
import Derived.WalkKit
import Derived.WalkLawsBesides
import Derived.Laws.Externs
import Derived.Laws.BitsAllLaws
namespace Go.Proofs.Ytfciecoigfnnhaa
open Ieee

abbrev D : Format := Ieee.double

/-- magnitude of a rung, in units of the least place -/
def val (r : Nat) : Nat := if r < 2 ^ 52 then r else (2 ^ 52 + r % 2 ^ 52) * 2 ^ (r / 2 ^ 52 - 1)

theorem val_lt {r s : Nat} (h : r < s) : val r < val s := by
  unfold val
  by_cases hs : s < 2 ^ 52
  · have hr : r < 2 ^ 52 := by omega
    simp [hr, hs]; omega
  · by_cases hr : r < 2 ^ 52
    · rw [if_pos hr, if_neg hs]
      have h1 : 1 ≤ 2 ^ (s / 2 ^ 52 - 1) := Nat.one_le_two_pow
      calc r < 2 ^ 52 + s % 2 ^ 52 := by omega
        _ = (2 ^ 52 + s % 2 ^ 52) * 1 := by omega
        _ ≤ _ := Nat.mul_le_mul_left _ h1
    · rw [if_neg hr, if_neg hs]
      by_cases hq : r / 2 ^ 52 = s / 2 ^ 52
      · rw [hq]
        apply Nat.mul_lt_mul_of_pos_right _ (Nat.two_pow_pos _)
        omega
      · have hq' : r / 2 ^ 52 < s / 2 ^ 52 := by omega
        have e : s / 2 ^ 52 - 1 = (r / 2 ^ 52 - 1) + 1 + (s / 2 ^ 52 - 1 - r / 2 ^ 52) := by omega
        have h2 : 1 ≤ 2 ^ (s / 2 ^ 52 - 1 - r / 2 ^ 52) := Nat.one_le_two_pow
        have h3 : (2 ^ 52 + r % 2 ^ 52) * 2 ^ (r / 2 ^ 52 - 1) < (2 ^ 52 * 2) * 2 ^ (r / 2 ^ 52 - 1) :=
          Nat.mul_lt_mul_of_pos_right (by omega) (Nat.two_pow_pos _)
        have h4 : (2 ^ 52 * 2) * 2 ^ (r / 2 ^ 52 - 1) = 2 ^ 52 * 2 ^ (r / 2 ^ 52 - 1 + 1) := by
          rw [Nat.pow_succ 2 (r / 2 ^ 52 - 1), Nat.mul_assoc, Nat.mul_comm 2]
        have h5 : 2 ^ 52 * 2 ^ (r / 2 ^ 52 - 1 + 1) * 1 ≤ 2 ^ 52 * 2 ^ (r / 2 ^ 52 - 1 + 1) * 2 ^ (s / 2 ^ 52 - 1 - r / 2 ^ 52) := Nat.mul_le_mul_left _ h2
        have h6 : 2 ^ 52 * 2 ^ (r / 2 ^ 52 - 1 + 1) * 2 ^ (s / 2 ^ 52 - 1 - r / 2 ^ 52) = 2 ^ 52 * 2 ^ (s / 2 ^ 52 - 1) := by
          rw [Nat.mul_assoc, ← Nat.pow_add, ← e]
        have h7 : 2 ^ 52 * 2 ^ (s / 2 ^ 52 - 1) ≤ (2 ^ 52 + s % 2 ^ 52) * 2 ^ (s / 2 ^ 52 - 1) := Nat.mul_le_mul_right _ (by omega)
        omega

theorem val_le {r s : Nat} (h : r ≤ s) : val r ≤ val s := by
  rcases Nat.lt_or_ge r s with h1 | h1
  · exact Nat.le_of_lt (val_lt h1)
  · have : r = s := by omega
    subst this; exact Nat.le_refl _


def rung (b : Nat) : Nat := b % 2 ^ 63
def neg (b : Nat) : Bool := b / 2 ^ 63 % 2 == 1
/-- where a word that is no NaN stands among the others -/
def key (b : Nat) : Int := if neg b then -(rung b : Int) else rung b
def INF : Nat := 2047 * 2 ^ 52

def sval (b : Nat) : Int := if neg b then -(val (rung b) : Int) else val (rung b)

theorem sval_cmp (x y : Nat) : compare (sval x) (sval y) = compare (key x) (key y) := by
  have h0 : val 0 = 0 := by decide
  have hx := @val_lt 0 (rung x)
  have hy := @val_lt 0 (rung y)
  have m1 := @val_lt (rung x) (rung y)
  have m2 := @val_lt (rung y) (rung x)
  have m3 : rung x = rung y → val (rung x) = val (rung y) := fun h => by rw [h]
  have m4 : rung x = 0 → val (rung x) = 0 := fun h => by rw [h, h0]
  have m5 : rung y = 0 → val (rung y) = 0 := fun h => by rw [h, h0]
  rw [h0] at hx hy
  unfold sval key
  generalize val (rung x) = vx at *
  generalize val (rung y) = vy at *
  generalize rung x = rx at *
  generalize rung y = ry at *
  simp only [compare, compareOfLessAndEq]
  cases neg x <;> cases neg y <;> simp only [Bool.false_eq_true, if_true, if_false] <;> (repeat' split) <;> first | rfl | (exfalso; omega)

theorem read_num {b : Nat} (h : rung b < INF) : D.read b = .number (neg b) (if rung b < 2 ^ 52 then rung b else 2 ^ 52 + rung b % 2 ^ 52) (-1074 + ((rung b / 2 ^ 52 - 1 : Nat) : Int)) := by
  have e1 : D.signWeight = 2 ^ 63 := rfl
  have e2 : D.binade = 2 ^ 52 := rfl
  have e3 : D.infRung = INF := rfl
  have e4 : D.leastPlace = -1074 := by decide
  unfold Format.read
  rw [e1, e2, e3, e4]
  show (if rung b < 2 ^ 52 then _ else if rung b < INF then _ else _) = _
  by_cases h1 : rung b < 2 ^ 52
  · rw [if_pos h1, if_pos h1]
    have : rung b / 2 ^ 52 - 1 = 0 := by omega
    rw [this]; rfl
  · rw [if_neg h1, if_pos h, if_neg h1]; rfl

theorem read_inf {b : Nat} (h : rung b = INF) : D.read b = .infinity (neg b) := by
  have e1 : D.signWeight = 2 ^ 63 := rfl
  have e2 : D.binade = 2 ^ 52 := rfl
  have e3 : D.infRung = INF := rfl
  have e4 : D.leastPlace = -1074 := by decide
  unfold Format.read
  rw [e1, e2, e3, e4]
  show (if rung b < 2 ^ 52 then _ else if rung b < INF then _ else if rung b = INF then _ else _) = _
  have h1 : ¬ rung b < 2 ^ 52 := by rw [h]; unfold INF; omega
  rw [if_neg h1, if_neg (by omega), if_pos h]; rfl

theorem read_nan {b : Nat} (h : INF < rung b) : D.read b = .nan (neg b) (rung b - INF) := by
  have e1 : D.signWeight = 2 ^ 63 := rfl
  have e2 : D.binade = 2 ^ 52 := rfl
  have e3 : D.infRung = INF := rfl
  have e4 : D.leastPlace = -1074 := by decide
  unfold Format.read
  rw [e1, e2, e3, e4]
  show (if rung b < 2 ^ 52 then _ else if rung b < INF then _ else if rung b = INF then _ else _) = _
  have h1 : ¬ rung b < 2 ^ 52 := by unfold INF at h; omega
  rw [if_neg h1, if_neg (by omega), if_neg (by omega)]; rfl

theorem cmp_mul (a b : Int) (k : Nat) (hk : 0 < k) : compare (a * k) (b * k) = compare a b := by
  have hk' : (0 : Int) < k := by omega
  simp only [compare, compareOfLessAndEq]
  have h1 : a * k < b * k ↔ a < b := by
    constructor
    · intro h; exact Int.lt_of_mul_lt_mul_right h (by omega)
    · intro h; exact Int.mul_lt_mul_of_pos_right h hk'
  have h2 : a * k = b * k ↔ a = b := by
    constructor
    · intro h; exact Int.eq_of_mul_eq_mul_right (by omega) h
    · intro h; rw [h]
  simp only [h1, h2]

theorem val_eq (r : Nat) : val r = (if r < 2 ^ 52 then r else 2 ^ 52 + r % 2 ^ 52) * 2 ^ (r / 2 ^ 52 - 1) := by
  unfold val
  by_cases h : r < 2 ^ 52
  · have : r / 2 ^ 52 - 1 = 0 := by omega
    rw [if_pos h, if_pos h, this, Nat.pow_zero, Nat.mul_one]
  · rw [if_neg h, if_neg h]

theorem signed_eq (s : Bool) (m up k : Nat) : signed s m up * ((2 ^ k : Nat) : Int) = if s then -((m * 2 ^ (up + k) : Nat) : Int) else ((m * 2 ^ (up + k) : Nat) : Int) := by
  unfold signed
  have e : ((m <<< up : Nat) : Int) * ((2 ^ k : Nat) : Int) = ((m * 2 ^ (up + k) : Nat) : Int) := by
    rw [← Int.natCast_mul, Nat.shiftLeft_eq, Nat.pow_add, Nat.mul_assoc]
  cases s <;> simp only [Bool.false_eq_true, if_true, if_false]
  · exact e
  · rw [Int.neg_mul, e]

/-- HOW TWO WORDS THAT ARE NO NaNs STAND TO EACH OTHER. -/
theorem order_num {x y : Nat} (hx : rung x < INF) (hy : rung y < INF) : D.order x y = some (compare (key x) (key y)) := by
  unfold Format.order
  rw [read_num hx, read_num hy]
  simp only [Datum.order]
  congr 1
  generalize hp : rung x / 2 ^ 52 - 1 = px
  generalize hq : rung y / 2 ^ 52 - 1 = py
  have hb : min (-1074 + (px : Int)) (-1074 + (py : Int)) = -1074 + ((min px py : Nat) : Int) := by omega
  rw [hb]
  have h1 : (-1074 + (px : Int) - (-1074 + ((min px py : Nat) : Int))).toNat = px - min px py := by omega
  have h2 : (-1074 + (py : Int) - (-1074 + ((min px py : Nat) : Int))).toNat = py - min px py := by omega
  rw [h1, h2, ← cmp_mul _ _ (2 ^ (min px py)) (Nat.two_pow_pos _), signed_eq, signed_eq]
  have h3 : px - min px py + min px py = px := by omega
  have h4 : py - min px py + min px py = py := by omega
  rw [h3, h4, ← sval_cmp]
  unfold sval
  rw [val_eq, val_eq, hp, hq]

theorem rung_le (b : Nat) : rung b < 2 ^ 63 := Nat.mod_lt _ (Nat.two_pow_pos _)

theorem order_some {x y : Nat} (hx : rung x ≤ INF) (hy : rung y ≤ INF) : D.order x y = some (compare (key x) (key y)) := by
  rcases Nat.lt_or_ge (rung x) INF with h1 | h1 <;> rcases Nat.lt_or_ge (rung y) INF with h2 | h2
  · exact order_num h1 h2
  · have h2' : rung y = INF := by omega
    unfold Format.order
    rw [read_num h1, read_inf h2']
    simp only [Datum.order, key, h2']
    congr 1
    generalize rung x = rx at *
    simp only [compare, compareOfLessAndEq]
    cases neg x <;> cases neg y <;> simp only [Bool.false_eq_true, if_true, if_false] <;> (repeat' split) <;> first | rfl | (exfalso; omega)
  · have h1' : rung x = INF := by omega
    unfold Format.order
    rw [read_num h2, read_inf h1']
    simp only [Datum.order, key, h1']
    congr 1
    generalize rung y = ry at *
    simp only [compare, compareOfLessAndEq]
    cases neg x <;> cases neg y <;> simp only [Bool.false_eq_true, if_true, if_false] <;> (repeat' split) <;> first | rfl | (exfalso; omega)
  · have h1' : rung x = INF := by omega
    have h2' : rung y = INF := by omega
    unfold Format.order
    rw [read_inf h1', read_inf h2']
    simp only [Datum.order, key, h1', h2']
    cases neg x <;> cases neg y <;> decide

theorem order_nan_left {x y : Nat} (hx : INF < rung x) : D.order x y = none := by
  unfold Format.order
  rw [read_nan hx]; rfl
theorem order_nan_right {x y : Nat} (hy : INF < rung y) : D.order x y = none := by
  unfold Format.order
  rw [read_nan hy]
  cases D.read x <;> rfl

theorem ord_some {x y : Nat} (hx : rung x ≤ INF) (hy : rung y ≤ INF) : FloatKind.f64.format.order x y = some (compare (key x) (key y)) := order_some hx hy

theorem ord_eq_iff {x y : Nat} : (FloatKind.f64.format.order x y == some .eq) = (decide (rung x ≤ INF) && decide (rung y ≤ INF) && decide (key x = key y)) := by
  rcases Nat.lt_or_ge INF (rung x) with h1 | h1
  · have : FloatKind.f64.format.order x y = none := order_nan_left h1
    rw [this]; simp; omega
  · rcases Nat.lt_or_ge INF (rung y) with h2 | h2
    · have : FloatKind.f64.format.order x y = none := order_nan_right h2
      rw [this]; simp; omega
    · rw [ord_some h1 h2]
      simp only [h1, h2, decide_true, Bool.true_and, compare, compareOfLessAndEq]
      by_cases ha : key x < key y
      · have : ¬ key x = key y := by omega
        simp [ha, this]
      · by_cases hb : key x = key y
        · simp [hb]
        · simp [ha, hb]

theorem ord_lt_iff {x y : Nat} : (FloatKind.f64.format.order x y == some .lt) = (decide (rung x ≤ INF) && decide (rung y ≤ INF) && decide (key x < key y)) := by
  rcases Nat.lt_or_ge INF (rung x) with h1 | h1
  · have : FloatKind.f64.format.order x y = none := order_nan_left h1
    rw [this]; simp; omega
  · rcases Nat.lt_or_ge INF (rung y) with h2 | h2
    · have : FloatKind.f64.format.order x y = none := order_nan_right h2
      rw [this]; simp; omega
    · rw [ord_some h1 h2]
      simp only [h1, h2, decide_true, Bool.true_and, compare, compareOfLessAndEq]
      by_cases ha : key x < key y
      · simp [ha]
      · by_cases hb : key x = key y
        · simp [hb]
        · simp [ha, hb]

theorem ord_gt_iff {x y : Nat} : (FloatKind.f64.format.order x y == some .gt) = (decide (rung x ≤ INF) && decide (rung y ≤ INF) && decide (key y < key x)) := by
  rcases Nat.lt_or_ge INF (rung x) with h1 | h1
  · have : FloatKind.f64.format.order x y = none := order_nan_left h1
    rw [this]; simp; omega
  · rcases Nat.lt_or_ge INF (rung y) with h2 | h2
    · have : FloatKind.f64.format.order x y = none := order_nan_right h2
      rw [this]; simp; omega
    · rw [ord_some h1 h2]
      simp only [h1, h2, decide_true, Bool.true_and, compare, compareOfLessAndEq]
      by_cases ha : key x < key y
      · have : ¬ key y < key x := by omega
        simp [ha, this]
      · by_cases hb : key x = key y
        · simp [hb]
        · have : key y < key x := by omega
          simp [ha, hb, this]
open Go.RowKit
theorem ret_float {a b : Nat} (h : a = b) : Ending.returned (.float .f64 a) = .returned (.float .f64 b) := by rw [h]
theorem ret_bool {a b : Bool} (h : a = b) : Ending.returned (.bool a) = .returned (.bool b) := by rw [h]

theorem andNot_top (x : Nat) (hx : x < 18446744073709551616) : (bits BinOp.andNot IntKind.u64 (↑x) 9223372036854775808).toNat = x % 2 ^ 63 := by
  rw [show (9223372036854775808 : Int) = ((9223372036854775808 : Nat) : Int) from rfl, u64_andNot_nat x _ hx (by decide)]
  rw [show 18446744073709551615 - 9223372036854775808 = 2 ^ 63 - 1 from rfl, Nat.and_two_pow_sub_one_eq_mod, Int.toNat_natCast]

theorem wrap_neg (x : Nat) (hx : x < 18446744073709551616) : decide (wrap64 (x : Int) < 0) = decide (9223372036854775808 ≤ x) := by
  unfold wrap64
  by_cases h : 9223372036854775808 ≤ x
  · simp only [h, decide_true, decide_eq_true_eq]; omega
  · simp only [h, decide_false, decide_eq_false_iff_not]; omega

/-- x is a NaN -/
def nanB (x : Nat) : Bool := decide (INF < rung x)
/-- x is infinite -/
def infB (x : Nat) : Bool := decide (rung x = INF)
/-- x has its sign's bit -/
def sgnB (x : Nat) : Bool := decide (9223372036854775808 ≤ x)
/-- x is a nought -/
def zeroB (x : Nat) : Bool := decide (rung x = 0)
/-- x is a good float -/
def goodB (x : Nat) : Bool := !nanB x && !infB x && !(zeroB x && sgnB x)

theorem nan_ord (x : Nat) : (FloatKind.f64.format.order x x != some .eq) = nanB x := by
  unfold nanB bne
  rw [ord_eq_iff]
  rcases Nat.lt_or_ge INF (rung x) with h | h
  · simp [h]
  · simp [h, Nat.not_lt.2 h]
theorem rung0 : rung 0 = 0 := rfl
theorem key0 : key 0 = 0 := by decide
theorem rung_ne_of_nan {x : Nat} (h : ¬ rung x ≤ INF) : ¬ rung x = 0 := by omega
theorem key_zero (x : Nat) : key x = 0 ↔ rung x = 0 := by unfold key; split <;> omega
theorem zero_ord (x : Nat) : (FloatKind.f64.format.order x 0 == some .eq) = zeroB x := by
  unfold zeroB
  rw [ord_eq_iff, rung0, key0, Bool.eq_iff_iff]
  simp only [Bool.and_eq_true, decide_eq_true_eq, key_zero]
  constructor
  · exact fun h => h.2
  · intro h; exact ⟨⟨by omega, Nat.zero_le _⟩, h⟩
theorem zero_ord_ne (x : Nat) : (FloatKind.f64.format.order x 0 != some .eq) = !zeroB x := by rw [← zero_ord]; rfl
theorem rung_mod (x : Nat) : rung (x % 2 ^ 63) = rung x := by unfold rung; omega
theorem key_mod (x : Nat) : key (x % 2 ^ 63) = rung x := by
  have : neg (x % 2 ^ 63) = false := by unfold neg; rw [Nat.div_eq_of_lt (Nat.mod_lt _ (Nat.two_pow_pos _))]; rfl
  unfold key; rw [this, rung_mod]; rfl
theorem inf_ord (x : Nat) : (FloatKind.f64.format.order (x % 2 ^ 63) 9218868437227405311 == some .gt) = infB x := by
  unfold infB
  have k : key 9218868437227405311 = 9218868437227405311 := by decide
  have r : rung 9218868437227405311 = 9218868437227405311 := by decide
  have i : INF = 9218868437227405312 := by decide
  rw [ord_gt_iff, rung_mod, key_mod, k, r, Bool.eq_iff_iff]
  simp only [Bool.and_eq_true, decide_eq_true_eq, i]
  omega

theorem zero_iff (x : Nat) : FloatKind.f64.format.order x 0 = some Ordering.eq ↔ zeroB x = true := by rw [← zero_ord]; simp


def plain (x : Nat) : Nat := if zeroB x then 0 else x
theorem plain_of {x : Nat} (h : ¬ rung x = 0) : plain x = x := by unfold plain zeroB; simp [h]
theorem plain_lt {x : Nat} (hx : x < 18446744073709551616) : plain x < 18446744073709551616 := by unfold plain; split <;> omega
theorem ord_val {x y : Nat} {o : Ordering} (hx : rung x ≤ INF) (hy : rung y ≤ INF) (h : compare (key x) (key y) = o) : FloatKind.f64.format.order x y = some o := by
  rw [ord_some hx hy, h]
theorem cmp_lt {a b : Int} (h : a < b) : compare a b = .lt := by simp [compare, compareOfLessAndEq, h]
theorem cmp_gt {a b : Int} (h : b < a) : compare a b = .gt := by
  have h1 : ¬ a < b := by omega
  have h2 : ¬ a = b := by omega
  simp [compare, compareOfLessAndEq, h1, h2]

/-- a good float is 0, above 0, or below 0 -/
theorem good_parts {x : Nat} (hx : x < 18446744073709551616) (h : goodB x = true) : x = 0 ∨ (0 < x ∧ x < INF) ∨ (9223372036854775808 < x ∧ x < 9223372036854775808 + INF) := by
  have hi : INF = 9218868437227405312 := by decide
  have hr : rung x = x % 9223372036854775808 := rfl
  simp only [goodB, nanB, infB, zeroB, sgnB, Bool.and_eq_true, Bool.not_eq_true', decide_eq_false_iff_not, Bool.and_eq_false_iff] at h
  rw [hr, hi] at h
  rw [hi]
  omega

theorem pos_facts {x : Nat} (h0 : 0 < x) (h1 : x < INF) : rung x = x ∧ key x = x ∧ rung x ≤ INF := by
  have hr : rung x = x := by unfold rung; unfold INF at h1; omega
  have hn : neg x = false := by unfold neg; unfold INF at h1; rw [Nat.div_eq_of_lt (by omega)]; rfl
  refine ⟨hr, ?_, by omega⟩
  unfold key; rw [hn, hr]; rfl
theorem neg_facts {x : Nat} (h0 : 9223372036854775808 < x) (h1 : x < 9223372036854775808 + INF) : rung x = x - 9223372036854775808 ∧ key x = 9223372036854775808 - (x : Int) ∧ rung x ≤ INF := by
  have hr : rung x = x - 9223372036854775808 := by unfold rung; unfold INF at h1; omega
  have hn : neg x = true := by
    have : x / 2 ^ 63 = 1 := by unfold INF at h1; omega
    unfold neg; rw [this]; rfl
  refine ⟨hr, ?_, by omega⟩
  unfold key; rw [hn, hr]; simp only [if_true]; omega

theorem keyInf : key 9218868437227405312 = 9218868437227405312 := by decide
theorem rungInf : rung 9218868437227405312 ≤ INF := by decide
theorem nanInf : nanB 9218868437227405312 = false := by decide


/-- the float above a good one that is not the greatest -/
def upF (x : Nat) : Nat := if 9223372036854775808 < x then plain (x - 1) else x + 1
theorem upF_lt {x : Nat} (hx : x < 18446744073709551616) : upF x < 18446744073709551616 := by
  unfold upF
  split
  · exact plain_lt (by omega)
  · omega
end Go.Proofs.Ytfciecoigfnnhaa
