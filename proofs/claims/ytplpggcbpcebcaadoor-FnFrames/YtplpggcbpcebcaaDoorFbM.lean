/- Numbers as bits; the sum of bits. No program. v: a number, n: how many bits. -/
import Derived.Test.YtplpggcbpcebcaaDoorSfM
namespace Go.Proofs.YtplpggcbpcebcaaDoor
/-- bit i of v, as a byte -/
def dgt (v i : Nat) : Int := 48 + ((v / 2 ^ i % 2 : Nat) : Int)
theorem dgt_bd (v i : Nat) : dgt v i = 48 ∨ dgt v i = 49 := by
  unfold dgt
  have : v / 2 ^ i % 2 < 2 := Nat.mod_lt _ (by decide)
  omega
theorem dgt_half (v i : Nat) : dgt (v / 2) i = dgt v (i + 1) := by
  unfold dgt
  rw [Nat.div_div_eq_div_mul, Nat.pow_succ, Nat.mul_comm (2 ^ i) 2]
/-- the first k of n bits of v -/
def putL (v n k : Nat) : List Int := (List.range k).map fun j => dgt v (n - 1 - j)
theorem putL_step (v n k : Nat) : putL v n (k + 1) = putL v n k ++ [dgt v (n - 1 - k)] := by simp [putL, List.range_succ]
theorem putL_len (v n k : Nat) : (putL v n k).length = k := by simp [putL]
theorem putL_bd (v n k : Nat) : ∀ x ∈ putL v n k, x = 48 ∨ x = 49 := fun x hx => by
  obtain ⟨j, _, rfl⟩ := List.mem_map.1 hx
  exact dgt_bd _ _
/-- all bits of v -/
abbrev bitL (v n : Nat) : List Int := putL v n n
theorem bitL_succ (v n : Nat) : bitL v (n + 1) = bitL (v / 2) n ++ [dgt v 0] := by
  unfold bitL
  rw [putL_step]
  have e : putL v (n + 1) n = putL (v / 2) n n := by
    unfold putL
    refine List.map_congr_left fun j hj => ?_
    have hj' := List.mem_range.1 hj
    rw [dgt_half]
    congr 1
    omega
  rw [e]
  congr 3
  omega
theorem bitL_zero : ∀ n, bitL 0 n = List.replicate n 48
  | 0 => rfl
  | n + 1 => by
    rw [bitL_succ, Nat.zero_div, bitL_zero n, List.replicate_succ']
    rfl
/-- the bits of v without noughts ahead, k of them behind what is left -/
def lowL (v k : Nat) : List Int := (List.range k).map fun j => dgt v (k - 1 - j)
theorem lowL_step (v k : Nat) : lowL v (k + 1) = dgt v k :: lowL v k := by
  unfold lowL
  rw [List.range_succ_eq_map, List.map_cons, List.map_map]
  congr 1
  refine List.map_congr_left fun j hj => ?_
  simp only [Function.comp]
  congr 1
  omega
theorem lowL_put (v k : Nat) : lowL v k = putL v k k := rfl
/-- noughts ahead -/
theorem bits_pad {v n : Nat} : ∀ {d : Nat}, v < 2 ^ n → List.replicate d 48 ++ putL v n n = putL v (n + d) (n + d)
  | 0, _ => rfl
  | d + 1, h => by
    have ih := bits_pad (d := d) h
    have e : putL v (n + (d + 1)) (n + (d + 1)) = (48 : Int) :: putL v (n + d) (n + d) := by
      have q := lowL_step v (n + d)
      rw [lowL_put, lowL_put] at q
      rw [show n + (d + 1) = n + d + 1 by omega, q]
      congr 1
      unfold dgt
      have : v / 2 ^ (n + d) = 0 := Nat.div_eq_of_lt (Nat.lt_of_lt_of_le h (Nat.pow_le_pow_right (by decide) (by omega)))
      rw [this]; rfl
    rw [e, List.replicate_succ, List.cons_append, ih]
/-- one bit more into a sum: the model's way, the program's way -/
def crS (r b : Nat) : Nat := if (r / 16384 % 2 + b) % 2 = 1 then (r * 2 % 32768) ^^^ 17817 else r * 2 % 32768
def crL (l : List Int) : Nat := l.foldl (fun r x => crS r (x - 48).toNat) 0
theorem crL_snoc (l : List Int) (x : Int) : crL (l ++ [x]) = crS (crL l) (x - 48).toNat := by simp [crL]
theorem crS_bd (r b : Nat) : crS r b < 32768 := by
  unfold crS
  have h : r * 2 % 32768 < 32768 := Nat.mod_lt _ (by decide)
  split
  · exact Nat.xor_lt_two_pow (n := 15) h (by decide)
  · exact h
theorem crF_bd : ∀ (l : List Int) (r : Nat), r < 32768 → l.foldl (fun r x => crS r (x - 48).toNat) r < 32768
  | [], _, h => h
  | _ :: l, _, _ => crF_bd l _ (crS_bd _ _)
theorem crL_bd (l : List Int) : crL l < 32768 := crF_bd l 0 (by decide)
theorem xor_top : ∀ s, s < 32768 → s ^^^ 16384 = if s < 16384 then s + 16384 else s - 16384 := by
  have h : (List.range 32768).all (fun s => (s ^^^ 16384) == if s < 16384 then s + 16384 else s - 16384) = true := by decide +kernel
  intro s hs
  have := List.all_eq_true.1 h s (List.mem_range.2 hs)
  exact eq_of_beq this
end Go.Proofs.YtplpggcbpcebcaaDoor
