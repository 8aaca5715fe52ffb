/- The sum of bits: both sides. -/
import Derived.Test.YtplpggcbpcebcaaDoorFbG
import Derived.Test.YtplpggcbpcebcaaDoorSfW
import Derived.Laws.Bits64
namespace Go.Proofs.YtplpggcbpcebcaaDoor
open Go.RowKit
theorem xor_i64 (a b : Nat) (ha : a < 65536) (hb : b < 65536) : bits .xor .i64 (a : Int) (b : Int) = ((a ^^^ b : Nat) : Int) := by
  have hx : a ^^^ b < 2 ^ 16 := Nat.xor_lt_two_pow (by omega) (by omega)
  have h1 : (BitVec.ofInt 64 (a : Int)).toNat = a := by
    rw [BitVec.ofInt_natCast, BitVec.toNat_ofNat]; exact Nat.mod_eq_of_lt (by omega)
  have h2 : (BitVec.ofInt 64 (b : Int)).toNat = b := by
    rw [BitVec.ofInt_natCast, BitVec.toNat_ofNat]; exact Nat.mod_eq_of_lt (by omega)
  show IntKind.i64.wrap ((BitVec.ofInt 64 (a : Int) ^^^ BitVec.ofInt 64 (b : Int)).toNat : Int) = _
  rw [BitVec.toNat_xor, h1, h2, IntKind.wrap_i64]
  omega
theorem and_i64 (y : Nat) (h : y < 1048576) : bits .and .i64 (y : Int) 32767 = ((y % 32768 : Nat) : Int) := by
  have k := bits_mask .i64 62 (by decide) (fun n h0 h1 => by rw [IntKind.wrap_i64]; omega) 15 (by decide) (y : Int) (by omega) (by omega)
  have e : ((2 : Int) ^ 15 - 1) = 32767 := by decide
  have e2 : ((2 : Int) ^ 15) = 32768 := by decide
  rw [e, e2] at k
  rw [k]; omega
theorem and1_i64 (y : Nat) (h : y < 1048576) : bits .and .i64 (y : Int) 1 = ((y % 2 : Nat) : Int) := by
  have k := bits_mask .i64 62 (by decide) (fun n h0 h1 => by rw [IntKind.wrap_i64]; omega) 1 (by decide) (y : Int) (by omega) (by omega)
  have e : ((2 : Int) ^ 1 - 1) = 1 := by decide
  have e2 : ((2 : Int) ^ 1) = 2 := by decide
  rw [e, e2] at k
  rw [k]; omega
/-- a bit 0 into a sum -/
def shS (s : Nat) : Nat := if 32767 < s * 2 then (s * 2 % 32768) ^^^ 17817 else s * 2
theorem sh_cr (r b : Nat) (hr : r < 32768) (hb : b < 2) : shS (r ^^^ (b * 16384)) = crS r b := by
  rcases (show b = 0 ∨ b = 1 by omega) with rfl | rfl
  · rw [Nat.zero_mul, Nat.xor_zero]
    unfold shS crS
    by_cases h : 32767 < r * 2
    · rw [if_pos h, if_pos (by omega)]
    · rw [if_neg h, if_neg (by omega), Nat.mod_eq_of_lt (by omega)]
  · rw [Nat.one_mul, xor_top r hr]
    unfold shS crS
    by_cases h : r < 16384
    · rw [if_pos h, if_pos (by omega), if_pos (by omega)]
      rw [show (r + 16384) * 2 % 32768 = r * 2 % 32768 by omega]
    · rw [if_neg h, if_neg (by omega), if_neg (by omega)]
      omega
/-- the sum of the first k bytes -/
def crK (f : Nat → Int) : Nat → Nat
  | 0 => 0
  | k + 1 => crS (crK f k) (f k - 48).toNat
theorem crK_bd (f : Nat → Int) : ∀ k, crK f k < 32768
  | 0 => (show (0 : Nat) < 32768 by omega)
  | _ + 1 => crS_bd _ _
set_option maxHeartbeats 1000000 in
theorem shift_any (s : Nat) (hs : s < 32768) (w : World) : Calls Tryd.prog 49 #[.int .i64 (s : Int)] w fun e w' => e = .returned (.int .i64 (shS s : Nat)) ∧ w' = w := by
  have i0 : (0 : Int) ≤ (s : Int) := by omega
  have i1 : (s : Int) < 32768 := by omega
  by_cases h : 32767 < s * 2
  · have h1 := and_i64 (s * 2) (by omega)
    have h2 : bits .xor .i64 ((s * 2 % 32768 : Nat) : Int) 17817 = (((s * 2 % 32768) ^^^ 17817 : Nat) : Int) := xor_i64 (s * 2 % 32768) 17817 (by omega) (by omega)
    have hv : shS s = (s * 2 % 32768) ^^^ 17817 := by unfold shS; rw [if_pos h]
    have HV : Hid ((((s * 2 % 32768) ^^^ 17817 : Nat) : Int) = (shS s : Nat)) := by show _ = _; rw [hv]
    generalize (s * 2 % 32768) ^^^ 17817 = X at *
    generalize s * 2 % 32768 = Y at *
    have c1 : ((s * 2 : Nat) : Int) = (s : Int) * 2 := by omega
    rw [c1] at h1
    clear c1 hv
    have j : (32767 : Int) < (s : Int) * 2 := by omega
    go_enter Tryd.func49, Tryd.ntmps49
    go_wp2
    go_ret
    exact ⟨ret_int HV.out, rfl⟩
  · have hv : shS s = s * 2 := by unfold shS; rw [if_neg h]
    have HV : Hid ((s : Int) * 2 = (shS s : Nat)) := by show _ = _; rw [hv]; omega
    clear hv
    have j : ¬ (32767 : Int) < (s : Int) * 2 := by omega
    go_enter Tryd.func49, Tryd.ntmps49
    go_wp2
    go_ret
    exact ⟨ret_int HV.out, rfl⟩
set_option maxHeartbeats 2000000 in
theorem sumOf_any (s : ByteArray) (w : World) (hs : s.size ≤ 1000) (hb : ∀ i, i < s.size → bt s i = 48 ∨ bt s i = 49) :
    Calls Tryd.prog 26 #[.string s] w fun e w' => e = .returned (.int .i64 (crK (bt s) s.size : Nat)) ∧ Below w.heap.size w w' := by
  obtain ⟨c, w3, hrun, hsz, hB3, hc⟩ := run_bytes s w
  have HB : Hid (∀ i, i < s.size → bt s i = 48 ∨ bt s i = 49) := hb
  have HC : Hid (∀ i, i < s.size → w3.cell? ⟨w.heap.size, i, none⟩ = some (.int .u8 (bt s i))) := hc
  have hlt : w.heap.size < w3.heap.size := by omega
  clear hb hc hsz
  go_enter Tryd.func26, Tryd.ntmps26
  go_wp2
  go_loopw [3, 9] (fun v i wr => ∃ (k M : Nat), k ≤ s.size ∧ v = .int .i64 (M : Int) ∧ i = .int .i64 (k : Int) ∧ Hid (M = crK (bt s) k) ∧ wr = w3) (fun _ i _ => s.size - (intOf i).toNat)
  case atStart => exact ⟨0, 0, Nat.zero_le _, rfl, rfl, (rfl : 0 = crK (bt s) 0), rfl⟩
  case round =>
    obtain ⟨k, M, hk, rfl, rfl, HM, hw⟩ := hrel
    have hw' := hw.symm
    clear hw
    subst hw'
    have hMb : M < 32768 := by rw [HM.out]; exact crK_bd _ _
    by_cases hl : k < s.size
    · have y0 := HC.out k hl
      have hbit := HB.out k hl
      have j0 : (0 : Int) ≤ (k : Int) := by omega
      have j1 : (k : Int) < (s.size : Int) := by omega
      have HN : Hid (crS M (bt s k - 48).toNat = crK (bt s) (k + 1)) := by show _ = _; rw [HM.out]; rfl
      clear HM
      rcases hbit with hx | hx
      · rw [hx] at y0 HN
        have kS := shift_any (M ^^^ 0 * 16384) (by simpa using hMb) w3
        rw [sh_cr M 0 hMb (by omega)] at kS
        have hxo : bits .xor .i64 (M : Int) 0 = ((M ^^^ 0 : Nat) : Int) := xor_i64 M 0 (by omega) (by omega)
        rw [Nat.zero_mul, Nat.xor_zero] at kS
        rw [Nat.xor_zero] at hxo
        rw [show ((48 : Int) - 48).toNat = 0 from rfl] at HN
        clear hx
        generalize crS M 0 = Z at *
        go_wp2_with (first | (go_at_call 49; refine kS.mono ?_; rintro e w9 ⟨rfl, hw9⟩; have hs' := hw9.symm; clear hw9; subst hs') | fail)
        exact ⟨⟨k + 1, Z, by omega, rfl, by go_num, HN, by first | trivial | rfl⟩, by simp [intOf]; omega⟩
      · rw [hx] at y0 HN
        have hxb : M ^^^ 16384 < 32768 := Nat.xor_lt_two_pow (n := 15) hMb (by decide)
        have kS := shift_any (M ^^^ 1 * 16384) (by simpa using hxb) w3
        rw [sh_cr M 1 hMb (by omega)] at kS
        have hxo : bits .xor .i64 (M : Int) 16384 = ((M ^^^ 16384 : Nat) : Int) := xor_i64 M 16384 (by omega) (by omega)
        rw [Nat.one_mul] at kS
        rw [show ((49 : Int) - 48).toNat = 1 from rfl] at HN
        clear hx
        generalize crS M 1 = Z at *
        generalize M ^^^ 16384 = X at *
        go_wp2_with (first | (go_at_call 49; refine kS.mono ?_; rintro e w9 ⟨rfl, hw9⟩; have hs' := hw9.symm; clear hw9; subst hs') | fail)
        exact ⟨⟨k + 1, Z, by omega, rfl, by go_num, HN, by first | trivial | rfl⟩, by simp [intOf]; omega⟩
    · have hke : k = s.size := by omega
      have HR : Hid ((M : Int) = (crK (bt s) s.size : Nat)) := by show _ = _; rw [HM.out, hke]
      have j1 : ¬ (k : Int) < (s.size : Int) := by omega
      clear HM hke HC HB
      go_wp2
      go_ret
      exact ⟨ret_int HR.out, hB3⟩
end Go.Proofs.YtplpggcbpcebcaaDoor
