/- Numbers out of bits: both sides. -/
import Derived.Test.YtplpggcbpcebcaaDoorFcQ
namespace Go.Proofs.YtplpggcbpcebcaaDoor
open Go.RowKit
theorem or_i64 (n b : Nat) (hn : n < 65536) (hb : b < 2) : bits .or .i64 ((n : Int) * 2) (b : Int) = ((2 * n + b : Nat) : Int) := by
  have h1 : (BitVec.ofInt 64 ((n * 2 : Nat) : Int)).toNat = n * 2 := by
    rw [BitVec.ofInt_natCast, BitVec.toNat_ofNat]; exact Nat.mod_eq_of_lt (by omega)
  have h2 : (BitVec.ofInt 64 (b : Int)).toNat = b := by
    rw [BitVec.ofInt_natCast, BitVec.toNat_ofNat]; exact Nat.mod_eq_of_lt (by omega)
  have e : (n : Int) * 2 = ((n * 2 : Nat) : Int) := by omega
  have k := Nat.two_pow_add_eq_or_of_lt (i := 1) (b := b) (by omega) n
  rw [e]
  show IntKind.i64.wrap ((BitVec.ofInt 64 ((n * 2 : Nat) : Int) ||| BitVec.ofInt 64 (b : Int)).toNat : Int) = _
  rw [BitVec.toNat_or, h1, h2, Nat.mul_comm n 2, show 2 * n ||| b = 2 * n + b from k.symm, IntKind.wrap_i64]
  omega
theorem bt_ext (s : ByteArray) (lo hi i : Nat) (h : hi ≤ s.size) (hi2 : lo + i < hi) : bt (s.extract lo hi) i = bt s (lo + i) := by
  have hs : i < (s.extract lo hi).size := by rw [ByteArray.size_extract]; omega
  rw [bt_at _ i hs, bt_at s (lo + i) (by omega)]
  congr 2
  exact ByteArray.getElem_extract hs
theorem nm_ext (s : ByteArray) (lo n : Nat) (h : lo + n ≤ s.size) : nmK (bt (s.extract lo (lo + n))) 0 n = nmK (bt s) lo n :=
  nmK_congr n (fun i hi => by rw [Nat.zero_add, bt_ext s lo (lo + n) i h (by omega)])
set_option maxHeartbeats 4000000 in
theorem sTake (s : ByteArray) (a n : Nat) (w : World) (hs : s.size ≤ 1000) (ha : a + n ≤ s.size) (hn : n ≤ 15) (hb : ∀ i, i < s.size → bt s i = 48 ∨ bt s i = 49) :
    Calls Tryd.prog 42 #[.string s, .int .i64 (a : Int), .int .i64 (n : Int)] w fun e w' => e = .returned (.int .i64 (nmK (bt s) a n : Nat)) ∧ w' = w := by
  have HB : Hid (∀ i, i < s.size → bt s i = 48 ∨ bt s i = 49) := hb
  have hix := fun i hi w => ix_bt (P := Tryd.prog) Tryd.underlying9 s i hi w
  clear hb
  go_enter Tryd.func42, Tryd.ntmps42
  go_wp2
  go_loopw [7, 8] (fun v i wr => ∃ (k M : Nat), k ≤ n ∧ v = .int .i64 (M : Int) ∧ i = .int .i64 ((a : Int) + (k : Int)) ∧ Hid (M = nmK (bt s) a k) ∧ wr = w) (fun _ i _ => (a : Int).toNat + n - (intOf i).toNat)
  case atStart => exact ⟨0, 0, Nat.zero_le _, rfl, by simp, (rfl : 0 = nmK (bt s) a 0), rfl⟩
  case round =>
    obtain ⟨k, M, hk, rfl, rfl, HM, hw⟩ := hrel
    have hw' := hw.symm
    clear hw
    subst hw'
    have hMb : M < 32768 := by
      rw [HM.out]
      exact Nat.lt_of_lt_of_le (nmK_bd k (fun i hi => HB.out _ (by omega))) (Nat.pow_le_pow_right (n := 2) (by decide) (show k ≤ 15 by omega))
    by_cases hl : k < n
    · have y0 := hix (a + k) (by omega)
      have hbit := HB.out (a + k) (by omega)
      have c0 : ((a + k : Nat) : Int) = (a : Int) + (k : Int) := by omega
      rw [c0] at y0
      have j0 : (0 : Int) ≤ (a : Int) + (k : Int) := by omega
      have j1 : (a : Int) + (k : Int) < (a : Int) + (n : Int) := by omega
      obtain ⟨b, hb2, hbx⟩ : ∃ b : Nat, b < 2 ∧ bt s (a + k) = 48 + (b : Int) := by
        rcases hbit with hx | hx
        · exact ⟨0, by omega, by rw [hx]; rfl⟩
        · exact ⟨1, by omega, by rw [hx]; rfl⟩
      rw [hbx] at y0
      have HN : Hid (2 * M + b = nmK (bt s) a (k + 1)) := by show _ = _; rw [nmK, hbx, ← HM.out]; omega
      clear HM hbit hbx c0
      rcases (show b = 0 ∨ b = 1 by omega) with rfl | rfl
      · have y1 : ∀ w : World, (Instr.index 9 (.string s) (.int .i64 ((a : Int) + (k : Int)))).run Tryd.prog w = .ok (.int .u8 48) w := y0
        clear y0 hix
        go_wp2
        exact ⟨⟨k + 1, 2 * M + 0, by omega, by congr 1; omega, by congr 1, HN, by first | trivial | rfl⟩, by simp [intOf]; omega⟩
      · have y1 : ∀ w : World, (Instr.index 9 (.string s) (.int .i64 ((a : Int) + (k : Int)))).run Tryd.prog w = .ok (.int .u8 49) w := y0
        clear y0 hix
        go_wp2
        exact ⟨⟨k + 1, 2 * M + 1, by omega, by congr 1; omega, by congr 1, HN, by first | trivial | rfl⟩, by simp [intOf]; omega⟩
    · have hke : k = n := by omega
      have HR : Hid ((M : Int) = (nmK (bt s) a n : Nat)) := by show _ = _; rw [HM.out, hke]
      have j1 : ¬ (a : Int) + (k : Int) < (a : Int) + (n : Int) := by omega
      clear HM hke HB
      go_wp2
      go_ret
      exact ⟨ret_int HR.out, rfl⟩
set_option maxHeartbeats 2000000 in
theorem numBits (s : ByteArray) (w : World) (hs : s.size ≤ 15) (hb : ∀ i, i < s.size → bt s i = 48 ∨ bt s i = 49) :
    Calls Tryd.prog 30 #[.string s] w fun e w' => e = .returned (.int .i64 (nmK (bt s) 0 s.size : Nat)) ∧ Below w.heap.size w w' := by
  obtain ⟨c, w3, hrun, hsz, hB3, hc⟩ := run_bytes s w
  have HB : Hid (∀ i, i < s.size → bt s i = 48 ∨ bt s i = 49) := hb
  have HC : Hid (∀ i, i < s.size → w3.cell? ⟨w.heap.size, i, none⟩ = some (.int .u8 (bt s i))) := hc
  have hlt : w.heap.size < w3.heap.size := by omega
  clear hb hc hsz
  go_enter Tryd.func30, Tryd.ntmps30
  go_wp2
  go_loopw [3, 9] (fun v i wr => ∃ (k M : Nat), k ≤ s.size ∧ v = .int .i64 (M : Int) ∧ i = .int .i64 (k : Int) ∧ Hid (M = nmK (bt s) 0 k) ∧ wr = w3) (fun _ i _ => s.size - (intOf i).toNat)
  case atStart => exact ⟨0, 0, Nat.zero_le _, rfl, rfl, (rfl : 0 = nmK (bt s) 0 0), rfl⟩
  case round =>
    obtain ⟨k, M, hk, rfl, rfl, HM, hw⟩ := hrel
    have hw' := hw.symm
    clear hw
    subst hw'
    have hMb : M < 32768 := by
      rw [HM.out]
      exact Nat.lt_of_lt_of_le (nmK_bd k (fun i hi => HB.out _ (by omega))) (Nat.pow_le_pow_right (n := 2) (by decide) (show k ≤ 15 by omega))
    by_cases hl : k < s.size
    · have y0 := HC.out k hl
      have hbit := HB.out k hl
      have j0 : (0 : Int) ≤ (k : Int) := by omega
      have j1 : (k : Int) < (s.size : Int) := by omega
      obtain ⟨b, hb2, hbx⟩ : ∃ b : Nat, b < 2 ∧ bt s k = 48 + (b : Int) := by
        rcases hbit with hx | hx
        · exact ⟨0, by omega, by rw [hx]; rfl⟩
        · exact ⟨1, by omega, by rw [hx]; rfl⟩
      rw [hbx] at y0
      have HN : Hid (2 * M + b = nmK (bt s) 0 (k + 1)) := by show _ = _; rw [nmK, Nat.zero_add, hbx, ← HM.out]; omega
      have ho := or_i64 M b (by omega) hb2
      clear HM hbit hbx
      generalize 2 * M + b = Z at *
      rcases (show b = 0 ∨ b = 1 by omega) with rfl | rfl
      · have y1 : w3.cell? ⟨w.heap.size, k, none⟩ = some (.int .u8 48) := y0
        have ho1 : bits .or .i64 ((M : Int) * 2) 0 = (Z : Int) := ho
        clear y0 ho
        go_wp2
        exact ⟨⟨k + 1, Z, by omega, rfl, by go_num, HN, by first | trivial | rfl⟩, by simp [intOf]; omega⟩
      · have y1 : w3.cell? ⟨w.heap.size, k, none⟩ = some (.int .u8 49) := y0
        have ho1 : bits .or .i64 ((M : Int) * 2) 1 = (Z : Int) := ho
        clear y0 ho
        go_wp2
        exact ⟨⟨k + 1, Z, by omega, rfl, by go_num, HN, by first | trivial | rfl⟩, by simp [intOf]; omega⟩
    · have hke : k = s.size := by omega
      have HR : Hid ((M : Int) = (nmK (bt s) 0 s.size : Nat)) := by show _ = _; rw [HM.out, hke]
      have j1 : ¬ (k : Int) < (s.size : Int) := by omega
      clear HM hke HC HB
      go_wp2
      go_ret
      exact ⟨ret_int HR.out, hB3⟩
end Go.Proofs.YtplpggcbpcebcaaDoor
