/- The model's sum of bits, and numbers that it puts behind others. -/
import Derived.Test.YtplpggcbpcebcaaDoorFbS
namespace Go.Proofs.YtplpggcbpcebcaaDoor
open Go.RowKit
theorem xor_bit (p b : Nat) (hp : p < 2) (hb : b < 2) : p ^^^ b = (p + b) % 2 := by
  rcases (show p = 0 ∨ p = 1 by omega) with rfl | rfl <;> rcases (show b = 0 ∨ b = 1 by omega) with rfl | rfl <;> rfl
set_option maxHeartbeats 4000000 in
theorem sCrc (s : ByteArray) (w : World) (hs : s.size ≤ 1000) (hb : ∀ i, i < s.size → bt s i = 48 ∨ bt s i = 49) :
    Calls Tryd.prog 51 #[.string s] w fun e w' => e = .returned (.int .i64 (crK (bt s) s.size : Nat)) ∧ w' = w := by
  have HB : Hid (∀ i, i < s.size → bt s i = 48 ∨ bt s i = 49) := hb
  have hix := fun i hi w => ix_bt (P := Tryd.prog) Tryd.underlying9 s i hi w
  clear hb
  go_enter Tryd.func51, Tryd.ntmps51
  go_wp2
  go_loopw [3, 4] (fun v i wr => ∃ (k M : Nat), k ≤ s.size ∧ v = .int .i64 (M : Int) ∧ i = .int .i64 (k : Int) ∧ Hid (M = crK (bt s) k) ∧ wr = w) (fun _ i _ => s.size - (intOf i).toNat)
  case atStart => exact ⟨0, 0, Nat.zero_le _, rfl, rfl, (rfl : 0 = crK (bt s) 0), rfl⟩
  case round =>
    obtain ⟨k, M, hk, rfl, rfl, HM, hw⟩ := hrel
    have hw' := hw.symm
    clear hw
    subst hw'
    have hMb : M < 32768 := by rw [HM.out]; exact crK_bd _ _
    by_cases hl : k < s.size
    · have y0 := hix k hl
      have hbit := HB.out k hl
      have j0 : (0 : Int) ≤ (k : Int) := by omega
      have j1 : (k : Int) < (s.size : Int) := by omega
      have HN : Hid (crS M (bt s k - 48).toNat = crK (bt s) (k + 1)) := by show _ = _; rw [HM.out]; rfl
      have h14 := and1_i64 (M / 16384) (by omega)
      have c14 : ((M / 16384 : Nat) : Int) = (M : Int) / 16384 := by omega
      rw [c14] at h14
      have hsh := and_i64 (M * 2) (by omega)
      have csh : ((M * 2 : Nat) : Int) = (M : Int) * 2 := by omega
      rw [csh] at hsh
      have hp2 : M / 16384 % 2 < 2 := Nat.mod_lt _ (by decide)
      have hm2 : M * 2 % 32768 < 32768 := Nat.mod_lt _ (by decide)
      obtain ⟨b, hb2, hbx⟩ : ∃ b : Nat, b < 2 ∧ bt s k = 48 + (b : Int) := by
        rcases hbit with hx | hx
        · exact ⟨0, by omega, by rw [hx]; rfl⟩
        · exact ⟨1, by omega, by rw [hx]; rfl⟩
      rw [hbx] at y0 HN
      rw [show ((48 : Int) + (b : Int) - 48).toNat = b by omega] at HN
      have hxo := xor_i64 (M / 16384 % 2) b (by omega) (by omega)
      rw [xor_bit _ _ hp2 hb2] at hxo
      have hxt : bits .xor .i64 ((M * 2 % 32768 : Nat) : Int) 17817 = (((M * 2 % 32768) ^^^ 17817 : Nat) : Int) := xor_i64 (M * 2 % 32768) 17817 (by omega) (by omega)
      have HD : Hid (crS M b = if (M / 16384 % 2 + b) % 2 = 1 then (M * 2 % 32768) ^^^ 17817 else M * 2 % 32768) := rfl
      have eu : IntKind.u8.wrap (48 + (b : Int) - 48) = (b : Int) := by rw [IntKind.wrap_u8]; omega
      have i5 : (0 : Int) ≤ (M : Int) := by omega
      clear HM hbit hbx c14 csh hp2
      generalize hq : (M / 16384 % 2 + b) % 2 = q at *
      have hq2 : q < 2 := by omega
      clear hq
      generalize M / 16384 % 2 = p at *
      generalize (M * 2 % 32768) ^^^ 17817 = X at *
      generalize M * 2 % 32768 = Y at *
      rcases (show q = 0 ∨ q = 1 by omega) with rfl | rfl
      · rcases (show b = 0 ∨ b = 1 by omega) with rfl | rfl
        · skip
          have hxo' : bits .xor .i64 (p : Int) 0 = 0 := hxo
          have y1 : ∀ w : World, (Instr.index 9 (.string s) (.int .i64 (k : Int))).run Tryd.prog w = .ok (.int .u8 48) w := y0
          have HN2 : Hid (Y = crK (bt s) (k + 1)) := by show _ = _; rw [← HN.out, HD.out, if_neg (by decide)]
          clear HN HD hix y0 hxo eu
          go_wp2
          exact ⟨⟨k + 1, Y, by omega, rfl, by go_num, HN2, by first | trivial | rfl⟩, by simp [intOf]; omega⟩
        · skip
          have hxo' : bits .xor .i64 (p : Int) 1 = 0 := hxo
          have y1 : ∀ w : World, (Instr.index 9 (.string s) (.int .i64 (k : Int))).run Tryd.prog w = .ok (.int .u8 49) w := y0
          have HN2 : Hid (Y = crK (bt s) (k + 1)) := by show _ = _; rw [← HN.out, HD.out, if_neg (by decide)]
          clear HN HD hix y0 hxo eu
          go_wp2
          exact ⟨⟨k + 1, Y, by omega, rfl, by go_num, HN2, by first | trivial | rfl⟩, by simp [intOf]; omega⟩
      · rcases (show b = 0 ∨ b = 1 by omega) with rfl | rfl
        · skip
          have hxo' : bits .xor .i64 (p : Int) 0 = 1 := hxo
          have y1 : ∀ w : World, (Instr.index 9 (.string s) (.int .i64 (k : Int))).run Tryd.prog w = .ok (.int .u8 48) w := y0
          have HN2 : Hid (X = crK (bt s) (k + 1)) := by show _ = _; rw [← HN.out, HD.out, if_pos rfl]
          clear HN HD hix y0 hxo eu
          go_wp2
          exact ⟨⟨k + 1, X, by omega, rfl, by go_num, HN2, by first | trivial | rfl⟩, by simp [intOf]; omega⟩
        · skip
          have hxo' : bits .xor .i64 (p : Int) 1 = 1 := hxo
          have y1 : ∀ w : World, (Instr.index 9 (.string s) (.int .i64 (k : Int))).run Tryd.prog w = .ok (.int .u8 49) w := y0
          have HN2 : Hid (X = crK (bt s) (k + 1)) := by show _ = _; rw [← HN.out, HD.out, if_pos rfl]
          clear HN HD hix y0 hxo eu
          go_wp2
          exact ⟨⟨k + 1, X, by omega, rfl, by go_num, HN2, by first | trivial | rfl⟩, by simp [intOf]; omega⟩
    · have hke : k = s.size := by omega
      have HR : Hid ((M : Int) = (crK (bt s) s.size : Nat)) := by show _ = _; rw [HM.out, hke]
      have j1 : ¬ (k : Int) < (s.size : Int) := by omega
      clear HM hke HB
      go_wp2
      go_ret
      exact ⟨ret_int HR.out, rfl⟩
set_option maxRecDepth 20000 in
set_option maxHeartbeats 4000000 in
theorem sPut (base : Nat) (a : Option Addr) (c : Nat) (l : List Int) (v n : Nat) (w : World) (hv : v < 32768) (hn : n ≤ 15) (hl : l.length ≤ 1000) (hO : OwY w base (.slice a l.length c) l) (hbs : base ≤ w.heap.size) :
    Calls Tryd.prog 50 #[.slice a l.length c, .int .i64 (v : Int), .int .i64 (n : Int)] w fun e w' => (∃ a2 c2, e = .returned (.slice a2 (l ++ bitL v n).length c2) ∧ OwY w' base (.slice a2 (l ++ bitL v n).length c2) (l ++ bitL v n)) ∧ Below base w w' := by
  obtain ⟨i0, hi, hzz⟩ := Option.map_eq_some_iff.1 infoB8
  simp only [Prod.mk.injEq] at hzz
  obtain ⟨hz0, hz1, hz2⟩ := hzz
  have HS : Hid (∀ k, putL v n (k + 1) = putL v n k ++ [dgt v (n - 1 - k)]) := fun k => putL_step v n k
  have HL : Hid (∀ k, (putL v n k).length = k) := fun k => putL_len v n k
  go_enter Tryd.func50, Tryd.ntmps50
  go_wp2
  go_loopw [0, 7] (fun s i wr => ∃ (k : Nat) (o : List Int), k ≤ n ∧ s = s ∧ i = .int .i64 ((n : Int) - 1 - (k : Int)) ∧ Hid (o = l ++ putL v n k) ∧ OwY wr base s o ∧ Below base w wr) (fun _ i _ => (intOf i + 1).toNat)
  case atStart => exact ⟨0, l, Nat.zero_le _, rfl, by simp, (by show l = l ++ putL v n 0; simp [putL]), hO, Below.refl _ _⟩
  case round =>
    obtain ⟨k, o, hk, -, rfl, HO, hW, hB⟩ := hrel
    clear hO
    obtain ⟨sa, sc, rfl⟩ := hW.shape
    have hol : o.length ≤ 1015 := by rw [HO.out, List.length_append, HL.out k]; omega
    by_cases hlt : k < n
    · have j0 : (0 : Int) ≤ (n : Int) - 1 - (k : Int) := by omega
      have h1 := and1_i64 (v / 2 ^ (n - 1 - k)) (Nat.lt_of_le_of_lt (Nat.div_le_self _ _) (by omega))
      have cdiv : ((v / 2 ^ (n - 1 - k) : Nat) : Int) = (v : Int) / 2 ^ (n - 1 - k) := by rw [Int.natCast_ediv, Int.natCast_pow]; rfl
      rw [cdiv] at h1
      clear cdiv
      rcases Nat.mod_two_eq_zero_or_one (v / 2 ^ (n - 1 - k)) with hd | hd
      · have hx : dgt v (n - 1 - k) = 48 := by unfold dgt; rw [hd]; rfl
        have HO2 : Hid (o ++ [48] = l ++ putL v n (k + 1)) := by show _ = _; rw [HO.out, HS.out k, hx, List.append_assoc]
        have h1' : bits .and .i64 ((v : Int) / 2 ^ (n - 1 - k)) 1 = 0 := by rw [h1, hd]; rfl
        clear HO h1 hx hd
        go_wp2_with (first | (at_builtin; refine wpList_append_own _ rfl _ _ 22 rfl base 5 i0 (.int .u8 0) 1 1 Tryd.underlying22 hi hz0 hz1 hz2 rfl (by decide) _ _ _ rfl (hW.below ((Below.refl _ _).alloc (Nat.le_refl _) _)) ⟨wr.heap.size, 0, none⟩ 1 1 [.int .u8 48] rfl rfl (cell_one_new _ _ _) (fun y hy => by simp at hy; subst hy; rfl) (by unfold maxLen; omega) (by omega) (by have := hB.size; rw [size_al]; omega) ?_; intro v2 w2 hown2 hgrow2 _) | fail)
        have hB2 : Below base w w2 := (hB.alloc (Nat.le_trans hbs hB.size) _).grown hgrow2 (by rw [size_al]; have := hB.size; omega) (fun q hq => (World.ownsRow.lt hW q hq).1)
        exact ⟨⟨k + 1, o ++ [48], by omega, trivial, by go_num, HO2, hW.app hown2, hB2⟩, by simp [intOf]; omega⟩
      · have hx : dgt v (n - 1 - k) = 49 := by unfold dgt; rw [hd]; rfl
        have HO2 : Hid (o ++ [49] = l ++ putL v n (k + 1)) := by show _ = _; rw [HO.out, HS.out k, hx, List.append_assoc]
        have h1' : bits .and .i64 ((v : Int) / 2 ^ (n - 1 - k)) 1 = 1 := by rw [h1, hd]; rfl
        clear HO h1 hx hd
        go_wp2_with (first | (at_builtin; refine wpList_append_own _ rfl _ _ 22 rfl base 5 i0 (.int .u8 0) 1 1 Tryd.underlying22 hi hz0 hz1 hz2 rfl (by decide) _ _ _ rfl (hW.below ((Below.refl _ _).alloc (Nat.le_refl _) _)) ⟨wr.heap.size, 0, none⟩ 1 1 [.int .u8 49] rfl rfl (cell_one_new _ _ _) (fun y hy => by simp at hy; subst hy; rfl) (by unfold maxLen; omega) (by omega) (by have := hB.size; rw [size_al]; omega) ?_; intro v2 w2 hown2 hgrow2 _) | fail)
        have hB2 : Below base w w2 := (hB.alloc (Nat.le_trans hbs hB.size) _).grown hgrow2 (by rw [size_al]; have := hB.size; omega) (fun q hq => (World.ownsRow.lt hW q hq).1)
        exact ⟨⟨k + 1, o ++ [49], by omega, trivial, by go_num, HO2, hW.app hown2, hB2⟩, by simp [intOf]; omega⟩
    · have hke : k = n := by omega
      subst hke
      have e9 := HO.out
      subst e9
      clear HS HL HO
      go_wp2
      go_ret
      exact ⟨⟨sa, sc, rfl, hW⟩, hB⟩
end Go.Proofs.YtplpggcbpcebcaaDoor
