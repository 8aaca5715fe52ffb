/- A number to the base 2: the walk. -/
import Derived.Test.YtplpggcbpcebcaaDoorFbF
import Derived.Laws.IdiomStrings
import Derived.Laws.Concat
namespace Go.Proofs.YtplpggcbpcebcaaDoor
open Go.RowKit
theorem ba_ext' {x y : ByteArray} (h : x.toList = y.toList) : x = y := by
  rw [ByteArray.toList_eq, ByteArray.toList_eq] at h
  cases x; cases y
  simp only [ByteArray.mk.injEq]
  exact Array.toList_inj.mp h
/-- how many bits are told of v -/
def NbOf (v K : Nat) : Prop := 1 ≤ K ∧ K ≤ 15 ∧ v < 2 ^ K ∧ (K = 1 ∨ 2 ^ (K - 1) ≤ v)
theorem made_buf (v : Nat) (w : World) : VP (w.alloc (.cells Tryd.zeroCells108 108)) w.heap.size 65 (bfF v 0) := by
  have e : Tryd.zeroCells108 = Array.replicate 65 (.int .u8 0) := by kernel_rfl
  rw [e]
  have hr := World.rowIs_alloc w (Array.replicate 65 (.int .u8 0)) 108 (fun _ => .int .u8 0) (by intro i hi; simp at hi; simp [hi])
  have hq := vp_row hr
  refine ⟨hq.lt, fun i hi => ?_, hq.fz⟩
  rw [hq.c i (by simpa using hi)]
  unfold bfF
  rw [if_neg (by omega)]
theorem low_text {w : World} {b v k : Nat} (h : VP w b 65 (bfF v k)) (hk : k ≤ 65) (c : Nat) : (convert 22 9 (.slice (some ⟨b, 65 - k, none⟩) k c)).run Tryd.prog w = .ok (.string (strOfNums (lowL v k))) w := by
  refine run_convert_bytes_arg _ 22 5 Tryd.underlying22 Tryd.underlying5 b (65 - k) k c (lowL v k) (by simp [lowL]) (fun i hi => ?_) 9 Tryd.underlying9
  obtain ⟨x, e1, e2⟩ := low_row h hk i (by simpa [lowL] using hi)
  rw [e2]; simp [List.getD, e1]
theorem sl65 (B k : Nat) (hk : k ≤ 64) (w : World) : (Instr.sliceAt 108 (.pointer (some ⟨B, 0, none⟩)) (some (.int .i64 (65 - (k : Int) - 1))) none none).run Tryd.prog w = .ok (.slice (some ⟨B, 64 - k, none⟩) (k + 1) (k + 1)) w := by
  have hal : Tryd.prog.arrayLen 108 = 65 := by kernel_rfl
  have hel : Tryd.prog.elem 108 = 5 := by kernel_rfl
  have ht : Tryd.prog.underlying 108 = some (.array (Tryd.prog.arrayLen 108) (Tryd.prog.elem 108)) := by rw [hal, hel]; exact Tryd.underlying108
  rw [run_sliceAt_array_l w 108 ⟨B, 0, none⟩ ht .i64 _ (by omega) (by rw [hal]; omega), hel, Tryd.sizeOf5, hal]
  show Result.ok (slicedAt ⟨B, 0, none⟩ (65 - (k : Int) - 1).toNat 65 65 1) w = _
  have e : (65 - (k : Int) - 1).toNat = 64 - k := by omega
  rw [e]
  unfold slicedAt
  rw [if_neg (by omega), Addr.add_lit, show 65 - (64 - k) = k + 1 by omega]
  simp
set_option maxRecDepth 20000 in
set_option maxHeartbeats 4000000 in
theorem fmtBits (v : Nat) (hv : v < 32768) (w : World) (hD : Db w) :
    Calls Tryd.prog 78 #[.slice none 0 0, .int .u64 (v : Int), .int .i64 2, .bool false, .bool false] w fun e w' => (∃ K, NbOf v K ∧ e = .returned (.tuple #[.slice none 0 0, .string (strOfNums (lowL v K))])) ∧ Below w.heap.size w w' := by
  have hP0 := made_buf v w
  have hb0 : Below w.heap.size w (w.alloc (.cells Tryd.zeroCells108 108)) := (Below.refl _ _).alloc (Nat.le_refl _) _
  go_enter Tryd.func78, Tryd.ntmps78
  go_upto_region 7 with fail
  have kP := pw2 (w.alloc (.cells Tryd.zeroCells108 108))
  have kT := tz (w.alloc (.cells Tryd.zeroCells108 108)) (hD.on hb0)
  generalize w.alloc (.cells Tryd.zeroCells108 108) = w1 at *
  go_upto_region 8 with (first | (go_at_call 91; refine kP.mono ?_; rintro e w9 ⟨rfl, hw9⟩; have hs' := hw9.symm; clear hw9; subst hs') | fail)
  go_wp2_with (first | (go_at_call 92; refine kT.mono ?_; rintro e w9 ⟨rfl, hw9⟩; have hs' := hw9.symm; clear hw9; subst hs') | fail)
  clear kP kT
  go_loopw [1, 13] (fun u i wr => ∃ (k U : Nat), k ≤ 14 ∧ u = .int .u64 (U : Int) ∧ i = .int .i64 (65 - (k : Int)) ∧ Hid (U = v / 2 ^ k) ∧ Hid (k = 0 ∨ 2 ^ k ≤ v) ∧ VP wr w.heap.size 65 (bfF v k) ∧ Below w.heap.size w wr) (fun u _ _ => (intOf u).toNat)
  case atStart => exact ⟨0, v, by omega, rfl, by simp, (by show v = v / 2 ^ 0; simp), .inl rfl, hP0, hb0⟩
  case round =>
    obtain ⟨k, U, hk, rfl, rfl, HU, HK, hP, hB⟩ := hrel
    clear hP0 hb0
    have hUb : U < 32768 := by rw [HU.out]; exact Nat.lt_of_le_of_lt (Nat.div_le_self _ _) hv
    have ha := and1 U hUb
    have hdg : dgt v k = 48 + ((U % 2 : Nat) : Int) := by unfold dgt; rw [← HU.out]
    have hSt := bfF_step hP (by omega)
    have hSt' := hSt
    have hBt := hB.setCell (p := ⟨w.heap.size, 64 - k, none⟩) (Nat.le_refl _) (.int .u8 (dgt v k))
    have y0 := hP.c (64 - k) (by omega)
    have y1 := hP.fz (64 - k)
    have y2 := hP.lt
    rw [hdg] at hSt hBt
    clear hdg
    have jk : ((65 : Int) - (k : Int) - 1).toNat = 64 - k := by omega
    have jk0 : (0 : Int) ≤ 65 - (k : Int) - 1 := by omega
    have jk1 : (65 : Int) - (k : Int) - 1 < 65 := by omega
    by_cases h2 : 2 ≤ U
    · have hk13 : k + 1 ≤ 14 := by
        have q : 2 ^ (k + 1) ≤ v := by
          have := HU.out
          rw [this] at h2
          have := (Nat.le_div_iff_mul_le (Nat.pow_pos (by decide))).1 h2
          rw [Nat.pow_succ]; omega
        rcases Nat.lt_or_ge k 14 with h | h
        · omega
        · have := Nat.pow_le_pow_right (n := 2) (by decide) (show 15 ≤ k + 1 by omega)
          omega
      have HU2 : Hid (U / 2 = v / 2 ^ (k + 1)) := by show _ = _; rw [HU.out, Nat.div_div_eq_div_mul, Nat.pow_succ]
      have HK2 : Hid (k + 1 = 0 ∨ 2 ^ (k + 1) ≤ v) := by
        right
        have := HU.out
        rw [this] at h2
        have := (Nat.le_div_iff_mul_le (Nat.pow_pos (by decide))).1 h2
        rw [Nat.pow_succ]; omega
      have i2 : (2 : Int) ≤ (U : Int) := by omega
      clear HU HK
      rcases Nat.mod_two_eq_zero_or_one U with hm | hm
      · rw [hm] at ha hSt hBt
        simp only [Int.add_zero, Int.natCast_zero] at ha hSt hBt
        go_wp2
        exact ⟨⟨k + 1, U / 2, hk13, by simp, by congr 1; omega, HU2, HK2, hSt, hBt⟩, by simp [intOf]; omega⟩
      · rw [hm] at ha hSt hBt
        have e49 : (48 : Int) + ((1 : Nat) : Int) = 49 := rfl
        rw [e49] at hSt hBt
        go_wp2
        exact ⟨⟨k + 1, U / 2, hk13, by simp, by congr 1; omega, HU2, HK2, hSt, hBt⟩, by simp [intOf]; omega⟩
    · have hU1 : U = 0 ∨ U = 1 := by omega
      have HN : Hid (NbOf v (k + 1)) := by
        have q1 : v < 2 ^ (k + 1) := by
          have := HU.out
          have h3 : v / 2 ^ k < 2 := by omega
          have := (Nat.div_lt_iff_lt_mul (Nat.pow_pos (by decide))).1 h3
          rw [Nat.pow_succ]; omega
        exact ⟨by omega, by omega, q1, by rcases HK.out with h | h; exact .inl (by omega); exact .inr (by simpa using h)⟩
      have hT := low_text hSt (by omega) (k + 1)
      rw [show 65 - (k + 1) = 64 - k by omega] at hT
      have i2 : ¬ (2 : Int) ≤ (U : Int) := by omega
      clear HU HK hSt' ha
      have hsl : ∀ w2 : World, (Instr.sliceAt 108 (.pointer (some ⟨w.heap.size, 0, none⟩)) (some (.int .i64 (65 - (k : Int) - 1))) none none).run Tryd.prog w2 = .ok (.slice (some ⟨w.heap.size, 64 - k, none⟩) (k + 1) (k + 1)) w2 := fun w2 => sl65 w.heap.size k (by omega) w2
      have HA : Hid (∀ w2 : World, Below w.heap.size w w2 → (∃ K, NbOf v K ∧ Ending.returned (.tuple #[.slice none 0 0, .string (strOfNums (lowL v (k + 1)))]) = .returned (.tuple #[.slice none 0 0, .string (strOfNums (lowL v K))])) ∧ Below w.heap.size w w2) := fun w2 h => ⟨⟨k + 1, HN.out, rfl⟩, h⟩
      clear HN
      generalize strOfNums (lowL v (k + 1)) = T at *
      rcases hU1 with rfl | rfl
      · have hT' : (convert 22 9 (.slice (some ⟨w.heap.size, 64 - k, none⟩) (k + 1) (k + 1))).run Tryd.prog (wr.setCell ⟨w.heap.size, 64 - k, none⟩ (.int .u8 48)) = .ok (.string T) (wr.setCell ⟨w.heap.size, 64 - k, none⟩ (.int .u8 48)) := hT
        have hB' : Below w.heap.size w (wr.setCell ⟨w.heap.size, 64 - k, none⟩ (.int .u8 48)) := hBt
        clear hT hBt hSt
        go_upto_region 25 with fail
        show Code.wp _ _ _ _ (wr.setCell ⟨w.heap.size, 64 - k, none⟩ (.int .u8 48))
        generalize wr.setCell ⟨w.heap.size, 64 - k, none⟩ (.int .u8 48) = w8 at *
        go_wp2
        go_ret2
        exact HA.out _ hB'
      · have hT' : (convert 22 9 (.slice (some ⟨w.heap.size, 64 - k, none⟩) (k + 1) (k + 1))).run Tryd.prog (wr.setCell ⟨w.heap.size, 64 - k, none⟩ (.int .u8 49)) = .ok (.string T) (wr.setCell ⟨w.heap.size, 64 - k, none⟩ (.int .u8 49)) := hT
        have hB' : Below w.heap.size w (wr.setCell ⟨w.heap.size, 64 - k, none⟩ (.int .u8 49)) := hBt
        clear hT hBt hSt
        go_upto_region 25 with fail
        show Code.wp _ _ _ _ (wr.setCell ⟨w.heap.size, 64 - k, none⟩ (.int .u8 49))
        generalize wr.setCell ⟨w.heap.size, 64 - k, none⟩ (.int .u8 49) = w8 at *
        go_wp2
        go_ret2
        exact HA.out _ hB'
set_option maxHeartbeats 1000000 in
theorem fmtInt0 (v : Nat) (hv : v < 32768) (w : World) (hD : Db w) :
    Calls Tryd.prog 58 #[.int .i64 (v : Int), .int .i64 2] w fun e w' => (∃ K, NbOf v K ∧ e = .returned (.string (strOfNums (lowL v K)))) ∧ Below w.heap.size w w' := by
  have k := fmtBits v hv w hD
  have i0 : (0 : Int) ≤ (v : Int) := by omega
  have i1 : ¬ (v : Int) < 0 := by omega
  have e1 : IntKind.u64.wrap (v : Int) = (v : Int) := by rw [IntKind.wrap_u64]; omega
  go_enter Tryd.func58, Tryd.ntmps58
  go_wp2_with fail
  refine k.mono ?_
  rintro e w2 ⟨⟨K, hK, rfl⟩, hb2⟩
  have HK : Hid (NbOf v K) := hK
  have HA : Hid (∃ K', NbOf v K' ∧ Ending.returned (.string (strOfNums (lowL v K))) = .returned (.string (strOfNums (lowL v K')))) := ⟨K, hK, rfl⟩
  clear k hK
  generalize strOfNums (lowL v K) = T at *
  go_wp2
  go_ret
  exact ⟨HA.out, hb2⟩
set_option maxHeartbeats 1000000 in
theorem fmtInt (v : Nat) (hv : v < 32768) (w : World) (hD : Db w) :
    Calls Tryd.prog 47 #[.int .i64 (v : Int), .int .i64 2] w fun e w' => (∃ K, NbOf v K ∧ e = .returned (.string (strOfNums (lowL v K)))) ∧ Below w.heap.size w w' := by
  have k := fmtInt0 v hv w hD
  go_enter Tryd.func47, Tryd.ntmps47
  go_wp2_with fail
  refine k.mono ?_
  rintro e w2 ⟨⟨K, hK, rfl⟩, hb2⟩
  have HA : Hid (∃ K', NbOf v K' ∧ Ending.returned (.string (strOfNums (lowL v K))) = .returned (.string (strOfNums (lowL v K')))) := ⟨K, hK, rfl⟩
  clear k hK
  generalize strOfNums (lowL v K) = T at *
  go_wp2
  go_ret
  exact ⟨HA.out, hb2⟩
theorem nb_le {v K n : Nat} (h : NbOf v K) (hn : 1 ≤ n) (hv : v < 2 ^ n) : K ≤ n := by
  obtain ⟨h1, h2, h3, h4⟩ := h
  rcases h4 with h4 | h4
  · omega
  · rcases Nat.lt_or_ge n K with q | q
    · have := Nat.pow_le_pow_right (n := 2) (by decide) (show n ≤ K - 1 by omega)
      omega
    · exact q
theorem str_rep (d : Nat) : (⟨(Lib.repeatL (⟨#[48]⟩ : ByteArray).data.toList d).toArray⟩ : ByteArray) = strOfNums (List.replicate d 48) := by
  unfold strOfNums
  congr 2
  induction d with
  | zero => rfl
  | succ d ih => rw [List.replicate_succ, List.map_cons, ← ih]; rfl
theorem str_app (a b : List Int) : strOfNums a ++ strOfNums b = strOfNums (a ++ b) := by
  apply ba_ext'
  simp [strOfNums, ByteArray.toList_eq]
set_option maxHeartbeats 1000000 in
theorem bitsOf_any (v n : Nat) (hn : 1 ≤ n) (hn2 : n ≤ 15) (hv : v < 2 ^ n) (w : World) (hD : Db w) :
    Calls Tryd.prog 25 #[.int .i64 (v : Int), .int .i64 (n : Int)] w fun e w' => e = .returned (.string (strOfNums (bitL v n))) ∧ Below w.heap.size w w' := by
  have hv2 : v < 32768 := Nat.lt_of_lt_of_le hv (Nat.pow_le_pow_right (n := 2) (by decide) hn2)
  have k := fmtInt v hv2 w hD
  obtain ⟨Z, hZ⟩ : ∃ Z, strOfNums (bitL v n) = Z := ⟨_, rfl⟩
  rw [hZ]
  go_enter Tryd.func25, Tryd.ntmps25
  go_wp2_with fail
  refine k.mono ?_
  rintro e w2 ⟨⟨K, hK, rfl⟩, hb2⟩
  have hle := nb_le hK hn hv
  have hsz : (strOfNums (lowL v K)).size = K := by rw [strOfNums_size]; simp [lowL]
  have kR := Tryd.strings_Repeat ⟨#[48]⟩ (n - K) w2 (by omega) (by show 1 * (n - K) ≤ _; omega)
  rw [str_rep, show ((n - K : Nat) : Int) = (n : Int) - (K : Int) by omega] at kR
  have HR : Hid (strOfNums (List.replicate (n - K) 48) ++ strOfNums (lowL v K) = strOfNums (bitL v n)) := by
    show _ = _
    rw [str_app, lowL_put, bits_pad hK.2.2.1, show K + (n - K) = n by omega]
  have hadd : ∀ w : World, (Op.stringOp .add (strOfNums (List.replicate (n - K) 48)) (strOfNums (lowL v K))).run Tryd.prog w = .ok (.string Z) w := fun w => by
    rw [← hZ, ← HR.out]
    exact run_string_add_sum _ _ _ (by rw [hsz, strOfNums_size, List.length_replicate]; omega)
  clear k hK HR hZ
  generalize strOfNums (lowL v K) = T at *
  generalize strOfNums (List.replicate (n - K) 48) = R at *
  subst hsz
  go_wp2_with fail
  refine kR.mono ?_
  rintro e w3 ⟨rfl, hb3⟩
  go_wp2
  go_ret
  exact ⟨rfl, stepA hb2 hb3⟩
end Go.Proofs.YtplpggcbpcebcaaDoor
