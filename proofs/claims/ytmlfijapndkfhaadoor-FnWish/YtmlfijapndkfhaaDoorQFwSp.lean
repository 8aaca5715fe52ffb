/- A text with some places spoilt, drawn. -/
import Derived.Test.YtmlfijapndkfhaaDoorQCurOf
import Derived.Test.YtmlfijapndkfhaaDoorQWhM
import Derived.Laws.IdiomStrings
import Derived.Laws.BytesArg
import Derived.BigQuiet
import Derived.Deep.Cut
namespace Go.Proofs.YtmlfijapndkfhaaDoor
open Go.RowKit
/-- some text, no longer than so much, was drawn -/
def AnsZ (w w' : World) (e : Ending) (C : Nat) (a : Option Addr) (len cap n m d : Nat) : Prop := ∃ (s : ByteArray) (n' : Nat), e = .returned (.string s) ∧ s.size ≤ m ∧ n' ≤ n + d ∧ Cur w' C a len cap n' ∧ Turns C (C + 1) w w'
theorem conv_one (w : World) (x : Int) : ∃ T : ByteArray, T.size ≤ 1 ∧ (convert 22 9 (.slice (some ⟨w.heap.size, 0, none⟩) 1 1)).run Tryd.prog (w.alloc (.cells #[.int .u8 x] 5)) = .ok (.string T) (w.alloc (.cells #[.int .u8 x] 5)) := by
  refine ⟨strOfNums [x], ?_, ?_⟩
  · simp [strOfNums, ByteArray.size]
  · refine run_convert_bytes_arg _ 22 5 Tryd.underlying22 Tryd.underlying5 w.heap.size 0 1 1 [x] rfl (fun i hi => ?_) 9 Tryd.underlying9
    have : i = 0 := by simpa using hi
    subst this
    exact (bx_new (w := w) [.int .u8 x] 5 rfl).c0
theorem sub_size (t : ByteArray) (i j : Nat) : (t.extract i j).size ≤ min j t.size - i := by rw [ByteArray.size_extract]; exact Nat.le_refl _
set_option maxRecDepth 20000 in
set_option maxHeartbeats 4000000 in
theorem spoilt_any (C : Nat) (a : Option Addr) (len cap n : Nat) (t v : ByteArray) (m : Nat) (w : World) (h : Cur w C a len cap n) (hn : n ≤ 900000) (ht : t.size ≤ m) (hm : m ≤ 100000) (hv : 1 ≤ v.size) (hv2 : v.size ≤ 1000) :
    Calls Tryd.prog 27 #[.pointer (some ⟨C, 0, none⟩), .string t, .string v] w fun e w' => AnsZ w w' e C a len cap n (m + 3) 30 := by
  have hix := fun i hi w => ix_bt (P := Tryd.prog) Tryd.underlying9 v i hi w
  go_enter Tryd.func27, Tryd.ntmps27
  go_wp2_with fail
  refine (pick_any C a len cap n 3 w h (by omega)).mono ?_
  rintro e w1 ⟨x, n1, rfl, hx0, hx1, -, hn1, h1, hO1⟩
  have hx3 := hx1 (by omega)
  have hT1 := tn_only hO1
  clear hx1 hO1 h
  obtain ⟨K, rfl⟩ := Int.eq_ofNat_of_zero_le hx0
  go_wp2_with fail
  go_loopw [1, 7] (fun s i wr => ∃ (k n' : Nat) (t' : ByteArray), k ≤ K ∧ i = .int .i64 (k : Int) ∧ s = .string t' ∧ t'.size ≤ m + (K - k) ∧ n' ≤ n + 2 + 8 * (K - k) ∧ Cur wr C a len cap n' ∧ Turns C (C + 1) w wr) (fun _ i _ => (intOf i).toNat)
  case atStart => exact ⟨K, n1, t, Nat.le_refl _, rfl, rfl, by omega, by omega, h1, hT1⟩
  case round =>
    obtain ⟨k, n', t', hk, rfl, rfl, hts, hn', hc, hT⟩ := hrel
    clear h1 hT1
    cases k with
    | zero =>
      go_wp2
      go_ret
      exact ⟨t', n', rfl, by omega, by omega, hc, hT⟩
    | succ k =>
      rw [show ((k + 1 : Nat) : Int) = (k : Int) + 1 by omega]
      by_cases h0 : t'.size = 0
      · have j0 : ¬ (0 : Int) < (t'.size : Int) := by omega
        have i1 : (0 : Int) < (k : Int) + 1 := by omega
        have HZ : Hid (t'.size = 0) := h0
        clear h0
        go_wp2
        go_ret
        exact ⟨t', n', rfl, by have := HZ.out; omega, by omega, hc, hT⟩
      · have j0 : (0 : Int) < (t'.size : Int) := by omega
        have i1 : (0 : Int) < (k : Int) + 1 := by omega
        go_wp2_with fail
        refine (pick_any C a len cap n' (t'.size : Int) wr hc (by omega)).mono ?_
        rintro e w2 ⟨y, n2, rfl, hy0, hy1, -, hn2, h2, hO2⟩
        have hy3 := hy1 (by omega)
        have hT2 := hT.trans (tn_only hO2)
        clear hy1 hO2 hc hT
        obtain ⟨I, rfl⟩ := Int.eq_ofNat_of_zero_le hy0
        go_wp2_with fail
        refine (pick_any C a len cap n2 (v.size : Int) w2 h2 (by omega)).mono ?_
        rintro e w3 ⟨z, n3, rfl, hz0, hz1, -, hn3, h3, hO3⟩
        have hz3 := hz1 (by omega)
        have hT3 := hT2.trans (tn_only hO3)
        clear hz1 hO3 h2 hT2
        obtain ⟨J, rfl⟩ := Int.eq_ofNat_of_zero_le hz0
        have xJ := hix J (by omega)
        have hbJ := bt_bd v J
        obtain ⟨T, hTs, hcv⟩ := conv_one w3 (bt v J)
        have hb3 : Below w3.heap.size w3 (w3.alloc (.cells #[.int .u8 (bt v J)] 5)) := (Below.refl _ _).alloc (Nat.le_refl _) _
        have hC3 := h3.lt
        have h4 := h3.below hb3 hC3
        have hT4 := hT3.trans (turns_of hb3)
        go_upto_region 6 with fail
        clear hcv xJ hbJ hix hb3 h3 hT3
        generalize w3.alloc (.cells #[.int .u8 (bt v J)] 5) = w4 at *
        go_wp2_with fail
        refine (pick_any C a len cap n3 3 w4 h4 (by omega)).mono ?_
        rintro e w5 ⟨q, n5, rfl, hq0, hq1, -, hn5, h5, hO5⟩
        have hq3 := hq1 (by omega)
        have hT5 := hT4.trans (tn_only hO5)
        clear hq1 hO5 h4 hT4
        have e1 := sub_size t' 0 I
        have e2 := sub_size t' I t'.size
        have e3 := sub_size t' (I + 1) t'.size
        by_cases hqa : q = 0
        · have ja : (q == 0) = true := by simp [hqa]
          clear hqa
          go_upto_region 9 with fail
          go_quiet (fail)
          have h6 : Cur (w5.drewN nq) C a len cap n5 := h5.below (below_dr (Below.refl w5.heap.size w5) nq) h5.lt
          have hT6 : Turns C (C + 1) w (w5.drewN nq) := hT5.trans (turns_of (below_dr (Below.refl _ _) nq))
          generalize w5.drewN nq = w6 at *
          go_wp2
          exact ⟨⟨k, n5, _, by omega, by go_num, rfl, by rw [ByteArray.size_append, ByteArray.size_append]; omega, by omega, h6, hT6⟩, by simp [intOf]⟩
        · have ja : (q == 0) = false := by simp [hqa]
          by_cases hqb : q = 1
          · have jb : (q == 1) = true := by simp [hqb]
            clear hqa hqb
            go_upto_region 11 with fail
            go_quiet (fail)
            have h6 : Cur (w5.drewN nq) C a len cap n5 := h5.below (below_dr (Below.refl w5.heap.size w5) nq) h5.lt
            have hT6 : Turns C (C + 1) w (w5.drewN nq) := hT5.trans (turns_of (below_dr (Below.refl _ _) nq))
            generalize w5.drewN nq = w6 at *
            go_wp2
            exact ⟨⟨k, n5, _, by omega, by go_num, rfl, by rw [ByteArray.size_append, ByteArray.size_append]; omega, by omega, h6, hT6⟩, by simp [intOf]⟩
          · have jb : (q == 1) = false := by simp [hqb]
            clear hqa hqb
            go_upto_region 7 with fail
            go_quiet (fail)
            have h6 : Cur (w5.drewN nq) C a len cap n5 := h5.below (below_dr (Below.refl w5.heap.size w5) nq) h5.lt
            have hT6 : Turns C (C + 1) w (w5.drewN nq) := hT5.trans (turns_of (below_dr (Below.refl _ _) nq))
            generalize w5.drewN nq = w6 at *
            go_wp2
            exact ⟨⟨k, n5, _, by omega, by go_num, rfl, by rw [ByteArray.size_append]; omega, by omega, h6, hT6⟩, by simp [intOf]⟩
end Go.Proofs.YtmlfijapndkfhaaDoor
