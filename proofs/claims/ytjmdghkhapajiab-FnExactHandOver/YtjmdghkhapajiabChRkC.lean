/- Lists of lists of different lengths, each in a block of its own: copied, their sizes. -/
import Derived.Test.YtjmdghkhapajiabChRkM
import Derived.Test.YtjmdghkhapajiabCwRows
namespace Go.Proofs.Ytjmdghkhapajiab
open Go.RowKit
set_option maxHeartbeats 2000000 in
theorem copyK (a : Option Addr) (n cap : Nat) (K : Nat → Nat) (F : Nat → Nat → Int) (w : World) (hn : n ≤ 1048576) (hK : ∀ i, i < n → K i ≤ 1048576) (h : RR w a n K F) :
    Calls Try.prog 6 #[.slice a n cap] w fun e w' => e = .returned (.slice (some ⟨w.heap.size, 0, none⟩) n n) ∧ RK w' w.heap.size w'.heap.size (some ⟨w.heap.size, 0, none⟩) n K F ∧ Below w.heap.size w w' := by
  have hmk := run_make_row' (P := Try.prog) 22 23 (.slice none 0 0) 24 Try.underlying22 infoII rfl .i64 .i64 n (by omega) (by omega)
  have hr0 : (w.alloc (.cells (madeCells #[.slice none 0 0] n) 23)).rowIs w.heap.size 23 n (rwS (fun _ => none) K K 0) := (World.rowIs_made w (.slice none 0 0) n 23).congr fun i _ => by simp [rwS]
  have hb0 : Below w.heap.size w (w.alloc (.cells (madeCells #[.slice none 0 0] n) 23)) := (Below.refl _ _).alloc (Nat.le_refl _) _
  have HR : Hid ((w.alloc (.cells (madeCells #[.slice none 0 0] n) 23)).rowIs w.heap.size 23 n (rwS (fun _ => none) K K 0)) := hr0
  clear hr0
  obtain ⟨A, C, hA⟩ := h
  go_enter Try.func6, Try.ntmps6
  go_wp2
  clear hmk
  go_loopw [4] (fun i wr => ∃ (k : Nat) (A' : Nat → Option Addr), k ≤ n ∧ i = .int .i64 k ∧ wr.rowIs w.heap.size 23 n (rwS A' K K k) ∧ Hid (∀ j, j < k → 0 < K j → ∃ B, A' j = some ⟨B, 0, none⟩ ∧ w.heap.size < B ∧ B < wr.heap.size ∧ IP wr B (K j) (F j)) ∧ Hid (∀ i j, i < k → j < k → 0 < K i → 0 < K j → i ≠ j → A' i ≠ A' j) ∧ Below w.heap.size w wr) (fun i _ => n - (intOf i).toNat)
  case atStart => exact ⟨0, _, Nat.zero_le _, rfl, HR.out, fun j hj => absurd hj (Nat.not_lt_zero _), fun i j hi => absurd hi (Nat.not_lt_zero _), hb0⟩
  case round =>
    obtain ⟨k, A', hk, rfl, hrow, HI, HJ, hbel⟩ := hrel
    clear HR hb0
    by_cases hlt : k < n
    · have hA1 := hA.below hbel
      obtain ⟨b, off, rfl, hbw, hcell⟩ := hA1.out (by omega)
      have hck := hcell k hlt
      have hkk := hK k hlt
      have hik := hA1.row k hlt
      have i0 : (0 : Int) ≤ (k : Int) := by omega
      have i1 : (k : Int) < (n : Int) := by omega
      clear hcell hA1
      go_wp2_with fail
      refine (copyQ (A k) (K k) (C k) (F k) _ hkk hik).mono ?_
      rintro e w1 ⟨rfl, hL1, hs1, hb1⟩
      have hl0 := hrow.lt
      have hrow1 := rowIs_below hrow hb1 hl0
      have ho : w1.cell? ⟨w.heap.size, k, none⟩ = some (.slice none 0 0) := by rw [hrow1.cell hlt]; simp [rwS]
      have hfz := hrow1.frozen k
      have hrow2 := rwS_step A' K K k (some ⟨wr.heap.size, 0, none⟩) (K k) (K k) hrow1
      have hO : Only w.heap.size w1 (w1.setCell ⟨w.heap.size, k, none⟩ (.slice (some ⟨wr.heap.size, 0, none⟩) (K k) (K k))) := (Only.refl _ _).set k _
      have hbel2 := (stepA hbel hb1).setCell (p := ⟨w.heap.size, k, none⟩) (Nat.le_refl _) (.slice (some ⟨wr.heap.size, 0, none⟩) (K k) (K k))
      have eK : (fun i => if i = k then K k else K i) = K := by funext i; by_cases e : i = k <;> simp [e]
      rw [eK] at hrow2
      have HI2 : Hid (∀ j, j < k + 1 → 0 < K j → ∃ B, (if j = k then some ⟨wr.heap.size, 0, none⟩ else A' j) = some ⟨B, 0, none⟩ ∧ w.heap.size < B ∧ B < (w1.setCell ⟨w.heap.size, k, none⟩ (.slice (some ⟨wr.heap.size, 0, none⟩) (K k) (K k))).heap.size ∧ IP (w1.setCell ⟨w.heap.size, k, none⟩ (.slice (some ⟨wr.heap.size, 0, none⟩) (K k) (K k))) B (K j) (F j)) := fun j hj h0 => by
        by_cases e : j = k
        · subst e
          obtain ⟨b', e', h5, h6, h7⟩ := hL1 h0
          have : b' = wr.heap.size := by cases e'; rfl
          subst this
          rw [if_pos rfl]
          exact ⟨wr.heap.size, rfl, hl0, by simpa using hs1, h7.only hO (by omega)⟩
        · rw [if_neg e]
          obtain ⟨B, e1, e2, e3, e4⟩ := HI.out j (by omega) h0
          exact ⟨B, e1, e2, by have := hb1.size; simp; omega, (e4.below hb1 e3).only hO (by omega)⟩
      have HJ2 : Hid (∀ i j, i < k + 1 → j < k + 1 → 0 < K i → 0 < K j → i ≠ j → (if i = k then some (⟨wr.heap.size, 0, none⟩ : Addr) else A' i) ≠ (if j = k then some ⟨wr.heap.size, 0, none⟩ else A' j)) := fun i j hi hj h0 h0' hne => by
        by_cases e : i = k
        · rw [if_pos e, if_neg (by omega)]
          obtain ⟨B, e1, e2, e3, e4⟩ := HI.out j (by omega) h0'
          rw [e1]
          intro h9
          have : wr.heap.size = B := by cases h9; rfl
          omega
        · rw [if_neg e]
          by_cases e' : j = k
          · rw [if_pos e']
            obtain ⟨B, e1, e2, e3, e4⟩ := HI.out i (by omega) h0
            rw [e1]
            intro h9
            have : B = wr.heap.size := by cases h9; rfl
            omega
          · rw [if_neg e']
            exact HJ.out i j (by omega) (by omega) h0 h0' hne
      have HW : Hid ((w1.setCell ⟨w.heap.size, k, none⟩ (.slice (some ⟨wr.heap.size, 0, none⟩) (K k) (K k))).rowIs w.heap.size 23 n (rwS (fun i => if i = k then some ⟨wr.heap.size, 0, none⟩ else A' i) K K (k + 1))) := hrow2
      clear hrow HI HJ hbel hrow1 hb1 hL1 hO hik hkk hrow2 eK
      go_wp2
      exact ⟨⟨k + 1, _, by omega, by go_num, HW.out, HI2, HJ2, hbel2⟩, by simp [intOf]; omega⟩
    · have hke : k = n := by omega
      subst hke
      go_wp2
      go_ret
      refine ⟨rfl, fun _ => ⟨w.heap.size, A', K, rfl, Nat.le_refl _, hrow.lt, hrow.lt, fun i hi => ?_, fun i hi h0 => ?_, fun i j hi hj => HJ.out i j hi hj⟩, hbel⟩
      · rw [hrow.cell hi]; simp [rwS, hi]
      · obtain ⟨B, e1, e2, e3, e4⟩ := HI.out i hi h0
        exact ⟨B, e1, by omega, e3, by omega, e4⟩
set_option maxHeartbeats 1000000 in
theorem szK_in (a : Option Addr) (n c : Nat) (K : Nat → Nat) (F : Nat → Nat → Int) (l : Int) (w : World) (h0 : (n : Int) + ((sumK K n : Nat) : Int) ≤ l) (h1 : l ≤ 1048576) (h : RR w a n K F) :
    Calls Try.prog 4 #[.slice a n c, .int .i64 l] w fun e w' => e = .returned (.int .i64 (l - (n : Int) - ((sumK K n : Nat) : Int))) ∧ w' = w := by
  obtain ⟨A, C, hA⟩ := h
  have j0 : ¬ l - (n : Int) < 0 := by omega
  have HS : Hid (∀ k, sumK K (k + 1) = sumK K k + K k) := fun k => rfl
  have HM : Hid (∀ k, k ≤ n → sumK K k ≤ sumK K n) := fun k hk => sumK_mono K n k hk
  have HL : Hid (∀ k, k < n → sumK K k + K k ≤ sumK K n) := fun k hk => sumK_le K n k hk
  have hz : sumK K 0 = 0 := rfl
  have HZ : Hid (sumK K 0 = 0) := hz
  clear hz
  generalize sumK K = G at *
  go_enter Try.func4, Try.ntmps4
  go_wp2_with fail
  go_loopw [1, 5] (fun v i wr => ∃ (k T : Nat), k ≤ n ∧ i = .int .i64 k ∧ v = .int .i64 (l - (n : Int) - (T : Int)) ∧ T ≤ 1048576 ∧ Hid (T = G k) ∧ wr = w) (fun _ i _ => n - (intOf i).toNat)
  case atStart => exact ⟨0, 0, Nat.zero_le _, rfl, by simp, by omega, (by show 0 = G 0; rw [HZ.out]), rfl⟩
  case round =>
    obtain ⟨k, T, hk, rfl, rfl, hT, HT, hw⟩ := hrel
    have hs' := hw.symm
    clear hw
    subst hs'
    by_cases hlt : k < n
    · obtain ⟨b, off, rfl, hbw, hcell⟩ := hA.out (by omega)
      have hck := hcell k hlt
      have i0 : (0 : Int) ≤ (k : Int) := by omega
      have i1 : (k : Int) < (n : Int) := by omega
      have h2 : T + K k ≤ G n := by rw [HT.out]; exact HL.out k hlt
      have HT2 : Hid (T + K k = G (k + 1)) := by show T + K k = G (k + 1); rw [HS.out k, HT.out]
      have kS := szI_in (A k) (K k) (C k) (l - (n : Int) - (T : Int)) w (by omega) (by omega)
      have j2 : ¬ l - (n : Int) - (T : Int) - (K k : Int) < 0 := by omega
      have e5 : l - (n : Int) - (T : Int) - (K k : Int) = l - (n : Int) - ((T + K k : Nat) : Int) := by omega
      have HE5 : Hid (l - (n : Int) - (T : Int) - (K k : Int) = l - (n : Int) - ((T + K k : Nat) : Int)) := e5
      have hb5 : T + K k ≤ 1048576 := by omega
      clear hcell HS HM HL HT e5 h2
      generalize K k = X at *
      go_wp2_with fail
      refine kS.mono ?_
      rintro e w1 ⟨rfl, hw1⟩
      have hs' := hw1.symm
      clear hw1
      subst hs'
      go_wp2
      exact ⟨⟨k + 1, T + X, by omega, by go_num, by rw [HE5.out], hb5, HT2, trivial⟩, by simp [intOf]; omega⟩
    · have hke : k = n := by omega
      subst hke
      clear HS HM HL hA
      go_wp2
      go_ret
      exact ⟨ret_int (by rw [HT.out]), rfl⟩
set_option maxHeartbeats 1000000 in
theorem szK_out (a : Option Addr) (n c : Nat) (K : Nat → Nat) (F : Nat → Nat → Int) (l : Int) (w : World) (h0 : l < (n : Int) + ((sumK K n : Nat) : Int)) (hl : 0 ≤ l) (h1 : l ≤ 1048576) (hn : n ≤ 9223372036854775807) (hK : ∀ i, i < n → K i ≤ 9223372036854775807) (h : RR w a n K F) :
    Calls Try.prog 4 #[.slice a n c, .int .i64 l] w fun e w' => e = .returned (.int .i64 (-1)) ∧ w' = w := by
  obtain ⟨A, C, hA⟩ := h
  by_cases hln : l < (n : Int)
  · have j0 : l - (n : Int) < 0 := by omega
    go_enter Try.func4, Try.ntmps4
    go_wp2
    go_ret
    exact ⟨rfl, rfl⟩
  have j0 : ¬ l - (n : Int) < 0 := by omega
  have HS : Hid (∀ k, sumK K (k + 1) = sumK K k + K k) := fun k => rfl
  have HZ : Hid (sumK K 0 = 0) := rfl
  generalize sumK K = G at *
  go_enter Try.func4, Try.ntmps4
  go_wp2_with fail
  go_loopw [1, 5] (fun v i wr => ∃ (k T : Nat), k ≤ n ∧ i = .int .i64 k ∧ v = .int .i64 (l - (n : Int) - (T : Int)) ∧ (T : Int) ≤ l - (n : Int) ∧ Hid (T = G k) ∧ wr = w) (fun _ i _ => n - (intOf i).toNat)
  case atStart => exact ⟨0, 0, Nat.zero_le _, rfl, by simp, by omega, (by show 0 = G 0; rw [HZ.out]), rfl⟩
  case round =>
    obtain ⟨k, T, hk, rfl, rfl, hT, HT, hw⟩ := hrel
    have hs' := hw.symm
    clear hw
    subst hs'
    by_cases hlt : k < n
    · obtain ⟨b, off, rfl, hbw, hcell⟩ := hA.out (by omega)
      have hck := hcell k hlt
      have i0 : (0 : Int) ≤ (k : Int) := by omega
      have i1 : (k : Int) < (n : Int) := by omega
      have hKk := hK k hlt
      have HT2 : Hid (T + K k = G (k + 1)) := by show T + K k = G (k + 1); rw [HS.out k, HT.out]
      by_cases h2 : (K k : Int) ≤ l - (n : Int) - (T : Int)
      · have kS := szI_in (A k) (K k) (C k) (l - (n : Int) - (T : Int)) w h2 (by omega)
        have j2 : ¬ l - (n : Int) - (T : Int) - (K k : Int) < 0 := by omega
        have HE5 : Hid (l - (n : Int) - (T : Int) - (K k : Int) = l - (n : Int) - ((T + K k : Nat) : Int)) := by show l - (n : Int) - (T : Int) - (K k : Int) = l - (n : Int) - ((T + K k : Nat) : Int); omega
        have hb5 : ((T + K k : Nat) : Int) ≤ l - (n : Int) := by omega
        have HB5 : Hid (((T + K k : Nat) : Int) ≤ l - (n : Int)) := hb5
        clear hcell HS HT hb5 h2 hK
        generalize K k = X at *
        go_wp2_with fail
        refine kS.mono ?_
        rintro e w1 ⟨rfl, hw1⟩
        have hs' := hw1.symm
        clear hw1
        subst hs'
        go_wp2
        exact ⟨⟨k + 1, T + X, by omega, by go_num, by rw [HE5.out], HB5.out, HT2, trivial⟩, by simp [intOf]; omega⟩
      · have kS := szI_out (A k) (K k) (C k) (l - (n : Int) - (T : Int)) w (by omega) (by omega) hKk
        clear hcell HS HT hK HT2
        generalize K k = X at *
        go_wp2_with fail
        refine kS.mono ?_
        rintro e w1 ⟨rfl, hw1⟩
        have hs' := hw1.symm
        clear hw1
        subst hs'
        go_wp2
        go_ret
        exact ⟨rfl, rfl⟩
    · have hke : k = n := by omega
      subst hke
      exfalso
      have := HT.out
      omega
end Go.Proofs.Ytjmdghkhapajiab
