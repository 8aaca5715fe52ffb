/- DuesFine: dues that show that who costs least. -/
import Derived.Test.YtjmdghkhapajiaaAsDuM
import Derived.Test.YtjmdghkhapajiaaAsWhoS
import Derived.Test.YtjmdghkhapajiaaAsGpS
import Derived.Test.YtjmdghkhapajiaaHoB
import Derived.BigQuiet
import Derived.Deep.Cut
namespace Go.Proofs.Ytjmdghkhapajiaa
open Go.RowKit
theorem il_c3 {w : World} {a : Option Addr} {b o n : Nat} {f : Nat → Int} (h : IL w a n f) (ha : a = some ⟨b, o, none⟩) {i : Nat} (hi : i < n) : w.cell? ⟨b, o + i, none⟩ = some (.int .i64 (f i)) := by
  subst ha
  obtain ⟨b2, o2, e, _, hc⟩ := h (by omega)
  injection e with e1
  injection e1 with e2 e3
  subst e2; subst e3
  exact hc i hi
set_option maxHeartbeats 8000000 in
set_option maxRecDepth 20000 in
theorem fineD (p x y : Option Addr) (n c r s : Nat) (K : Nat → Nat) (F : Nat → Nat → Int) (g D : Nat → Int) (L : Int) (w : World) (hK : ∀ i, i < n → K i ≤ 1048576) (hga : gaB n n K F g = true) (hD : Bd n D L) (hL : L ≤ 30000000) (hF : Fea n F g D) (hP : RR w p n K F) (hX : IL w x n g) (hY : IL w y n D) :
    Calls Try.prog 14 #[.slice p n c, .slice x n r, .slice y n s] w fun e w' => e = .returned (.bool true) ∧ Below w.heap.size w w' := by
  have ga := gaB_t hga
  have gp := ga.gp
  have hn := gp.hi
  have hn1 := gp.lo
  have kB := sGoodP p n c K F w (by omega) hK hP
  have e : gpB n K F = true := by unfold gaB at hga; simp only [Bool.and_eq_true] at hga; exact hga.1
  have e2 : whB n n g = true := by unfold gaB at hga; simp only [Bool.and_eq_true] at hga; exact hga.2
  have kW := fun w (h2 : IL w x n g) => sWho x n r n g w (by omega) (by omega) h2
  rw [e] at kB
  rw [e2] at kW
  have j0 : ((n : Int) != (n : Int)) = false := by simp
  obtain ⟨A, C, hA⟩ := hP
  obtain ⟨pb, po, rfl, plt, -⟩ := ll_at1 hA (show 0 < n by omega)
  obtain ⟨xb, xo, rfl, xlt, -⟩ := il_at1 hX (show 0 < n by omega)
  obtain ⟨yb, yo, rfl, ylt, -⟩ := il_at1 hY (show 0 < n by omega)
  clear e e2 hga hK
  go_enter Try.func14, Try.ntmps14
  go_upto_region 3 with (first | (go_at_call 20; refine kB.mono ?_; rintro e w1 ⟨rfl, hb⟩; clear kB) | (go_at_call 41; refine (kW _ (hX.below hb)).mono ?_; rintro e w2 ⟨rfl, hb3⟩; clear kW) | fail)
  have hB2 := stepA hb hb3
  clear hb hb3
  go_wp2_with fail
  go_loopw [29] (fun i wr => ∃ k : Nat, k ≤ n ∧ i = .int .i64 (k : Int) ∧ Below w.heap.size w wr) (fun i _ => n - (intOf i).toNat)
  case atStart => exact ⟨0, Nat.zero_le _, rfl, hB2⟩
  case round =>
    obtain ⟨k, hk, rfl, hB⟩ := hrel
    clear hB2
    have i0 : (0 : Int) ≤ (k : Int) := by omega
    by_cases hlt : k < n
    · have i1 : (k : Int) < (n : Int) := by omega
      have hbd := ga.bd k hlt
      obtain ⟨t, ht⟩ : ∃ t : Nat, g k = (t : Int) := ⟨(g k).toNat, by omega⟩
      have htn : t < n := by omega
      have t0 : (0 : Int) ≤ (t : Int) := by omega
      have t1 : (t : Int) < (n : Int) := by omega
      have x0 := il_c (hX.below hB) (i := k) hlt
      rw [ht] at x0
      have y0 := il_c (hY.below hB) (i := t) htn
      have hDt := hD t htn
      have d0 : ¬ 0 < D t := by omega
      have HFk : Hid (∀ b, b < n → D t ≤ F k b + D b - F k t) := fun b hb => by have := hF k b hlt hb; rw [ht, Int.toNat_natCast] at this; exact this
      have hrow := hA.row k hlt
      rw [gp.len k hlt] at hrow
      obtain ⟨rb, ro, ra, rl_, -⟩ := il_at1 hrow htn
      have HFb : Hid (∀ b, b < n → 0 ≤ F k b ∧ F k b ≤ 100000) := fun b hb => gp.bd k b hlt hb
      clear hbd ht
      obtain ⟨wz, hwz⟩ : ∃ x, x = wr := ⟨_, rfl⟩
      subst hwz
      go_upto_region 8 with fail
      go_wp2_with fail
      clear x0 y0 d0
      go_loopw [41] (fun i wr => ∃ b : Nat, b ≤ n ∧ i = .int .i64 (b : Int) ∧ Below w.heap.size w wr) (fun i _ => n - (intOf i).toNat)
      case atStart => exact ⟨0, Nat.zero_le _, rfl, hB⟩
      case round =>
        obtain ⟨b, hb, rfl, hB3⟩ := hrel
        clear hB
        have k0 : (0 : Int) ≤ (b : Int) := by omega
        by_cases hlb : b < n
        · have k1 : (b : Int) < (n : Int) := by omega
          have hA3 := hA.below hB3
          have z0 := ll_c hA3 (i := k) hlt
          rw [gp.len k hlt, ra] at z0
          have hr3 := hA3.row k hlt
          rw [gp.len k hlt] at hr3
          have z1 := il_c3 hr3 ra (i := t) htn
          have z2 := il_c3 hr3 ra (i := b) hlb
          have y1 := il_c (hY.below hB3) (i := t) htn
          have y2 := il_c (hY.below hB3) (i := b) hlb
          have hDb := hD b hlb
          have hFk := HFk.out b hlb
          have hf1 := HFb.out t htn
          have hf2 := HFb.out b hlb
          clear hr3 hA3 hrow ra
          generalize F k t = X at *
          generalize F k b = Y at *
          generalize D t = Dt at *
          generalize D b = Db at *
          generalize C k = Ck at *
          have ed : decide (Y + Db < X + Dt) = false := decide_eq_false (by omega)
          go_upto_region 11 with fail
          go_quiet (fail)
          go_wp2
          exact ⟨⟨b + 1, by omega, by go_num, below_dr hB3 _⟩, by simp [intOf]; omega⟩
        · have hbn : b = n := by omega
          subst hbn
          have k1 : ¬ (b : Int) < (b : Int) := by omega
          go_wp2
          exact ⟨⟨k + 1, by omega, by go_num, hB3⟩, by simp [intOf]; omega⟩
    · have hkn : k = n := by omega
      subst hkn
      have i1 : ¬ (k : Int) < (k : Int) := by omega
      go_wp2
      go_ret
      exact ⟨rfl, hB⟩
end Go.Proofs.Ytjmdghkhapajiaa
