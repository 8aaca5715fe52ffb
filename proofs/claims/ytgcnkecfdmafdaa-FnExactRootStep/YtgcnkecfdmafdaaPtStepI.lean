/- The contract of the program's own step towards roots. -/
import Derived.Test.YtgcnkecfdmafdaaPtStepM
import Derived.Test.YtgcnkecfdmafdaaPtGuess
import Derived.Test.YtgcnkecfdmafdaaPtDivC
import Derived.Laws.ComplexArith
namespace Go.Proofs.Ytgcnkecfdmafdaa
open Go.RowKit

theorem run_fa {P : Program} (x y : Nat) (w : World) : (Op.floatArith .sub .f64 x y).run P w = .ok (.float .f64 (fr .sub x y w)) (w.drewN (fd .sub x y)) := by
  cases hb : floatBits .sub .f64 x y with
  | some r => rw [run_floatArith w hb]; unfold fr fd; rw [hb]; rfl
  | none =>
    unfold fr fd; rw [hb]
    simp only [floatBits] at hb
    simp [Op.floatArith, hb, Question.forced, nanOf]
    rfl
theorem run_csub {P : Program} (t : TypeId) (a b c d : Nat) (w : World) : (binOp .sub t (.complex .f64 a b) (.complex .f64 c d)).run P w = .ok (.complex .f64 (fr .sub a c w) (fr .sub b d (w.drewN (fd .sub a c)))) (w.drewN (fd .sub a c + fd .sub b d)) := by
  simp [binOp, Op.complexOp, Op.Complex.arith, run_fa, World.drewN_drewN]

theorem rep_get {o : Option Nat} {v : Nat} (h : Rep o v) (ht : toldOk o = true) : v = o.getD 0 := by
  cases o with
  | none => cases ht
  | some r => exact h.2.2 r rfl
theorem rowIs_drewN {w : World} {b n : Nat} {t : TypeId} {f : Nat → Value} (h : w.rowIs b t n f) (m : Nat) : (w.drewN m).rowIs b t n f := h

theorem keepC {w w' : World} {b o1 o2 : Nat} {v1 v2 : Value} (c1 : w.cell? ⟨b, o1, none⟩ = some v1) (c2 : w.cell? ⟨b, o2, none⟩ = some v2) (hb : b < w.heap.size) (k : Below w.heap.size w w') : w'.cell? ⟨b, o1, none⟩ = some v1 ∧ w'.cell? ⟨b, o2, none⟩ = some v2 :=
  ⟨(k.cell (p := ⟨b, _, none⟩) hb).trans c1, (k.cell (p := ⟨b, _, none⟩) hb).trans c2⟩
theorem below_of2 {w w' : World} {n m : Nat} (h : w' = (w.drewN m).drewN n) : Below w.heap.size w w' := by subst h; exact below_dr (below_dr (Below.refl _ _) m) n

theorem stp_fail {sp : Bool} {f : Nat → Nat} {len n : Nat} {X Y : Nat → Nat} {k m : Nat} {z : (Nat → Nat) × (Nat → Nat)} (hz : stp sp f len n X Y k = some z) (hi : inn sp f len z.1 z.2 k m = none) (hm : m ≤ n) (hk : k < n) : stp sp f len n X Y n = none := by
  refine stp_none (k := k + 1) ?_ hk
  simp [stp, hz, one, inn_none hi hm]
theorem stp_fail2 {sp : Bool} {f : Nat → Nat} {len n : Nat} {X Y : Nat → Nat} {k : Nat} {z : (Nat → Nat) × (Nat → Nat)} {p : Option Nat × Option Nat} (hz : stp sp f len n X Y k = some z) (hi : inn sp f len z.1 z.2 k n = some p) (ht : tellOk (ob .sub (some (z.1 k)) p.1) (ob .sub (some (z.2 k)) p.2) = false) (hk : k < n) : stp sp f len n X Y n = none := by
  refine stp_none (k := k + 1) ?_ hk
  simp [stp, hz, one, hi, ht]
theorem stp_go {sp : Bool} {f : Nat → Nat} {len n : Nat} {X Y : Nat → Nat} {k : Nat} {z : (Nat → Nat) × (Nat → Nat)} {p : Option Nat × Option Nat} (hz : stp sp f len n X Y k = some z) (hi : inn sp f len z.1 z.2 k n = some p) (ht : tellOk (ob .sub (some (z.1 k)) p.1) (ob .sub (some (z.2 k)) p.2) = true) :
    stp sp f len n X Y (k + 1) = some (put z.1 k (fit sp (ob .sub (some (z.1 k)) p.1)), put z.2 k (fit sp (ob .sub (some (z.2 k)) p.2))) := by
  simp [stp, hz, one, hi, ht]

theorem getD_lt {op : BinOp} {o p : Option Nat} : (ob op o p).getD 0 < 18446744073709551616 := by
  cases h : ob op o p with
  | none => decide
  | some r => exact ob_lt h

set_option maxHeartbeats 4000000 in
theorem stepRoots_any (a : Option Addr) (len cap : Nat) (f : Nat → Nat) (b n cap2 : Nat) (X Y : Nat → Nat) (w : World) (hF : ∀ w', Below b w w' → FS w' a len f) (hn : n ≤ 1048576) (hX : ∀ i, i < n → X i < 18446744073709551616 ∧ Y i < 18446744073709551616) (hr : w.rowIs b 54 n (cRow X Y)) :
    Calls Try.prog 52 #[.slice a len cap, .slice (some ⟨b, 0, none⟩) n cap2] w fun e w' => ∃ t X' Y', e = .returned (.bool t) ∧ w'.rowIs b 54 n (cRow X' Y') ∧ Below b w w' ∧ ((stp false f len n X Y n = none ∧ t = false) ∨ (t = true ∧ stp false f len n X Y n = some (X', Y') ∧ ∀ i, i < n → X' i < 18446744073709551616 ∧ Y' i < 18446744073709551616)) := by
  have hcs := fun a b c d w => run_csub (P := Try.prog) 54 a b c d w
  go_enter Try.func52, Try.ntmps52
  go_wp2
  go_loopw [14] (fun i wr => ∃ (k : Nat) (z : (Nat → Nat) × (Nat → Nat)), k ≤ n ∧ i = .int .i64 k ∧ stp false f len n X Y k = some z ∧ (∀ j, j < n → z.1 j < 18446744073709551616 ∧ z.2 j < 18446744073709551616) ∧ wr.rowIs b 54 n (cRow z.1 z.2) ∧ Below b w wr) (fun i _ => n - (intOf i).toNat)
  case atStart => exact ⟨0, (X, Y), Nat.zero_le _, rfl, rfl, hX, hr, Below.refl _ _⟩
  case round =>
    obtain ⟨k, z, hk, rfl, hz, hzb, hrow, hB⟩ := hrel
    have HZ : Hid (stp false f len n X Y k = some z) := hz
    clear hz hX hr
    by_cases hlt : k < n
    · have hFw := hF wr hB
      have cc : wr.cell? ⟨b, k, none⟩ = some (.complex .f64 (z.1 k) (z.2 k)) := hrow.cell hlt
      obtain ⟨hk1, hk2⟩ := hzb k hlt
      have i1 : (k : Int) < (n : Int) := by omega
      go_wp2_with fail
      refine (polyComplex_any a len cap f (z.1 k) (z.2 k) _ hFw (rep_of hk1) (rep_of hk2)).mono ?_
      rintro e w1 ⟨v0, u0, rfl, hv0, hu0, n0, hw1⟩
      have hrow1 : w1.rowIs b 54 n (cRow z.1 z.2) := by rw [hw1]; exact rowIs_drewN hrow n0
      have hB1 : Below b w w1 := by rw [hw1]; exact below_dr hB n0
      clear hw1 hrow hB hFw cc
      go_wp2
      go_loopw [6, 25] (fun m j wr2 => ∃ (kk : Nat) (p : Option Nat × Option Nat) (v u : Nat), kk ≤ n ∧ j = .int .i64 kk ∧ m = cx v u ∧ inn false f len z.1 z.2 k kk = some p ∧ Rep p.1 v ∧ Rep p.2 u ∧ wr2.rowIs b 54 n (cRow z.1 z.2) ∧ Below b w wr2) (fun _ j _ => n - (intOf j).toNat)
      case atStart => exact ⟨0, _, v0, u0, Nat.zero_le _, rfl, rfl, rfl, hv0, hu0, hrow1, hB1⟩
      case round =>
        obtain ⟨kk, p, v, u, hkk, rfl, rfl, hp, hv, hu, hrow, hB⟩ := hrel
        have HP : Hid (inn false f len z.1 z.2 k kk = some p) := hp
        have HV : Hid (Rep p.1 v) := hv
        have HU : Hid (Rep p.2 u) := hu
        clear hp hv hu hrow1 hB1 hv0 hu0
        by_cases hl2 : kk < n
        · have j1 : (kk : Int) < (n : Int) := by omega
          by_cases hki : kk = k
          · subst hki
            go_wp2
            exact ⟨⟨kk + 1, p, v, u, by omega, by go_num, rfl, by simp [inn, HP.out], HV.out, HU.out, hrow, hB⟩, by simp [intOf]; omega⟩
          · have hne : ¬ (kk : Int) = (k : Int) := by omega
            have c1 : wr.cell? ⟨b, k, none⟩ = some (.complex .f64 (z.1 k) (z.2 k)) := hrow.cell hlt
            have c2 : wr.cell? ⟨b, kk, none⟩ = some (.complex .f64 (z.1 kk) (z.2 kk)) := hrow.cell hl2
            obtain ⟨hq1, hq2⟩ := hzb kk hl2
            have hbl := hrow.lt
            have hw0 := Below.refl wr.heap.size wr
            have hdx : ∀ w, Rep (dfx z.1 k kk) (fr .sub (z.1 k) (z.1 kk) w) := fun w => rep_ob (rep_of hk1) (rep_of hq1) w
            have hdy : ∀ w, Rep (dfx z.2 k kk) (fr .sub (z.2 k) (z.2 kk) w) := fun w => rep_ob (rep_of hk2) (rep_of hq2) w
            cases hno : noDo (dD (dfx z.1 k kk) (dfx z.2 k kk)) with
            | true =>
              go_wp2_with fail
              go_region_with ((go_at_call 41; refine (divComplex_no v u _ _ _ (hdx _) (hdy _) hno).mono ?_; rintro e w1 ⟨rfl, n1, hn1⟩))
              all_goals
                go_wp2
                go_ret
                exact ⟨false, z.1, z.2, rfl, rowIs_drewN hrow _, below_dr hB _, .inl ⟨stp_fail HZ.out (m := kk + 1) (by simp [inn, HP.out, hki, hno]) (by omega) hlt, rfl⟩⟩
            | false =>
              go_wp2_with fail
              go_region_with ((go_at_call 41; refine (divComplex_yes v u _ _ _ HV.out HU.out (hdx _) (hdy _) hno).mono ?_; rintro e w1 ⟨vr, vi, rfl, hvr, hvi, n1, hn1⟩))
              all_goals
                go_wp2
                exact ⟨⟨kk + 1, (dR p.1 p.2 (dfx z.1 k kk) (dfx z.2 k kk), dI p.1 p.2 (dfx z.1 k kk) (dfx z.2 k kk)), vr, vi, by omega, by go_num, rfl, by simp [inn, HP.out, hki, hno], hvr, hvi, rowIs_drewN hrow _, below_dr hB _⟩, by simp [intOf]; omega⟩
        · have hke : kk = n := by omega
          subst hke
          have c1 : wr.cell? ⟨b, k, none⟩ = some (.complex .f64 (z.1 k) (z.2 k)) := hrow.cell hlt
          have z1 := hrow.frozen k
          have hsx : ∀ w, Rep (ob .sub (some (z.1 k)) p.1) (fr .sub (z.1 k) v w) := fun w => rep_ob (rep_of hk1) HV.out w
          have hsy : ∀ w, Rep (ob .sub (some (z.2 k)) p.2) (fr .sub (z.2 k) u w) := fun w => rep_ob (rep_of hk2) HU.out w
          go_wp2_with fail
          refine (tellPoint_any _ _ _ (hsx _).1 (hsy _).1).mono ?_
          rintro e w1 ⟨rfl, hb1⟩
          have hrow1 := rowIs_below ((rowIs_drewN hrow _).set k _) hb1 ((rowIs_drewN hrow _).set k _).lt
          have hB1 := ((below_dr hB _).setCell (p := ⟨b, k, none⟩) (Nat.le_refl _) _).trans (hb1.mono (Nat.le_of_lt ((rowIs_drewN hrow _).set k _).lt))
          rw [tell_rep (hsx _) (hsy _)]
          clear hb1 hrow hB c1 z1
          cases ht : tellOk (ob .sub (some (z.1 k)) p.1) (ob .sub (some (z.2 k)) p.2) with
          | true =>
            have h12 : toldOk (ob .sub (some (z.1 k)) p.1) = true ∧ toldOk (ob .sub (some (z.2 k)) p.2) = true := by
              unfold tellOk at ht
              simpa using ht
            have hrow2 : w1.rowIs b 54 kk (cRow (put z.1 k (fit false (ob .sub (some (z.1 k)) p.1))) (put z.2 k (fit false (ob .sub (some (z.2 k)) p.2)))) := by
              refine hrow1.congr fun i _ => ?_
              unfold cRow put fit
              by_cases e : i = k
              · simp only [e, if_true, Bool.false_eq_true, if_false]
                rw [rep_get (hsx _) h12.1, rep_get (hsy _) h12.2]
              · simp only [e, if_false]
            clear hrow1
            go_wp2
            refine ⟨⟨k + 1, _, by omega, by go_num, stp_go HZ.out HP.out ht, fun j hj => ?_, hrow2.alloc _, hB1.alloc (Nat.le_of_lt hrow2.lt) _⟩, by simp [intOf]; omega⟩
            simp only [put, fit, Bool.false_eq_true, if_false]
            obtain ⟨q1, q2⟩ := hzb j hj
            refine ⟨?_, ?_⟩ <;> split <;> first | exact getD_lt | assumption
          | false =>
            have hrow2 := hrow1.congr (g := cRow (put z.1 k _) (put z.2 k _)) fun i _ => by
              unfold cRow put
              by_cases e : i = k
              · simp only [e, if_true]
                rfl
              · simp only [e, if_false]
            clear hrow1
            go_wp2
            go_ret
            exact ⟨false, _, _, rfl, hrow2.alloc _, hB1.alloc (Nat.le_of_lt hrow2.lt) _, .inl ⟨stp_fail2 HZ.out HP.out ht hlt, rfl⟩⟩
    · have hke : k = n := by omega
      subst hke
      go_wp2
      go_ret
      exact ⟨true, z.1, z.2, rfl, hrow, hB, .inr ⟨rfl, HZ.out, hzb⟩⟩
end Go.Proofs.Ytgcnkecfdmafdaa
