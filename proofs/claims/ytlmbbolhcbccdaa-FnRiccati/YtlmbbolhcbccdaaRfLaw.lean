/- The walk of the law FnRiccati. -/
import Derived.Test.YtlmbbolhcbccdaaRfDraw
import Derived.Test.YtlmbbolhcbccdaaRfSum
import Derived.Test.YtlmbbolhcbccdaaCoRic
import Derived.Test.YtlmbbolhcbccdaaCoMiss
namespace Go.Proofs.Ytlmbbolhcbccdaa
open Go.RowKit

theorem ric_parts {a b q r : Nat} {n : Int} (h : ricOk a b q r n = true) : askB a b q r = true ∧ 0 ≤ n ∧ n ≤ 40 ∧ ric a b q r n.toNat = some (ricV a b q r n) := by
  unfold ricOk at h
  unfold ricV
  cases e : (askB a b q r && inB n) with
  | false => rw [e] at h; cases h
  | true =>
    rw [e] at h
    rw [if_pos rfl] at h ⊢
    have e' : askB a b q r = true ∧ inB n = true := by simpa using e
    have e2 : 0 ≤ n ∧ n ≤ 40 := by have := e'.2; unfold inB at this; simpa using this
    refine ⟨e'.1, e2.1, e2.2, ?_⟩
    cases x : ric a b q r n.toNat with
    | none => rw [x] at h; cases h
    | some v => rfl
theorem ask_good {a b q r : Nat} (h : askB a b q r = true) : goodB q = true := by
  unfold askB g4 at h
  cases e : goodB q with
  | true => rfl
  | false => rw [e] at h; simp at h
theorem ric_same (a b q r : Nat) (n : Int) : (FloatKind.f64.format.order (ricV a b q r n) (ricV a b q r n) != some .eq) = false := by
  cases h : ricOk a b q r n with
  | true =>
    obtain ⟨h1, -, -, h4⟩ := ric_parts h
    exact ne_self (ric_good (ask_good h1) _ _ h4)
  | false =>
    have : ricV a b q r n = 0 := by
      unfold ricOk at h; unfold ricV
      cases e : (askB a b q r && inB n) with
      | false => rfl
      | true =>
        rw [e] at h; rw [if_pos rfl] at h ⊢
        cases x : ric a b q r n.toNat with
        | none => rfl
        | some v => rw [x] at h; cases h
    rw [this]; decide
theorem fn_end {a b q r : Nat} {n : Int} (h : ricOk a b q r n = true) (hn : n < 40) (hp : ricV a b q r n < 18446744073709551616) :
    ricOk a b q r (n + 1) = true → missOk a b q r (ricV a b q r n) = true → sumOk (ricV a b q r (n + 1)) (plain (negF (ricV a b q r n))) = true →
    (FloatKind.f64.format.order (sumV (ricV a b q r (n + 1)) (plain (negF (ricV a b q r n)))) (missV a b q r (ricV a b q r n)) == some .eq) = true := by
  intro g hm hs
  obtain ⟨h1, h2, h3, h4⟩ := ric_parts h
  obtain ⟨-, -, -, g4⟩ := ric_parts g
  have gp := ric_good (ask_good h1) _ _ h4
  generalize ricV a b q r n = p at *
  have en : (n + 1).toNat = n.toNat + 1 := by omega
  rw [en] at g4
  simp only [ric, h4, Option.bind_some] at g4
  have hk : rdOk a b q r p = true := by
    cases e : rdOk a b q r p with
    | true => rfl
    | false => rw [e] at g4; cases g4
  rw [hk, if_pos rfl] at g4
  have ex : rdV a b q r p = ricV a b q r (n + 1) := Option.some.inj g4
  rw [← ex] at hs ⊢
  have gx := good_rd hk
  have gy := good_turned gp
  have em : missV a b q r p = told (lessO a b q r p) := by unfold missV; rw [h1, gp, hk]; rfl
  have eo : missOk a b q r p = toldOk (lessO a b q r p) := by unfold missOk; rw [h1, gp, hk]; rfl
  have es : sumV (rdV a b q r p) (plain (negF p)) = told (ob .add (some (rdV a b q r p)) (some (plain (negF p)))) := by unfold sumV; rw [gx, gy]; rfl
  rw [es, em, (eqv_told (add_turned hp gp)).2]
  rw [eo] at hm
  exact eq_self (good_told hm)
theorem sum_lt (x y : Nat) : sumV x y < 18446744073709551616 := by
  unfold sumV; split
  · exact told_fits _ fun v h => ob_fits h
  · decide

set_option maxHeartbeats 4000000 in
set_option maxRecDepth 20000 in
theorem fnRicLaw (a : Option Addr) (len cap : Nat) (w : World) (hm : len ≤ 9223372036854775807) (hb : 0 < len → ∃ b off, a = some ⟨b, off, none⟩ ∧ b < w.heap.size ∧ ∀ i, i < len → ∃ v : Int, w.cell? ⟨b, off + i, none⟩ = some (.int .u8 v) ∧ 0 ≤ v ∧ v ≤ 255) :
    Calls Try.prog 3 #[.slice a len cap] w fun e w' => e = .returned (.bool true) ∧ Below w.heap.size w w' := by
  by_cases hl : len ≤ 1048576
  rotate_left
  · clear hb
    go_enter Try.func3, Try.ntmps3
    go_wp2
    go_ret
    exact ⟨rfl, Below.refl _ _⟩
  have cd := drawRic a len cap w hl hb
  clear hb
  go_enter Try.func3, Try.ntmps3
  go_wp2_with fail
  refine cd.mono ?_
  rintro e w1 ⟨x, y, q, r, n, rfl, lx, ly, lq, lr, ⟨n0, n1⟩, hB1⟩
  clear cd
  have lp := ricV_lt x y q r n lq
  have ls := ric_same x y q r n
  have c1 := fun w => ricI_any x y q r n w lx ly lq lr
  have c2 := fun w => ricS_any x y q r n w lx ly lq lr
  have c3 := fun w => ricI_any x y q r (n + 1) w lx ly lq lr
  have c4 := fun w => missI_any x y q r (ricV x y q r n) w lx ly lq lr lp
  have c5 := fun w => turned_any (ricV x y q r n) w lp
  have lt := plain_lt (negF_lt lp)
  have lz := ricV_lt x y q r (n + 1) lq
  have hE := fun h1 h2 => fn_end (a := x) (b := y) (q := q) (r := r) (n := n) h1 h2 lp
  have c6 := fun b w hb h0 h1 => sumTwo b (ricV x y q r (n + 1)) (plain (negF (ricV x y q r n))) w hb lz lt h0 h1
  generalize sumV (ricV x y q r (n + 1)) (plain (negF (ricV x y q r n))) = sv at *
  generalize sumOk (ricV x y q r (n + 1)) (plain (negF (ricV x y q r n))) = sk at *
  generalize missV x y q r (ricV x y q r n) = mv at *
  generalize missOk x y q r (ricV x y q r n) = mk at *
  generalize plain (negF (ricV x y q r n)) = tv at *
  generalize ricV x y q r (n + 1) = zv at *
  generalize ricOk x y q r (n + 1) = zk at *
  generalize ricV x y q r n = pv at *
  generalize ricOk x y q r n = pk at *
  clear lx ly lq lr lp lt lz
  go_wp2_with fail
  refine (c1 w1).mono ?_
  rintro e w2 ⟨rfl, h2⟩
  have hB2 := hB1.trans (h2.mono hB1.size)
  clear c1 hB1 h2
  go_wp2_with fail
  refine (c2 w2).mono ?_
  rintro e w3 ⟨rfl, m3⟩
  have hB3 := below_drew hB2 m3
  clear c2 hB2 m3
  cases pk
  · clear c3 c4 c5 c6 hE
    go_wp2
    go_ret
    exact ⟨rfl, hB3⟩
  by_cases h40 : n < 40
  rotate_left
  · clear c3 c4 c5 c6 hE
    go_wp2
    go_ret
    exact ⟨rfl, hB3⟩
  have hE' := hE rfl h40
  clear hE
  go_wp2_with fail
  refine (c3 w3).mono ?_
  rintro e w4 ⟨rfl, h4⟩
  have hB4 := hB3.trans (h4.mono hB3.size)
  clear c3 hB3 h4
  go_wp2_with fail
  refine (c4 w4).mono ?_
  rintro e w5 ⟨rfl, h5⟩
  have hB5 := hB4.trans (h5.mono hB4.size)
  clear c4 hB4 h5
  have hB6 := hB5.alloc hB5.size (.cells #[.float .f64 zv, .float .f64 tv] 23)
  have c6' := c6 w5.heap.size (w5.alloc (.cells #[.float .f64 zv, .float .f64 tv] 23)) (by simp) (by simp [go_sem]) (by simp [go_sem])
  clear c6 hB5
  go_wp2_with (go_at_call 12; refine (c5 _).mono ?_; rintro e w' ⟨rfl, hw'⟩; have hs := hw'.symm; clear hw'; subst hs)
  refine c6'.mono ?_
  rintro e w7 ⟨rfl, m7⟩
  have hB7 := below_drew hB6 m7
  clear c6' c5 hB6 m7
  cases zk
  · clear hE'
    go_wp2
    go_ret
    exact ⟨rfl, hB7⟩
  cases mk
  · clear hE'
    go_wp2
    go_ret
    exact ⟨rfl, hB7⟩
  cases sk
  · clear hE'
    go_wp2
    go_ret
    exact ⟨rfl, hB7⟩
  have hq := hE' rfl rfl rfl
  clear hE'
  go_wp2
  go_ret
  exact ⟨rfl, hB7⟩
end Go.Proofs.Ytlmbbolhcbccdaa
