/- What the three parts of a loop tell, and how what they tell is summed. -/
import Derived.Test.YtnoaonflphameaaHdGoodH
namespace Go.Proofs.Ytnoaonflphameaa
open Go.RowKit

abbrev wd (a b : Int) : Value := .agg #[.int .i64 a, .int .i64 b]

set_option maxHeartbeats 1000000 in
theorem tellM_any (p m : Int) (h : Hd) (w : World) :
    Calls Try.prog 92 #[.agg #[.int .i64 p], hv h, .int .i64 m] w fun e w' => e = .returned (.iface 3 (.int .i64 (wrap64 (p * m)))) ∧ Below w.heap.size w w' := by
  go_enter Try.func92, Try.ntmps92
  go_wp2
  go_ret
  refine ⟨rfl, ?_⟩
  repeat' (first | exact Below.refl _ _ | refine below_dr ?_ _ | refine Below.alloc ?_ (by simp <;> omega) _ | refine Below.setCell ?_ (by simp <;> omega) _)

set_option maxHeartbeats 1000000 in
theorem tellC_on (d m : Int) (h : Hd) (w : World) (ho : h.on = true) (hl : -2000000 ≤ h.last ∧ h.last ≤ 2000000) (hm : -2000000 ≤ m ∧ m ≤ 2000000) :
    Calls Try.prog 94 #[.agg #[.int .i64 d], hv h, .int .i64 m] w fun e w' => e = .returned (.iface 3 (.int .i64 (wrap64 (d * (m - h.last))))) ∧ Below w.heap.size w w' := by
  obtain ⟨on, sm, la, ou⟩ := h
  simp only at ho hl ⊢
  subst ho
  go_enter Try.func94, Try.ntmps94
  go_wp2
  go_ret
  refine ⟨rfl, ?_⟩
  repeat' (first | exact Below.refl _ _ | refine below_dr ?_ _ | refine Below.alloc ?_ (by simp <;> omega) _ | refine Below.setCell ?_ (by simp <;> omega) _)
set_option maxHeartbeats 1000000 in
theorem tellC_off (d m : Int) (h : Hd) (w : World) (ho : h.on = false) :
    Calls Try.prog 94 #[.agg #[.int .i64 d], hv h, .int .i64 m] w fun e w' => e = .returned (.iface 3 (.int .i64 0)) ∧ Below w.heap.size w w' := by
  obtain ⟨on, sm, la, ou⟩ := h
  simp only at ho
  subst ho
  go_enter Try.func94, Try.ntmps94
  go_wp2
  go_ret
  refine ⟨rfl, ?_⟩
  repeat' (first | exact Below.refl _ _ | refine below_dr ?_ _ | refine Below.alloc ?_ (by simp <;> omega) _ | refine Below.setCell ?_ (by simp <;> omega) _)
theorem wrap_zero : wrap64 0 = 0 := by unfold wrap64; omega
theorem tellC_any (d m : Int) (h : Hd) (w : World) (hl : -2000000 ≤ h.last ∧ h.last ≤ 2000000) (hm : -2000000 ≤ m ∧ m ≤ 2000000) :
    Calls Try.prog 94 #[.agg #[.int .i64 d], hv h, .int .i64 m] w fun e w' => e = .returned (.iface 3 (.int .i64 (wrap64 (d * chgI h m)))) ∧ Below w.heap.size w w' := by
  unfold chgI
  cases ho : h.on
  · refine (tellC_off d m h w ho).mono ?_
    rintro e w' ⟨rfl, hb⟩
    refine ⟨?_, hb⟩
    rw [if_neg (by decide), Int.mul_zero, wrap_zero]
  · exact tellC_on d m h w ho hl hm

set_option maxHeartbeats 1000000 in
theorem tellS_any (i wi m : Int) (h : Hd) (w : World) (hw : 0 ≤ wi ∧ wi ≤ 1000000) (hs : -1000000 ≤ h.sum ∧ h.sum ≤ 1000000) (hm : -2000000 ≤ m ∧ m ≤ 2000000) :
    Calls Try.prog 93 #[.agg #[.int .i64 i, .int .i64 wi], hv h, .int .i64 m] w fun e w' => e = .returned (.iface 81 (wd (wrap64 (i * cutI (h.sum + m) (-wi) wi)) (cutI (h.sum + m) (-wi) wi))) ∧ Below w.heap.size w w' := by
  have hc := fun w => between_any (h.sum + m) (-wi) wi w (by omega)
  generalize cutI (h.sum + m) (-wi) wi = s at hc ⊢
  go_enter Try.func93, Try.ntmps93
  go_wp2_with fail
  refine (hc _).mono ?_
  rintro e w' ⟨rfl, hw'⟩
  subst hw'
  clear hc
  go_wp2
  go_ret
  refine ⟨rfl, ?_⟩
  repeat' (first | exact Below.refl _ _ | refine below_dr ?_ _ | refine Below.alloc ?_ (by simp <;> omega) _ | refine Below.setCell ?_ (by simp <;> omega) _)

theorem as_wound (v : Value) (w : World) : (Instr.typeAssert (.iface 81 v) 20 81 true).run Try.prog w = .ok (.tuple #[v, .bool true]) w := by
  simp [Instr.typeAssert, run_underlying Try.underlying81]
theorem as_int (v : Value) (w : World) : (Instr.typeAssert (.iface 3 v) 20 3 true).run Try.prog w = .ok (.tuple #[v, .bool true]) w := by
  simp [Instr.typeAssert, run_underlying Try.underlying3]
theorem no_wound (v : Value) (w : World) : (Instr.typeAssert (.iface 3 v) 20 81 true).run Try.prog w = .ok (.tuple #[wd 0 0, .bool false]) w := by
  have hz : (zeroValue 81).run Try.prog w = .ok (wd 0 0) w := by kernel_rfl
  simp [Instr.typeAssert, run_underlying Try.underlying81, hz]

set_option maxHeartbeats 1000000 in
theorem plusW_any (a b c d : Int) (w : World) :
    Calls Try.prog 72 #[wd a b, .iface 81 (wd c d)] w fun e w' => e = .returned (wd (wrap64 (a + c)) (wrap64 (b + d))) ∧ Below w.heap.size w w' := by
  have h1 := as_wound (wd c d)
  go_enter Try.func72, Try.ntmps72
  go_wp2
  go_returns
  refine ⟨rfl, ?_⟩
  repeat' (first | exact Below.refl _ _ | refine below_dr ?_ _ | refine Below.alloc ?_ (by simp <;> omega) _ | refine Below.setCell ?_ (by simp <;> omega) _)
set_option maxHeartbeats 1000000 in
theorem plusI_any (a b c : Int) (w : World) :
    Calls Try.prog 72 #[wd a b, .iface 3 (.int .i64 c)] w fun e w' => e = .returned (wd (wrap64 (a + c)) b) ∧ Below w.heap.size w w' := by
  have h1 := no_wound (.int .i64 c)
  have h2 := as_int (.int .i64 c)
  go_enter Try.func72, Try.ntmps72
  go_wp2
  go_returns
  refine ⟨rfl, ?_⟩
  repeat' (first | exact Below.refl _ _ | refine below_dr ?_ _ | refine Below.alloc ?_ (by simp <;> omega) _ | refine Below.setCell ?_ (by simp <;> omega) _)
end Go.Proofs.Ytnoaonflphameaa
