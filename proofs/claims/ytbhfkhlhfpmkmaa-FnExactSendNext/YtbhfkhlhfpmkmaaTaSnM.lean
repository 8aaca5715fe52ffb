/- Good senders; what SendNext tells, as numbers (tools/gen_tasn.py). -/
import Derived.Test.YtbhfkhlhfpmkmaaTaSn
import Derived.Test.YtbhfkhlhfpmkmaaTaPar1
namespace Go.Proofs.Ytbhfkhlhfpmkmaa
open Go.RowKit
def gsB (n : Nat) (k t : Int) : Bool := decide ((n : Int) ≤ 30) && decide (0 ≤ k) && decide (k ≤ (n : Int)) && decide (0 ≤ t) && decide (t ≤ 30)
theorem gsB_parts {n : Nat} {k t : Int} (h : gsB n k t = true) : (n : Int) ≤ 30 ∧ 0 ≤ k ∧ k ≤ (n : Int) ∧ 0 ≤ t ∧ t ≤ 30 := by
  simp only [gsB, Bool.and_eq_true, decide_eq_true_eq] at h
  omega
set_option maxHeartbeats 1000000 in
theorem iSender (a : Option Addr) (n c : Nat) (k t : Int) (w : World) :
    Calls Try.prog 50 #[snv a n c k t] w fun e w' => e = .returned (.bool (gsB n k t)) ∧ Below w.heap.size w w' := by
  have hB : Below w.heap.size w (w.alloc (snO a n c k t 44)) := (Below.refl _ _).alloc (Nat.le_refl _) _
  by_cases h0 : (n : Int) ≤ 30
  case neg =>
    have e : gsB n k t = false := by unfold gsB; rw [decide_eq_false h0]; simp
    rw [e]
    clear e
    go_enter Try.func50, Try.ntmps50
    go_wp2
    go_ret
    exact ⟨rfl, hB⟩
  by_cases h1 : 0 ≤ k
  case neg =>
    have e : gsB n k t = false := by unfold gsB; rw [decide_eq_false h1]; simp
    rw [e]
    clear e
    go_enter Try.func50, Try.ntmps50
    go_wp2
    go_ret
    exact ⟨rfl, hB⟩
  by_cases h2 : k ≤ (n : Int)
  case neg =>
    have e : gsB n k t = false := by unfold gsB; rw [decide_eq_false h2]; simp
    rw [e]
    clear e
    go_enter Try.func50, Try.ntmps50
    go_wp2
    go_ret
    exact ⟨rfl, hB⟩
  by_cases h3 : 0 ≤ t
  case neg =>
    have e : gsB n k t = false := by unfold gsB; rw [decide_eq_false h3]; simp
    rw [e]
    clear e
    go_enter Try.func50, Try.ntmps50
    go_wp2
    go_ret
    exact ⟨rfl, hB⟩
  by_cases h4 : t ≤ 30
  case neg =>
    have e : gsB n k t = false := by unfold gsB; rw [decide_eq_false h4]; simp
    rw [e]
    clear e
    go_enter Try.func50, Try.ntmps50
    go_wp2
    go_ret
    exact ⟨rfl, hB⟩
  have e : gsB n k t = true := by simp only [gsB, decide_eq_true h0, decide_eq_true h1, decide_eq_true h2, decide_eq_true h3, decide_eq_true h4, Bool.and_true]
  rw [e]
  clear e
  go_enter Try.func50, Try.ntmps50
  go_wp2
  go_ret
  exact ⟨rfl, hB⟩
set_option maxHeartbeats 1000000 in
theorem sSender (a : Option Addr) (n c : Nat) (k t : Int) (w : World) :
    Calls Try.prog 49 #[snv a n c k t] w fun e w' => e = .returned (.bool (gsB n k t)) ∧ Below w.heap.size w w' := by
  have hB : Below w.heap.size w (w.alloc (snO a n c k t 44)) := (Below.refl _ _).alloc (Nat.le_refl _) _
  by_cases h0 : (n : Int) ≤ 30
  case neg =>
    have e : gsB n k t = false := by unfold gsB; rw [decide_eq_false h0]; simp
    rw [e]
    clear e
    go_enter Try.func49, Try.ntmps49
    go_wp2
    go_ret
    exact ⟨rfl, hB⟩
  by_cases h1 : 0 ≤ k
  case neg =>
    have e : gsB n k t = false := by unfold gsB; rw [decide_eq_false h1]; simp
    rw [e]
    clear e
    go_enter Try.func49, Try.ntmps49
    go_wp2
    go_ret
    exact ⟨rfl, hB⟩
  by_cases h2 : k ≤ (n : Int)
  case neg =>
    have e : gsB n k t = false := by unfold gsB; rw [decide_eq_false h2]; simp
    rw [e]
    clear e
    go_enter Try.func49, Try.ntmps49
    go_wp2
    go_ret
    exact ⟨rfl, hB⟩
  by_cases h3 : 0 ≤ t
  case neg =>
    have e : gsB n k t = false := by unfold gsB; rw [decide_eq_false h3]; simp
    rw [e]
    clear e
    go_enter Try.func49, Try.ntmps49
    go_wp2
    go_ret
    exact ⟨rfl, hB⟩
  by_cases h4 : t ≤ 30
  case neg =>
    have e : gsB n k t = false := by unfold gsB; rw [decide_eq_false h4]; simp
    rw [e]
    clear e
    go_enter Try.func49, Try.ntmps49
    go_wp2
    go_ret
    exact ⟨rfl, hB⟩
  have e : gsB n k t = true := by simp only [gsB, decide_eq_true h0, decide_eq_true h1, decide_eq_true h2, decide_eq_true h3, decide_eq_true h4, Bool.and_true]
  rw [e]
  clear e
  go_enter Try.func49, Try.ntmps49
  go_wp2
  go_ret
  exact ⟨rfl, hB⟩
/-- does a sender send -/
def snQ (n : Nat) (k t d : Int) : Bool := gsB n k t && !decide (k = (n : Int)) && decide (1 ≤ d) && decide (d ≤ 10)
def snM (n : Nat) (k d : Int) : Int := if d < (n : Int) - k then d else (n : Int) - k
/-- the number of what is sent -/
def snK (n : Nat) (k t d : Int) : Int := k + t % snM n k d
def snT (t : Int) : Int := if t + 1 < 30 then t + 1 else 0
theorem snM_bd {n : Nat} {k t d : Int} (h : snQ n k t d = true) : 1 ≤ snM n k d ∧ snM n k d ≤ 10 ∧ snM n k d ≤ (n : Int) - k := by
  simp only [snQ, Bool.and_eq_true, decide_eq_true_eq, Bool.not_eq_true', decide_eq_false_iff_not] at h
  have := gsB_parts h.1.1.1
  unfold snM
  split <;> omega
theorem snK_bd {n : Nat} {k t d : Int} (h : snQ n k t d = true) : 0 ≤ snK n k t d ∧ snK n k t d < (n : Int) := by
  have h1 := snM_bd h
  simp only [snQ, Bool.and_eq_true, decide_eq_true_eq, Bool.not_eq_true', decide_eq_false_iff_not] at h
  have := gsB_parts h.1.1.1
  have h2 := Int.emod_nonneg t (show snM n k d ≠ 0 by omega)
  have h3 := Int.emod_lt_of_pos t (show 0 < snM n k d by omega)
  unfold snK
  omega
/-- the answer of SendNext -/
def AnsSn (w w' : World) (e : Ending) (n : Nat) (f : Nat → Int) (k t d : Int) : Prop :=
  ∃ (a : Option Addr) (c : Nat), e = .returned (.tuple #[pcv (if snQ n k t d then snK n k t d else 0) (if snQ n k t d then f (snK n k t d).toNat else 0), snv a (if snQ n k t d then n else 0) c (if snQ n k t d then k else 0) (if snQ n k t d then snT t else 0), .bool (snQ n k t d)]) ∧ LQ w' w.heap.size w'.heap.size a (if snQ n k t d then n else 0) f
theorem ansSn_no {w w' : World} {n : Nat} {f : Nat → Int} {k t d : Int} (h : snQ n k t d = false) : AnsSn w w' (.returned (.tuple #[pcv 0 0, snv none 0 0 0 0, .bool false])) n f k t d := by
  unfold AnsSn
  rw [h]
  exact ⟨none, 0, rfl, lq_none _ _ _ _ _⟩
theorem ansSn_yes {w w' : World} {n : Nat} {f : Nat → Int} {k t d K X T : Int} {a : Option Addr} {c : Nat} (h : snQ n k t d = true) (hK : K = snK n k t d) (hX : X = f (snK n k t d).toNat) (hT : T = snT t) (hL : LQ w' w.heap.size w'.heap.size a n f) :
    AnsSn w w' (.returned (.tuple #[pcv K X, snv a n c k T, .bool true])) n f k t d := by
  unfold AnsSn
  rw [h, hK, hX, hT]
  exact ⟨a, c, rfl, hL⟩
theorem ret_send {fn : Func} {t1 t2 t3 : Tmp} {R : Ending → World → Prop} {a : Act} {w : World} {b1 b2 : Nat} {p q u v x : Value} (h : fn.results = #[.cell t1 43, .cell t2 44, .tmp t3]) (hp1 : a.tmps.getD t1 undef = .pointer (some ⟨b1, 0, none⟩)) (hp2 : a.tmps.getD t2 undef = .pointer (some ⟨b2, 0, none⟩)) (c1 : Bx w b1 [p, q]) (c2 : Bx w b2 [u, v, x]) (hd : a.defers = [])
    (hR : R (.returned (.tuple #[.agg #[p, q], .agg #[u, v, x], a.tmps.getD t3 undef])) w) : bodyPost Try.prog fn R .ret a w := by
  refine bodyPost_ret ?_ hd hR
  have hp1' : a.tmps[t1]?.getD undef = .pointer (some ⟨b1, 0, none⟩) := by simpa using hp1
  have hp2' : a.tmps[t2]?.getD undef = .pointer (some ⟨b2, 0, none⟩) := by simpa using hp2
  simp [results, h, hp1', hp2', asAddr, loadVar, go_sem, c1.c0, c1.c1, c2.c0, c2.c1, c2.c2]
end Go.Proofs.Ytbhfkhlhfpmkmaa
