/- What is not finite stays so: plain mathematics, no condition. -/
import Derived.Test.YtlmbbolhcbccdaaPtMath
namespace Go.Proofs.Ytlmbbolhcbccdaa
open Go.RowKit

theorem word_rung (s : Bool) {r : Nat} (h : r < 9223372036854775808) : rung (D.word s r) = r := by
  have hr : ∀ m, rung m = m % 9223372036854775808 := fun _ => rfl
  rw [hr]
  unfold Ieee.Format.word
  have e : D.signWeight = 9223372036854775808 := rfl
  rw [e]
  cases s
  · simp only [Bool.false_eq_true, if_false]; omega
  · simp only [if_true]; omega
/-! what is not finite stays so -/
def nf (x : Nat) : Bool := nanB x || infB x
theorem nf_cases {x : Nat} (h : nf x = true) : (∃ s t, D.read x = .nan s t) ∨ ∃ s, D.read x = .infinity s := by
  unfold nf nanB infB at h
  simp only [Bool.or_eq_true, decide_eq_true_eq] at h
  rcases h with h | h
  · exact .inl ⟨_, _, read_nan h⟩
  · exact .inr ⟨_, read_inf h⟩
theorem inf_nf (s : Bool) : nf (D.write (.infinity s)) = true := by
  have e : D.write (.infinity s) = D.word s INF := rfl
  unfold nf nanB infB
  rw [e, word_rung _ (by decide)]
  decide
theorem sum_nfl {x y z : Ieee.Datum} (hx : (∃ s t, x = .nan s t) ∨ ∃ s, x = .infinity s) (h : x.sum y = some z) : ∃ s, z = .infinity s := by
  rcases hx with ⟨s, t, rfl⟩ | ⟨s, rfl⟩
  · simp [Ieee.Datum.sum] at h
  · cases y with
    | nan => simp [Ieee.Datum.sum] at h
    | infinity t =>
      simp only [Ieee.Datum.sum] at h
      split at h
      · cases h; exact ⟨_, rfl⟩
      · cases h
    | number => simp only [Ieee.Datum.sum] at h; cases h; exact ⟨_, rfl⟩
theorem sum_nfr {x y z : Ieee.Datum} (hx : (∃ s t, y = .nan s t) ∨ ∃ s, y = .infinity s) (h : x.sum y = some z) : ∃ s, z = .infinity s := by
  rcases hx with ⟨s, t, rfl⟩ | ⟨s, rfl⟩
  · cases x <;> simp [Ieee.Datum.sum] at h
  · cases x with
    | nan => simp [Ieee.Datum.sum] at h
    | infinity t =>
      simp only [Ieee.Datum.sum] at h
      split at h
      · cases h; exact ⟨_, rfl⟩
      · cases h
    | number => simp only [Ieee.Datum.sum] at h; cases h; exact ⟨_, rfl⟩
theorem product_nfl {x y z : Ieee.Datum} (hx : (∃ s t, x = .nan s t) ∨ ∃ s, x = .infinity s) (h : x.product y = some z) : ∃ s, z = .infinity s := by
  rcases hx with ⟨s, t, rfl⟩ | ⟨s, rfl⟩
  · simp [Ieee.Datum.product] at h
  · cases y with
    | nan => simp [Ieee.Datum.product] at h
    | infinity t => simp only [Ieee.Datum.product] at h; cases h; exact ⟨_, rfl⟩
    | number t n j =>
      simp only [Ieee.Datum.product] at h
      split at h
      · cases h
      · cases h; exact ⟨_, rfl⟩
theorem quotient_nfl {x z : Ieee.Datum} {s : Bool} {n q : Nat} {j : Int} (hx : (∃ s t, x = .nan s t) ∨ ∃ s, x = .infinity s) (h : x.quotient q (.number s n j) = some z) : ∃ s, z = .infinity s := by
  rcases hx with ⟨s, t, rfl⟩ | ⟨s, rfl⟩
  · simp [Ieee.Datum.quotient] at h
  · simp only [Ieee.Datum.quotient] at h; cases h; exact ⟨_, rfl⟩
theorem opp_nf {y : Ieee.Datum} (h : (∃ s t, y = .nan s t) ∨ ∃ s, y = .infinity s) : (∃ s t, y.opposite = .nan s t) ∨ ∃ s, y.opposite = .infinity s := by
  rcases h with ⟨s, t, rfl⟩ | ⟨s, rfl⟩
  · exact .inl ⟨_, _, rfl⟩
  · exact .inr ⟨_, rfl⟩

theorem told_nf {o : Option Nat} : toldOk o = false ↔ ∀ r, o = some r → nf r = true := by
  cases o with
  | none => simp [toldOk]
  | some r =>
    show toldT r = false ↔ _
    unfold toldT nf
    constructor
    · intro h r' hr'
      cases hr'
      cases e : (nanB r || infB r) with
      | true => rfl
      | false => rw [e] at h; cases h
    · intro h
      rw [h r rfl]; rfl
theorem nf_add_l {o p : Option Nat} (h : toldOk o = false) : toldOk (ob .add o p) = false := by
  rw [told_nf] at h ⊢
  intro r hr
  cases o with
  | none => simp [ob] at hr
  | some a =>
    cases p with
    | none => simp [ob] at hr
    | some b =>
      have hr' : ((D.read a).sum (D.read b)).map D.write = some r := hr
      obtain ⟨z, hz, rfl⟩ := Option.map_eq_some_iff.1 hr'
      obtain ⟨s, rfl⟩ := sum_nfl (nf_cases (h a rfl)) hz
      exact inf_nf s
theorem nf_add_r {o p : Option Nat} (h : toldOk p = false) : toldOk (ob .add o p) = false := by
  rw [told_nf] at h ⊢
  intro r hr
  cases o with
  | none => simp [ob] at hr
  | some a =>
    cases p with
    | none => simp [ob] at hr
    | some b =>
      have hr' : ((D.read a).sum (D.read b)).map D.write = some r := hr
      obtain ⟨z, hz, rfl⟩ := Option.map_eq_some_iff.1 hr'
      obtain ⟨s, rfl⟩ := sum_nfr (nf_cases (h b rfl)) hz
      exact inf_nf s
theorem nf_sub_r {o p : Option Nat} (h : toldOk p = false) : toldOk (ob .sub o p) = false := by
  rw [told_nf] at h ⊢
  intro r hr
  cases o with
  | none => simp [ob] at hr
  | some a =>
    cases p with
    | none => simp [ob] at hr
    | some b =>
      have hr' : ((D.read a).sum (D.read b).opposite).map D.write = some r := hr
      obtain ⟨z, hz, rfl⟩ := Option.map_eq_some_iff.1 hr'
      obtain ⟨s, rfl⟩ := sum_nfr (opp_nf (nf_cases (h b rfl))) hz
      exact inf_nf s
theorem nf_mul_l {o p : Option Nat} (h : toldOk o = false) : toldOk (ob .mul o p) = false := by
  rw [told_nf] at h ⊢
  intro r hr
  cases o with
  | none => simp [ob] at hr
  | some a =>
    cases p with
    | none => simp [ob] at hr
    | some b =>
      have hr' : ((D.read a).product (D.read b)).map D.write = some r := hr
      obtain ⟨z, hz, rfl⟩ := Option.map_eq_some_iff.1 hr'
      obtain ⟨s, rfl⟩ := product_nfl (nf_cases (h a rfl)) hz
      exact inf_nf s
theorem nf_quo_l {o p : Option Nat} (h : toldOk o = false) (hp : noDo p = false) : toldOk (ob .quo o p) = false := by
  rw [told_nf] at h ⊢
  intro r hr
  cases o with
  | none => simp [ob] at hr
  | some a =>
    cases p with
    | none => simp [ob] at hr
    | some b =>
      obtain ⟨-, h2, h3⟩ : (FloatKind.f64.format.order b 0 == some .eq) = false ∧ nanB b = false ∧ infB b = false := by
        have : noD b = false := hp
        unfold noD at this
        simpa only [Bool.or_eq_false_iff] using this
      have hb : rung b < INF := by
        unfold nanB infB at *
        simp at h2 h3
        omega
      have hr' : ((D.read a).quotient 54 (D.read b)).map D.write = some r := hr
      rw [read_num hb] at hr'
      obtain ⟨z, hz, rfl⟩ := Option.map_eq_some_iff.1 hr'
      obtain ⟨s, rfl⟩ := quotient_nfl (nf_cases (h a rfl)) hz
      exact inf_nf s

theorem nf_sub_l {o p : Option Nat} (h : toldOk o = false) : toldOk (ob .sub o p) = false := by
  rw [told_nf] at h ⊢
  intro r hr
  cases o with
  | none => simp [ob] at hr
  | some a =>
    cases p with
    | none => simp [ob] at hr
    | some b =>
      have hr' : ((D.read a).sum (D.read b).opposite).map D.write = some r := hr
      obtain ⟨z, hz, rfl⟩ := Option.map_eq_some_iff.1 hr'
      obtain ⟨s, rfl⟩ := sum_nfl (nf_cases (h a rfl)) hz
      exact inf_nf s
theorem zero_read {a : Nat} (h : rung a = 0) : D.read a = .number (neg a) 0 (-1074) := by
  rw [read_num (by rw [h]; decide), h]
  rfl
theorem quotient_zr {x z : Ieee.Datum} {s : Bool} {q : Nat} {j : Int} (h : x.quotient q (.number s 0 j) = some z) : ∃ s, z = .infinity s := by
  cases x with
  | nan => simp [Ieee.Datum.quotient] at h
  | infinity => simp only [Ieee.Datum.quotient] at h; cases h; exact ⟨_, rfl⟩
  | number t m i =>
    simp only [Ieee.Datum.quotient] at h
    split at h
    · split at h
      · cases h
      · cases h; exact ⟨_, rfl⟩
    · rename_i hn; exact absurd trivial hn
/-- what is divided by a nought is not finite -/
theorem nf_quo_zero {o : Option Nat} {b : Nat} (hb : rung b = 0) : toldOk (ob .quo o (some b)) = false := by
  rw [told_nf]
  intro r hr
  cases o with
  | none => simp [ob] at hr
  | some a =>
    have hr' : ((D.read a).quotient 54 (D.read b)).map D.write = some r := hr
    rw [zero_read hb] at hr'
    obtain ⟨z, hz, rfl⟩ := Option.map_eq_some_iff.1 hr'
    obtain ⟨s, rfl⟩ := quotient_zr hz
    exact inf_nf s
end Go.Proofs.Ytlmbbolhcbccdaa
