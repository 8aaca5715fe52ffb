/- Steps towards roots: a nought's sign does not matter for what comes of it but for its own sign, and what is not finite stays so: plain mathematics, no condition. -/
import Derived.Test.YtgcnkecfdmafdaaPtRow
namespace Go.Proofs.Ytgcnkecfdmafdaa
open Go.RowKit

def pw (d : Ieee.Datum) : Nat := plain (D.write d)
theorem pw_zero (s : Bool) (p : Int) : pw (.number s 0 p) = 0 := by
  unfold pw
  have e : D.write (.number s 0 p) = D.word s 0 := rfl
  rw [e]
  unfold plain zeroB
  rw [word_rung _ (by decide)]
  rfl
theorem signed_zero (s : Bool) (u : Nat) : Ieee.signed s 0 u = 0 := by cases s <;> simp [Ieee.signed]
theorem zero_read {a : Nat} (h : rung a = 0) : D.read a = .number (neg a) 0 (-1074) := by
  rw [read_num (by rw [h]; decide), h]
  rfl
theorem product_zl (s t : Bool) (p : Int) (y : Ieee.Datum) : ((Ieee.Datum.number s 0 p).product y).map pw = ((Ieee.Datum.number t 0 p).product y).map pw := by
  cases y with
  | nan => rfl
  | infinity => rfl
  | number u n j => simp only [Ieee.Datum.product, Nat.zero_mul, Option.map_some, pw_zero]
theorem product_zr (s t : Bool) (p : Int) (y : Ieee.Datum) : (y.product (Ieee.Datum.number s 0 p)).map pw = (y.product (Ieee.Datum.number t 0 p)).map pw := by
  cases y with
  | nan => rfl
  | infinity => rfl
  | number u n j => simp only [Ieee.Datum.product, Nat.mul_zero, Option.map_some, pw_zero]
theorem sum_zl (s t : Bool) (p : Int) (y : Ieee.Datum) : ((Ieee.Datum.number s 0 p).sum y).map pw = ((Ieee.Datum.number t 0 p).sum y).map pw := by
  cases y with
  | nan => rfl
  | infinity => rfl
  | number u n j =>
    simp only [Ieee.Datum.sum, signed_zero, Option.map_some, Int.zero_add]
    by_cases h : Ieee.signed u n (j - min p j).toNat = 0
    · simp only [h, Int.natAbs_zero, pw_zero]
    · simp only [h, if_false]
theorem sum_zr (s t : Bool) (p : Int) (y : Ieee.Datum) : (y.sum (Ieee.Datum.number s 0 p)).map pw = (y.sum (Ieee.Datum.number t 0 p)).map pw := by
  cases y with
  | nan => rfl
  | infinity => rfl
  | number u n j =>
    simp only [Ieee.Datum.sum, signed_zero, Option.map_some, Int.add_zero]
    by_cases h : Ieee.signed u n (j - min j p).toNat = 0
    · simp only [h, Int.natAbs_zero, pw_zero]
    · simp only [h, if_false]
theorem quotient_zl (s t : Bool) (p : Int) (q : Nat) (y : Ieee.Datum) : ((Ieee.Datum.number s 0 p).quotient q y).map pw = ((Ieee.Datum.number t 0 p).quotient q y).map pw := by
  cases y with
  | nan => rfl
  | infinity => simp only [Ieee.Datum.quotient, Option.map_some, pw_zero]
  | number u n j =>
    by_cases h : n = 0
    · subst h; rfl
    · simp only [Ieee.Datum.quotient, h, if_false, Nat.zero_shiftLeft, Nat.zero_div, Nat.mul_zero, Nat.zero_mod, Nat.zero_add, Option.map_some]
      have e : ((0 : Nat) != 0).toNat = 0 := rfl
      simp only [e, pw_zero]

theorem fb_add (a b : Nat) : (floatBits .add .f64 a b).map plain = ((D.read a).sum (D.read b)).map pw := by
  show (Option.map _ _).map plain = _
  rw [Option.map_map]; rfl
theorem fb_sub (a b : Nat) : (floatBits .sub .f64 a b).map plain = ((D.read a).sum (D.read b).opposite).map pw := by
  show (Option.map _ _).map plain = _
  rw [Option.map_map]; rfl
theorem fb_mul (a b : Nat) : (floatBits .mul .f64 a b).map plain = ((D.read a).product (D.read b)).map pw := by
  show (Option.map _ _).map plain = _
  rw [Option.map_map]; rfl
theorem fb_quo (a b : Nat) : (floatBits .quo .f64 a b).map plain = ((D.read a).quotient 54 (D.read b)).map pw := by
  show (Option.map _ _).map plain = _
  rw [Option.map_map]; rfl

theorem plain_eq {a b : Nat} (h : plain a = plain b) : a = b ∨ (rung a = 0 ∧ rung b = 0) := by
  unfold plain zeroB at h
  by_cases ha : rung a = 0
  · by_cases hb : rung b = 0
    · exact .inr ⟨ha, hb⟩
    · simp [ha, hb] at h; subst h; exact absurd rfl hb
  · by_cases hb : rung b = 0
    · simp [ha, hb] at h; subst h; exact absurd rfl ha
    · simp [ha, hb] at h; exact .inl h

def Op3 (op : BinOp) : Prop := op = .add ∨ op = .sub ∨ op = .mul
theorem bits_pl {op : BinOp} (ho : Op3 op ∨ op = .quo) {a a' b : Nat} (h : plain a = plain a') : (floatBits op .f64 a b).map plain = (floatBits op .f64 a' b).map plain := by
  rcases plain_eq h with rfl | ⟨h1, h2⟩
  · rfl
  · rcases ho with (rfl | rfl | rfl) | rfl
    · rw [fb_add, fb_add, zero_read h1, zero_read h2]; exact sum_zl _ _ _ _
    · rw [fb_sub, fb_sub, zero_read h1, zero_read h2]; exact sum_zl _ _ _ _
    · rw [fb_mul, fb_mul, zero_read h1, zero_read h2]; exact product_zl _ _ _ _
    · rw [fb_quo, fb_quo, zero_read h1, zero_read h2]; exact quotient_zl _ _ _ _ _
theorem bits_pr {op : BinOp} (ho : Op3 op) {a b b' : Nat} (h : plain b = plain b') : (floatBits op .f64 a b).map plain = (floatBits op .f64 a b').map plain := by
  rcases plain_eq h with rfl | ⟨h1, h2⟩
  · rfl
  · rcases ho with rfl | rfl | rfl
    · rw [fb_add, fb_add, zero_read h1, zero_read h2]; exact sum_zr _ _ _ _
    · rw [fb_sub, fb_sub, zero_read h1, zero_read h2]; exact sum_zr _ _ _ _
    · rw [fb_mul, fb_mul, zero_read h1, zero_read h2]; exact product_zr _ _ _ _

/-- the same but for a nought's sign -/
def Eqv (o p : Option Nat) : Prop := o.map plain = p.map plain
theorem Eqv.refl (o : Option Nat) : Eqv o o := rfl
theorem eqv_cases {o p : Option Nat} (h : Eqv o p) : (o = none ∧ p = none) ∨ ∃ a b, o = some a ∧ p = some b ∧ plain a = plain b := by
  unfold Eqv at h
  cases o <;> cases p <;> simp at h
  · exact .inl ⟨rfl, rfl⟩
  · exact .inr ⟨_, _, rfl, rfl, h⟩
theorem eqv_ob {op : BinOp} (ho : Op3 op) {o o' p p' : Option Nat} (h : Eqv o o') (k : Eqv p p') : Eqv (ob op o p) (ob op o' p') := by
  rcases eqv_cases h with ⟨rfl, rfl⟩ | ⟨a, a', rfl, rfl, ha⟩
  · exact Eqv.refl _
  · rcases eqv_cases k with ⟨rfl, rfl⟩ | ⟨b, b', rfl, rfl, hb⟩
    · exact Eqv.refl _
    · show (floatBits op .f64 a b).map plain = (floatBits op .f64 a' b').map plain
      exact (bits_pl (.inl ho) ha).trans (bits_pr ho hb)
theorem eqv_quo {o o' : Option Nat} (p : Option Nat) (h : Eqv o o') : Eqv (ob .quo o p) (ob .quo o' p) := by
  rcases eqv_cases h with ⟨rfl, rfl⟩ | ⟨a, a', rfl, rfl, ha⟩
  · exact Eqv.refl _
  · cases p with
    | none => exact Eqv.refl _
    | some b => exact bits_pl (.inr rfl) ha
theorem o3a : Op3 .add := .inl rfl
theorem o3s : Op3 .sub := .inr (.inl rfl)
theorem o3m : Op3 .mul := .inr (.inr rfl)
theorem eqv_mR {a b c d a' b' c' d' : Option Nat} (ha : Eqv a a') (hb : Eqv b b') (hc : Eqv c c') (hd : Eqv d d') : Eqv (mR a b c d) (mR a' b' c' d') := eqv_ob o3s (eqv_ob o3m ha hc) (eqv_ob o3m hb hd)
theorem eqv_mI {a b c d a' b' c' d' : Option Nat} (ha : Eqv a a') (hb : Eqv b b') (hc : Eqv c c') (hd : Eqv d d') : Eqv (mI a b c d) (mI a' b' c' d') := eqv_ob o3a (eqv_ob o3m ha hd) (eqv_ob o3m hb hc)
theorem eqv_dD {c d c' d' : Option Nat} (hc : Eqv c c') (hd : Eqv d d') : Eqv (dD c d) (dD c' d') := eqv_ob o3a (eqv_ob o3m hc hc) (eqv_ob o3m hd hd)

theorem plain_nf (x : Nat) : (nanB (plain x) || infB (plain x)) = (nanB x || infB x) := by
  unfold plain
  split
  · rename_i h
    have h0 : rung x = 0 := by simpa [zeroB] using h
    unfold nanB infB
    rw [h0]; decide
  · rfl
theorem eqv_told {o p : Option Nat} (h : Eqv o p) : toldOk o = toldOk p ∧ told o = told p := by
  rcases eqv_cases h with ⟨rfl, rfl⟩ | ⟨a, b, rfl, rfl, hab⟩
  · exact ⟨rfl, rfl⟩
  · have e : (nanB a || infB a) = (nanB b || infB b) := by rw [← plain_nf a, ← plain_nf b, hab]
    refine ⟨?_, ?_⟩
    · show toldT a = toldT b
      unfold toldT; rw [e]
    · show toldV a = toldV b
      unfold toldV; rw [e, hab]
theorem ord_zero {x : Nat} (h : rung x = 0) : (FloatKind.f64.format.order x 0 == some .eq) = true := by
  rw [ord_eq_iff]
  have hk : key x = 0 := by unfold key; rw [h]; simp
  have hk0 : key 0 = 0 := rfl
  rw [h, hk, hk0]
  decide
theorem eqv_noD {o p : Option Nat} (h : Eqv o p) : noDo o = noDo p ∧ (noDo o = false → o = p) := by
  rcases eqv_cases h with ⟨rfl, rfl⟩ | ⟨a, b, rfl, rfl, hab⟩
  · exact ⟨rfl, fun _ => rfl⟩
  · rcases plain_eq hab with rfl | ⟨h1, h2⟩
    · exact ⟨rfl, fun _ => rfl⟩
    · have e1 : noDo (some a) = true := by show noD a = true; unfold noD; rw [ord_zero h1]; rfl
      have e2 : noDo (some b) = true := by show noD b = true; unfold noD; rw [ord_zero h2]; rfl
      rw [e1, e2]
      exact ⟨rfl, fun h => by cases h⟩
theorem eqv_py {f : Nat → Nat} {len : Nat} {x y x' y' : Option Nat} (hx : Eqv x x') (hy : Eqv y y') (k : Nat) : Eqv (py f len x y k).1 (py f len x' y' k).1 ∧ Eqv (py f len x y k).2 (py f len x' y' k).2 := by
  induction k with
  | zero => exact ⟨Eqv.refl _, Eqv.refl _⟩
  | succ k ih => exact ⟨eqv_ob o3a (eqv_mR ih.1 ih.2 hx hy) (Eqv.refl _), eqv_mI ih.1 ih.2 hx hy⟩

/-! what is not finite stays so -/
def nf (x : Nat) : Bool := nanB x || infB x
theorem nf_cases {x : Nat} (h : nf x = true) : (∃ s t, D.read x = .nan s t) ∨ ∃ s, D.read x = .infinity s := by
  unfold nf nanB infB at h
  simp only [Bool.or_eq_true, decide_eq_true_eq] at h
  rcases h with h | h
  · exact .inl ⟨_, _, read_nan h⟩
  · exact .inr ⟨_, read_inf h⟩
theorem inf_nf (s : Bool) : nf (D.write (.infinity s)) = true := by
  have e : D.write (.infinity s) = D.word s INF := rfl
  unfold nf nanB infB
  rw [e, word_rung _ (by decide)]
  decide
theorem sum_nfl {x y z : Ieee.Datum} (hx : (∃ s t, x = .nan s t) ∨ ∃ s, x = .infinity s) (h : x.sum y = some z) : ∃ s, z = .infinity s := by
  rcases hx with ⟨s, t, rfl⟩ | ⟨s, rfl⟩
  · simp [Ieee.Datum.sum] at h
  · cases y with
    | nan => simp [Ieee.Datum.sum] at h
    | infinity t =>
      simp only [Ieee.Datum.sum] at h
      split at h
      · cases h; exact ⟨_, rfl⟩
      · cases h
    | number => simp only [Ieee.Datum.sum] at h; cases h; exact ⟨_, rfl⟩
theorem sum_nfr {x y z : Ieee.Datum} (hx : (∃ s t, y = .nan s t) ∨ ∃ s, y = .infinity s) (h : x.sum y = some z) : ∃ s, z = .infinity s := by
  rcases hx with ⟨s, t, rfl⟩ | ⟨s, rfl⟩
  · cases x <;> simp [Ieee.Datum.sum] at h
  · cases x with
    | nan => simp [Ieee.Datum.sum] at h
    | infinity t =>
      simp only [Ieee.Datum.sum] at h
      split at h
      · cases h; exact ⟨_, rfl⟩
      · cases h
    | number => simp only [Ieee.Datum.sum] at h; cases h; exact ⟨_, rfl⟩
theorem product_nfl {x y z : Ieee.Datum} (hx : (∃ s t, x = .nan s t) ∨ ∃ s, x = .infinity s) (h : x.product y = some z) : ∃ s, z = .infinity s := by
  rcases hx with ⟨s, t, rfl⟩ | ⟨s, rfl⟩
  · simp [Ieee.Datum.product] at h
  · cases y with
    | nan => simp [Ieee.Datum.product] at h
    | infinity t => simp only [Ieee.Datum.product] at h; cases h; exact ⟨_, rfl⟩
    | number t n j =>
      simp only [Ieee.Datum.product] at h
      split at h
      · cases h
      · cases h; exact ⟨_, rfl⟩
theorem quotient_nfl {x z : Ieee.Datum} {s : Bool} {n q : Nat} {j : Int} (hx : (∃ s t, x = .nan s t) ∨ ∃ s, x = .infinity s) (h : x.quotient q (.number s n j) = some z) : ∃ s, z = .infinity s := by
  rcases hx with ⟨s, t, rfl⟩ | ⟨s, rfl⟩
  · simp [Ieee.Datum.quotient] at h
  · simp only [Ieee.Datum.quotient] at h; cases h; exact ⟨_, rfl⟩
theorem opp_nf {y : Ieee.Datum} (h : (∃ s t, y = .nan s t) ∨ ∃ s, y = .infinity s) : (∃ s t, y.opposite = .nan s t) ∨ ∃ s, y.opposite = .infinity s := by
  rcases h with ⟨s, t, rfl⟩ | ⟨s, rfl⟩
  · exact .inl ⟨_, _, rfl⟩
  · exact .inr ⟨_, rfl⟩

theorem told_nf {o : Option Nat} : toldOk o = false ↔ ∀ r, o = some r → nf r = true := by
  cases o with
  | none => simp [toldOk]
  | some r =>
    show toldT r = false ↔ _
    unfold toldT nf
    constructor
    · intro h r' hr'
      cases hr'
      cases e : (nanB r || infB r) with
      | true => rfl
      | false => rw [e] at h; cases h
    · intro h
      rw [h r rfl]; rfl
theorem nf_add_l {o p : Option Nat} (h : toldOk o = false) : toldOk (ob .add o p) = false := by
  rw [told_nf] at h ⊢
  intro r hr
  cases o with
  | none => simp [ob] at hr
  | some a =>
    cases p with
    | none => simp [ob] at hr
    | some b =>
      have hr' : ((D.read a).sum (D.read b)).map D.write = some r := hr
      obtain ⟨z, hz, rfl⟩ := Option.map_eq_some_iff.1 hr'
      obtain ⟨s, rfl⟩ := sum_nfl (nf_cases (h a rfl)) hz
      exact inf_nf s
theorem nf_add_r {o p : Option Nat} (h : toldOk p = false) : toldOk (ob .add o p) = false := by
  rw [told_nf] at h ⊢
  intro r hr
  cases o with
  | none => simp [ob] at hr
  | some a =>
    cases p with
    | none => simp [ob] at hr
    | some b =>
      have hr' : ((D.read a).sum (D.read b)).map D.write = some r := hr
      obtain ⟨z, hz, rfl⟩ := Option.map_eq_some_iff.1 hr'
      obtain ⟨s, rfl⟩ := sum_nfr (nf_cases (h b rfl)) hz
      exact inf_nf s
theorem nf_sub_r {o p : Option Nat} (h : toldOk p = false) : toldOk (ob .sub o p) = false := by
  rw [told_nf] at h ⊢
  intro r hr
  cases o with
  | none => simp [ob] at hr
  | some a =>
    cases p with
    | none => simp [ob] at hr
    | some b =>
      have hr' : ((D.read a).sum (D.read b).opposite).map D.write = some r := hr
      obtain ⟨z, hz, rfl⟩ := Option.map_eq_some_iff.1 hr'
      obtain ⟨s, rfl⟩ := sum_nfr (opp_nf (nf_cases (h b rfl))) hz
      exact inf_nf s
theorem nf_mul_l {o p : Option Nat} (h : toldOk o = false) : toldOk (ob .mul o p) = false := by
  rw [told_nf] at h ⊢
  intro r hr
  cases o with
  | none => simp [ob] at hr
  | some a =>
    cases p with
    | none => simp [ob] at hr
    | some b =>
      have hr' : ((D.read a).product (D.read b)).map D.write = some r := hr
      obtain ⟨z, hz, rfl⟩ := Option.map_eq_some_iff.1 hr'
      obtain ⟨s, rfl⟩ := product_nfl (nf_cases (h a rfl)) hz
      exact inf_nf s
theorem nf_quo_l {o p : Option Nat} (h : toldOk o = false) (hp : noDo p = false) : toldOk (ob .quo o p) = false := by
  rw [told_nf] at h ⊢
  intro r hr
  cases o with
  | none => simp [ob] at hr
  | some a =>
    cases p with
    | none => simp [ob] at hr
    | some b =>
      obtain ⟨-, h2, h3⟩ : (FloatKind.f64.format.order b 0 == some .eq) = false ∧ nanB b = false ∧ infB b = false := by
        have : noD b = false := hp
        unfold noD at this
        simpa only [Bool.or_eq_false_iff] using this
      have hb : rung b < INF := by
        unfold nanB infB at *
        simp at h2 h3
        omega
      have hr' : ((D.read a).quotient 54 (D.read b)).map D.write = some r := hr
      rw [read_num hb] at hr'
      obtain ⟨z, hz, rfl⟩ := Option.map_eq_some_iff.1 hr'
      obtain ⟨s, rfl⟩ := quotient_nfl (nf_cases (h a rfl)) hz
      exact inf_nf s
/-- a quotient of what is not finite is not -/
theorem nf_div {p q c d : Option Nat} (h : tellOk p q = false) (hd : noDo (dD c d) = false) : tellOk (dR p q c d) (dI p q c d) = false := by
  have : toldOk (dR p q c d) = false := by
    refine nf_quo_l ?_ hd
    unfold tellOk at h
    cases hp : toldOk p with
    | false => exact nf_add_l (nf_mul_l hp)
    | true =>
      rw [hp] at h
      exact nf_add_r (nf_mul_l (by simpa using h))
  unfold tellOk
  rw [this]; rfl
theorem nf_less {x y p q : Option Nat} (h : tellOk p q = false) : tellOk (ob .sub x p) (ob .sub y q) = false := by
  unfold tellOk at h ⊢
  cases hp : toldOk p with
  | false => rw [nf_sub_r hp]; rfl
  | true =>
    rw [hp] at h
    rw [nf_sub_r (o := y) (p := q) (by simpa using h)]
    simp

/-! one step: 'sp': as the specification does it (it stops where what there is is not finite, and keeps no sign of a nought) -/
def dfx (X : Nat → Nat) (i k : Nat) : Option Nat := ob .sub (some (X i)) (some (X k))
/-- what there is, divided by the differences of the first k points but this one -/
def inn (sp : Bool) (f : Nat → Nat) (len : Nat) (X Y : Nat → Nat) (i : Nat) : Nat → Option (Option Nat × Option Nat)
  | 0 => some (py f len (some (X i)) (some (Y i)) len)
  | k + 1 => (inn sp f len X Y i k).bind fun p => if k = i then some p else if noDo (dD (dfx X i k) (dfx Y i k)) || (sp && !tellOk p.1 p.2) then none else some (dR p.1 p.2 (dfx X i k) (dfx Y i k), dI p.1 p.2 (dfx X i k) (dfx Y i k))
def fit (sp : Bool) (o : Option Nat) : Nat := if sp then told o else o.getD 0
/-- where a point comes to -/
def one (sp : Bool) (f : Nat → Nat) (len n : Nat) (X Y : Nat → Nat) (i : Nat) : Option (Nat × Nat) :=
  (inn sp f len X Y i n).bind fun p => if tellOk (ob .sub (some (X i)) p.1) (ob .sub (some (Y i)) p.2) then some (fit sp (ob .sub (some (X i)) p.1), fit sp (ob .sub (some (Y i)) p.2)) else none
/-- the first k points put -/
def stp (sp : Bool) (f : Nat → Nat) (len n : Nat) (X Y : Nat → Nat) : Nat → Option ((Nat → Nat) × (Nat → Nat))
  | 0 => some (X, Y)
  | k + 1 => (stp sp f len n X Y k).bind fun z => (one sp f len n z.1 z.2 k).map fun r => (put z.1 k r.1, put z.2 k r.2)
theorem stp_none {sp : Bool} {f : Nat → Nat} {len n : Nat} {X Y : Nat → Nat} {k m : Nat} (h : stp sp f len n X Y k = none) (hm : k ≤ m) : stp sp f len n X Y m = none := by
  induction m with
  | zero => have : k = 0 := by omega
            subst this; exact h
  | succ m ih =>
    by_cases e : k = m + 1
    · subst e; exact h
    · simp [stp, ih (by omega)]
theorem inn_none {sp : Bool} {f : Nat → Nat} {len : Nat} {X Y : Nat → Nat} {i k m : Nat} (h : inn sp f len X Y i k = none) (hm : k ≤ m) : inn sp f len X Y i m = none := by
  induction m with
  | zero => have : k = 0 := by omega
            subst this; exact h
  | succ m ih =>
    by_cases e : k = m + 1
    · subst e; exact h
    · simp [inn, ih (by omega)]

theorem plain_plain (x : Nat) : plain (plain x) = plain x := by
  by_cases h : zeroB x = true
  · have e : plain x = 0 := by unfold plain; rw [if_pos h]
    rw [e]; rfl
  · have e : plain x = x := by unfold plain; rw [if_neg h]
    rw [e, e]
/-- the program's points and the specification's -/
def Pln (n : Nat) (X Xs : Nat → Nat) : Prop := ∀ i, i < n → plain (X i) = Xs i
theorem Pln.eqv {n : Nat} {X Xs : Nat → Nat} (h : Pln n X Xs) {i : Nat} (hi : i < n) : Eqv (some (X i)) (some (Xs i)) := by
  show some (plain (X i)) = some (plain (Xs i))
  rw [← h i hi, plain_plain]
theorem Pln.dfx {n : Nat} {X Xs : Nat → Nat} (h : Pln n X Xs) {i k : Nat} (hi : i < n) (hk : k < n) : Eqv (dfx X i k) (dfx Xs i k) := eqv_ob o3s (h.eqv hi) (h.eqv hk)
/-- what both have behind k points -/
def Both (a b : Option (Option Nat × Option Nat)) : Prop :=
  (∃ p q, a = some p ∧ b = some q ∧ Eqv p.1 q.1 ∧ Eqv p.2 q.2) ∨ (b = none ∧ (a = none ∨ ∃ p, a = some p ∧ tellOk p.1 p.2 = false))
theorem both_inn {f : Nat → Nat} {len n : Nat} {X Y Xs Ys : Nat → Nat} (hX : Pln n X Xs) (hY : Pln n Y Ys) {i : Nat} (hi : i < n) (k : Nat) (hk : k ≤ n) : Both (inn false f len X Y i k) (inn true f len Xs Ys i k) := by
  induction k with
  | zero => exact .inl ⟨_, _, rfl, rfl, eqv_py (hX.eqv hi) (hY.eqv hi) len⟩
  | succ k ih =>
    rcases ih (by omega) with ⟨p, q, hp, hq, e1, e2⟩ | ⟨hq, hp⟩
    · simp only [inn, hp, hq, Option.bind_some]
      by_cases hki : k = i
      · simp only [hki, if_true]; exact .inl ⟨p, q, rfl, rfl, e1, e2⟩
      · have ed := eqv_dD (hX.dfx hi (by omega : k < n)) (hY.dfx hi (by omega : k < n))
        have en := eqv_noD ed
        have et : tellOk p.1 p.2 = tellOk q.1 q.2 := by unfold tellOk; rw [(eqv_told e1).1, (eqv_told e2).1]
        simp only [hki, if_false, Bool.false_and, Bool.or_false, Bool.true_and]
        cases hno : noDo (dD (dfx X i k) (dfx Y i k)) with
        | true => rw [en.1] at hno; simp only [hno, Bool.true_or, if_true]; exact .inr ⟨rfl, .inl rfl⟩
        | false =>
          have hdd := en.2 hno
          have hno' := hno
          rw [en.1] at hno'
          simp only [hno', Bool.false_or, Bool.false_eq_true, if_false]
          cases ht : tellOk q.1 q.2 with
          | true =>
            simp only [Bool.not_true, Bool.false_eq_true, if_false]
            refine .inl ⟨_, _, rfl, rfl, ?_, ?_⟩
            · show Eqv (ob .quo _ (dD _ _)) (ob .quo _ (dD _ _))
              rw [hdd]
              exact eqv_quo _ (eqv_ob o3a (eqv_ob o3m e1 (hX.dfx hi (by omega))) (eqv_ob o3m e2 (hY.dfx hi (by omega))))
            · show Eqv (ob .quo _ (dD _ _)) (ob .quo _ (dD _ _))
              rw [hdd]
              exact eqv_quo _ (eqv_ob o3s (eqv_ob o3m e2 (hX.dfx hi (by omega))) (eqv_ob o3m e1 (hY.dfx hi (by omega))))
          | false =>
            simp only [Bool.not_false, if_true]
            exact .inr ⟨rfl, .inr ⟨_, rfl, nf_div (et.trans ht) hno⟩⟩
    · rcases hp with hp | ⟨p, hp, hn⟩
      · exact .inr ⟨by simp [inn, hq], .inl (by simp [inn, hp])⟩
      · refine .inr ⟨by simp [inn, hq], ?_⟩
        simp only [inn, hp, Option.bind_some, Bool.false_and, Bool.or_false]
        by_cases hki : k = i
        · simp only [hki, if_true]; exact .inr ⟨p, rfl, hn⟩
        · simp only [hki, if_false]
          cases hno : noDo (dD (dfx X i k) (dfx Y i k)) with
          | true => exact .inl rfl
          | false => exact .inr ⟨_, rfl, nf_div hn hno⟩
theorem fit_plain {o p : Option Nat} (h : Eqv o p) (ht : toldOk p = true) : plain (fit false o) = fit true p := by
  rcases eqv_cases h with ⟨rfl, rfl⟩ | ⟨a, b, rfl, rfl, hab⟩
  · cases ht
  · show plain a = toldV b
    have : toldT b = true := ht
    unfold toldV
    unfold toldT at this
    simp at this
    simp [this, hab]
theorem both_one {f : Nat → Nat} {len n : Nat} {X Y Xs Ys : Nat → Nat} (hX : Pln n X Xs) (hY : Pln n Y Ys) {i : Nat} (hi : i < n) : (one false f len n X Y i).map (fun r => (plain r.1, plain r.2)) = one true f len n Xs Ys i := by
  rcases both_inn (f := f) (len := len) hX hY hi n (Nat.le_refl _) with ⟨p, q, hp, hq, e1, e2⟩ | ⟨hq, hp⟩
  · have s1 := eqv_ob o3s (hX.eqv hi) e1
    have s2 := eqv_ob o3s (hY.eqv hi) e2
    have et : tellOk (ob .sub (some (X i)) p.1) (ob .sub (some (Y i)) p.2) = tellOk (ob .sub (some (Xs i)) q.1) (ob .sub (some (Ys i)) q.2) := by unfold tellOk; rw [(eqv_told s1).1, (eqv_told s2).1]
    simp only [one, hp, hq, Option.bind_some, et]
    cases ht : tellOk (ob .sub (some (Xs i)) q.1) (ob .sub (some (Ys i)) q.2) with
    | false => rfl
    | true =>
      have h12 : toldOk (ob .sub (some (Xs i)) q.1) = true ∧ toldOk (ob .sub (some (Ys i)) q.2) = true := by
        unfold tellOk at ht
        simpa using ht
      simp only [if_true, Option.map_some, fit_plain s1 h12.1, fit_plain s2 h12.2]
  · rcases hp with hp | ⟨p, hp, hn⟩
    · simp [one, hp, hq]
    · simp only [one, hp, hq, Option.bind_some, Option.bind_none, nf_less hn, Bool.false_eq_true, if_false, Option.map_none]
/-- both steps go through or neither, and the points are the same -/
theorem both_stp {f : Nat → Nat} {len n : Nat} {X Y Xs Ys : Nat → Nat} (hX : Pln n X Xs) (hY : Pln n Y Ys) (k : Nat) (hk : k ≤ n) :
    (stp false f len n X Y k = none ∧ stp true f len n Xs Ys k = none) ∨ ∃ z zs, stp false f len n X Y k = some z ∧ stp true f len n Xs Ys k = some zs ∧ Pln n z.1 zs.1 ∧ Pln n z.2 zs.2 := by
  induction k with
  | zero => exact .inr ⟨_, _, rfl, rfl, hX, hY⟩
  | succ k ih =>
    rcases ih (by omega) with ⟨h1, h2⟩ | ⟨z, zs, h1, h2, p1, p2⟩
    · exact .inl ⟨by simp [stp, h1], by simp [stp, h2]⟩
    · have ho := both_one (f := f) (len := len) p1 p2 (by omega : k < n)
      simp only [stp, h1, h2, Option.bind_some]
      cases hr : one false f len n z.1 z.2 k with
      | none =>
        rw [hr] at ho
        simp only [Option.map_none] at ho
        rw [← ho]
        exact .inl ⟨rfl, rfl⟩
      | some r =>
        rw [hr] at ho
        simp only [Option.map_some] at ho
        rw [← ho]
        refine .inr ⟨_, _, rfl, rfl, fun i hi => ?_, fun i hi => ?_⟩
        · simp only [put]; split
          · rfl
          · exact p1 i hi
        · simp only [put]; split
          · rfl
          · exact p2 i hi
end Go.Proofs.Ytgcnkecfdmafdaa
