/- What a ray over counts comes to. -/
import Derived.Test.YtnoaonflphameaaRyMath
import Derived.Test.YtnoaonflphameaaCcGoodI
namespace Go.Proofs.Ytnoaonflphameaa
open Go.RowKit

def rN (x1 y1 x2 y2 : Int) : Nat := steps (ab (x2 - x1)) (ab (y2 - y1))
def rayB (W : Int) (n : Nat) (f : Nat → Int) (m : Nat) (g : Nat → Int) (x1 y1 x2 y2 : Int) : Bool := cntB W n f m g && hvB W (hgt W n) x1 y1 && hvB W (hgt W n) x2 y2
def rayF (f : Nat → Int) (id : Nat → Nat) (N : Nat) (hit : Bool) : Nat → Int := if hit then put f (id N) (f (id N) + 1) else f
def rayG (g : Nat → Int) (id : Nat → Nat) (N : Nat) (hit : Bool) : Nat → Int := if hit then am g id N else am g id (N + 1)
def rayQ (W : Int) (n : Nat) (f : Nat → Int) (m : Nat) (g : Nat → Int) (x1 y1 x2 y2 : Int) (hit : Bool) : Bool :=
  rayB W n f m g x1 y1 x2 y2 && cntB W n (rayF f (rid W x1 y1 x2 y2) (rN x1 y1 x2 y2) hit) n (rayG g (rid W x1 y1 x2 y2) (rN x1 y1 x2 y2) hit)
def qW (W : Int) (q : Bool) : Int := if q then W else 0
def qN (n : Nat) (q : Bool) : Nat := if q then n else 0
def AnsA (w w' : World) (e : Ending) (W : Int) (n : Nat) (F G : Nat → Int) (q : Bool) : Prop :=
  ∃ a c b d, e = .returned (.tuple #[cnt (qW W q) a (qN n q) c b (qN n q) d, .bool q]) ∧ CP w' w.heap.size w'.heap.size a (qN n q) F b (qN n q) G
theorem ansA_nil {w w' : World} {W : Int} {n : Nat} {F G : Nat → Int} {q : Bool} (h : q = false) (hb : w.heap.size ≤ w'.heap.size) : AnsA w w' (.returned (.tuple #[cnt 0 none 0 0 none 0 0, .bool false])) W n F G q := by
  subst h
  exact ⟨none, 0, none, 0, rfl, cp_none _ _ _ _ _ _ _ hb⟩
theorem ansA_mk {w w' : World} {W : Int} {n : Nat} {F G : Nat → Int} {q : Bool} (h : q = true) {bh ch bm cm : Nat} (h1 : IP w' bh n F) (h2 : IP w' bm n G) (hh : w.heap.size ≤ bh) (hm : w.heap.size ≤ bm) (hn : bh ≠ bm) :
    AnsA w w' (.returned (.tuple #[cnt W (some ⟨bh, 0, none⟩) n ch (some ⟨bm, 0, none⟩) n cm, .bool true])) W n F G q := by
  subst h
  have l1 := h1.lt
  have l2 := h2.lt
  refine ⟨some ⟨bh, 0, none⟩, ch, some ⟨bm, 0, none⟩, cm, rfl, bh, bh + 1, bm, bm + 1, hh, l1, hm, l2, by omega, ?_, ?_⟩
  · exact lq_of h1 (Nat.le_refl _) (Nat.lt_succ_self _)
  · exact lq_of h2 (Nat.le_refl _) (Nat.lt_succ_self _)

/-- what is known of a ray that lies within -/
structure Ray (W : Int) (n : Nat) (x1 y1 x2 y2 : Int) : Prop where
  sz : sizedB W n = true
  lb : lnB x1 y1 x2 y2 = true
  ln : lnN x1 y1 x2 y2 = rN x1 y1 x2 y2 + 1
  le : rN x1 y1 x2 y2 ≤ 16
  pt : ∀ k, k ≤ rN x1 y1 x2 y2 → (0 ≤ lnY x1 y1 x2 y2 k * W ∧ lnY x1 y1 x2 y2 k * W ≤ 1000) ∧ (0 ≤ lnX x1 y1 x2 y2 k ∧ lnX x1 y1 x2 y2 k ≤ 1000) ∧ (0 ≤ lnY x1 y1 x2 y2 k ∧ lnY x1 y1 x2 y2 k ≤ 1000) ∧ ((rid W x1 y1 x2 y2 k : Nat) : Int) = lnY x1 y1 x2 y2 k * W + lnX x1 y1 x2 y2 k ∧ rid W x1 y1 x2 y2 k < n
  fin : lnX x1 y1 x2 y2 (rN x1 y1 x2 y2) = x2 ∧ lnY x1 y1 x2 y2 (rN x1 y1 x2 y2) = y2
theorem ray_of {W : Int} {n m : Nat} {f g : Nat → Int} {x1 y1 x2 y2 : Int} (h : rayB W n f m g x1 y1 x2 y2 = true) : Ray W n x1 y1 x2 y2 ∧ m = n ∧ allB f n = true ∧ allB g n = true ∧ hvB W (hgt W n) x1 y1 = true ∧ hvB W (hgt W n) x2 y2 = true := by
  unfold rayB at h
  simp only [Bool.and_eq_true] at h
  obtain ⟨⟨h1, h2⟩, h3⟩ := h
  obtain ⟨hs, hm, hf, hg⟩ := cntB_parts h1
  obtain ⟨s1, s2, -, -, -⟩ := sizedB_t hs
  obtain ⟨m1, m2, m3⟩ := hgt_mul hs
  have hN := sized_le hs
  obtain ⟨l1, l2⟩ := ln_have s2 m3 h2 h3
  refine ⟨⟨hs, l1, ?_, steps_le s2 m3 h2 h3, fun k hk => ?_, ?_⟩, hm, hf, hg, h2, h3⟩
  · unfold lnN; rw [l1, if_pos rfl]; rfl
  · have a1 := hvB_t (l2 k hk)
    obtain ⟨i1, i2⟩ := idx_bd m1 a1
    have e : ((rid W x1 y1 x2 y2 k : Nat) : Int) = lnY x1 y1 x2 y2 k * W + lnX x1 y1 x2 y2 k := by unfold rid; omega
    exact ⟨⟨i1, by omega⟩, ⟨a1.1, by omega⟩, ⟨a1.2.2.1, by omega⟩, e, by omega⟩
  · have R := rnd_at l1 (rN x1 y1 x2 y2) (Nat.le_refl _)
    exact R.fin rfl
theorem am_bd2 {g : Nat → Int} {n : Nat} (hg : allB g n = true) {id : Nat → Nat} (k : Nat) (i : Nat) (hi : i < n) : 0 ≤ am g id k i ∧ am g id k i ≤ 1000000 + k := am_bd (fun _ hj => allB_at hg hj) k i hi
theorem rayB_no1 {W : Int} {n m : Nat} {f g : Nat → Int} {x1 y1 x2 y2 : Int} (h : cntB W n f m g = false) : rayB W n f m g x1 y1 x2 y2 = false := by unfold rayB; rw [h]; rfl
theorem rayB_no2 {W : Int} {n m : Nat} {f g : Nat → Int} {x1 y1 x2 y2 : Int} (h : hvB W (hgt W n) x1 y1 = false) : rayB W n f m g x1 y1 x2 y2 = false := by unfold rayB; rw [h, Bool.and_false]; rfl
theorem rayB_no3 {W : Int} {n m : Nat} {f g : Nat → Int} {x1 y1 x2 y2 : Int} (h : hvB W (hgt W n) x2 y2 = false) : rayB W n f m g x1 y1 x2 y2 = false := by unfold rayB; rw [h, Bool.and_false]
theorem rayQ_no {W : Int} {n m : Nat} {f g : Nat → Int} {x1 y1 x2 y2 : Int} {hit : Bool} (h : rayB W n f m g x1 y1 x2 y2 = false) : rayQ W n f m g x1 y1 x2 y2 hit = false := by unfold rayQ; rw [h]; rfl
theorem rayQ_yes {W : Int} {n m : Nat} {f g : Nat → Int} {x1 y1 x2 y2 : Int} {hit : Bool} (h : rayB W n f m g x1 y1 x2 y2 = true) : rayQ W n f m g x1 y1 x2 y2 hit = cntB W n (rayF f (rid W x1 y1 x2 y2) (rN x1 y1 x2 y2) hit) n (rayG g (rid W x1 y1 x2 y2) (rN x1 y1 x2 y2) hit) := by unfold rayQ; rw [h]; rfl
end Go.Proofs.Ytnoaonflphameaa
