/- When a text is a frame's bits: both sides ask the same. No program. -/
import Derived.Test.YtplpggcbpcebcaaDoorFcT
namespace Go.Proofs.YtplpggcbpcebcaaDoor
open Go.RowKit
def idK (p : ByteArray) : Nat := nmK (bt p) 1 11
def mnK (p : ByteArray) : Nat := nmK (bt p) 12 4
def dtF (p : ByteArray) : Nat → Int := fun i => (nmK (bt p) (16 + 8 * i) 8 : Nat)
def plT (s : ByteArray) : ByteArray := uT (hdT s)
/-- the spec's answer -/
structure OkS (s : ByteArray) : Prop where
  b : bitB s = true
  l : 7 ≤ s.size
  e : s.extract (s.size - 7) s.size = enT
  u : uB (hdT s) = true
  g : 31 ≤ (plT s).size
  z : bt (plT s) 0 = 48
  m : mnK (plT s) ≤ 8
  n : (plT s).size = 31 + 8 * mnK (plT s)
  t : bdT (idK (plT s)) (mnK (plT s)) (dtF (plT s)) = plT s
/-- the program's answer -/
structure OkI (s : ByteArray) : Prop where
  g : 31 ≤ (uT (cutT s)).size
  t : frOut (idK (uT (cutT s)) : Nat) (((uT (cutT s)).size - 31) / 8) (dtF (uT (cutT s))) = s
theorem uT_bits (s : ByteArray) : (uT s).size ≤ 300 ∧ ∀ i, i < (uT s).size → bt (uT s) i = 48 ∨ bt (uT s) i = 49 := by
  cases h : uB s with
  | true => exact ⟨(uT_in h).1, (uT_in h).2.1⟩
  | false => rw [uT_no h]; exact ⟨Nat.zero_le _, fun i hi => absurd hi (Nat.not_lt_zero _)⟩
theorem idK_bd {p : ByteArray} (h : 31 ≤ p.size) (hb : ∀ i, i < p.size → bt p i = 48 ∨ bt p i = 49) : idK p < 2048 := nmK_bd 11 (fun i hi => hb _ (by omega))
theorem dtF_bd {p : ByteArray} (hb : ∀ i, i < p.size → bt p i = 48 ∨ bt p i = 49) {i : Nat} (h : 24 + 8 * i ≤ p.size) : 0 ≤ dtF p i ∧ dtF p i ≤ 255 := by
  have := nmK_bd (f := bt p) (a := 16 + 8 * i) 8 (fun j hj => hb _ (by omega))
  unfold dtF
  omega
theorem OkI.s {s : ByteArray} (h : OkI s) : OkS s ∧ cutT s = hdT s ∧ ((uT (cutT s)).size - 31) / 8 = mnK (plT s) := by
  obtain ⟨hg, ht⟩ := h
  cases hB : frB ((idK (uT (cutT s)) : Nat) : Int) (((uT (cutT s)).size - 31) / 8) with
  | false =>
    exfalso
    unfold frOut at ht
    rw [hB] at ht
    simp only [Bool.false_eq_true, if_false] at ht
    rw [← ht] at hg
    have : uT (cutT ⟨#[]⟩) = ⟨#[]⟩ := by decide +kernel
    rw [this] at hg
    exact absurd hg (by decide)
  | true =>
    obtain ⟨_, _, hm⟩ := frB_of hB
    unfold frOut at ht
    rw [hB, if_pos rfl, Int.toNat_natCast] at ht
    generalize hI : idK (uT (cutT s)) = I at ht
    generalize hM : ((uT (cutT s)).size - 31) / 8 = M at ht hm ⊢
    generalize hD : dtF (uT (cutT s)) = D at ht
    unfold frT at ht
    have hsz := bdT_size I M D
    have hbits := bdT_bits I M D
    obtain ⟨u1, u2⟩ := uT_sf (b := bdT I M D) (by omega) hbits
    have hsl := sfK_len (bt (bdT I M D)) (bdT I M D).size
    have hsb := sfK_bits (bt (bdT I M D)) (bdT I M D).size hbits
    have hmn := bd_many I M D hm
    have hfi := bd_first I M D
    generalize hst : strOfNums (sfK (bt (bdT I M D)) (bdT I M D).size).1 = st at *
    have hc : cutT s = st := by rw [← ht]; exact cut_app st
    obtain ⟨a1, a2, a3⟩ := app_ends st
    have hh : hdT s = st := by rw [← ht]; exact a3
    have hp : plT s = bdT I M D := by unfold plT; rw [hh]; exact u2
    have hI2 : idK (plT s) = I := by rw [hp, ← u2, ← hc]; exact hI
    have hD2 : dtF (plT s) = D := by rw [hp, ← u2, ← hc]; exact hD
    have hM2 : mnK (plT s) = M := by rw [hp]; exact hmn
    refine ⟨⟨?_, by rw [← ht]; exact a1, by rw [← ht]; exact a2, by rw [hh]; exact u1, by rw [hp]; omega, by rw [hp]; exact hfi, by omega, by rw [hM2, hp]; omega, by rw [hI2, hM2, hD2, hp]⟩, by rw [hc, hh], hM2.symm⟩
    have e49 : enT = strOfNums [49, 49, 49, 49, 49, 49, 49] := rfl
    have e : s = strOfNums ((sfK (bt (bdT I M D)) (bdT I M D).size).1 ++ [49, 49, 49, 49, 49, 49, 49]) := by rw [← ht, ← hst, ← str_app]; rfl
    rw [e]
    refine bitB_mk (by rw [strOfNums_size, List.length_append]; simp; omega) (bits_str fun x hx => ?_)
    rcases List.mem_append.1 hx with q | q
    · exact hsb x q
    · simp at q; exact .inr q
theorem OkS.i {s : ByteArray} (h : OkS s) : OkI s := by
  have hs := hd_app s h.l h.e
  have hc : cutT s = hdT s := by
    have := cut_app (hdT s)
    rw [← hs] at this
    exact this
  obtain ⟨u1, u2, u3⟩ := uT_in h.u
  have hp : uT (cutT s) = plT s := by rw [hc]; rfl
  have hn : ((plT s).size - 31) / 8 = mnK (plT s) := by have := h.n; omega
  refine ⟨by rw [hp]; exact h.g, ?_⟩
  rw [hp, hn]
  have hid := idK_bd h.g u2
  have hB : frB ((idK (plT s) : Nat) : Int) (mnK (plT s)) = true := by
    unfold frB idB
    rw [decide_eq_true (show (0 : Int) ≤ ((idK (plT s) : Nat) : Int) by omega), decide_eq_true (show ((idK (plT s) : Nat) : Int) ≤ 2047 by omega), decide_eq_true h.m]; rfl
  unfold frOut
  rw [hB, if_pos rfl, Int.toNat_natCast]
  unfold frT
  rw [h.t]
  have : strOfNums (sfK (bt (plT s)) (plT s).size).1 = hdT s := u3
  rw [this]
  exact hs.symm
end Go.Proofs.YtplpggcbpcebcaaDoor
