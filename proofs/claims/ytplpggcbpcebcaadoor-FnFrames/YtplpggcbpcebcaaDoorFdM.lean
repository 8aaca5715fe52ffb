/- A frame's parts out of its bits; no six of stuffed bits are alike. No program. -/
import Derived.Test.YtplpggcbpcebcaaDoorFcA
namespace Go.Proofs.YtplpggcbpcebcaaDoor
open Go.RowKit
theorem dtK_split (f : Nat → Int) (i : Nat) : ∀ n, i < n → ∃ r, dtK f n = dtK f i ++ bitL (f i).toNat 8 ++ r
  | 0, h => by omega
  | n + 1, h => by
    by_cases e : i = n
    · subst e; exact ⟨[], by rw [List.append_nil]; rfl⟩
    · obtain ⟨r, hr⟩ := dtK_split f i n (by omega)
      exact ⟨r ++ bitL (f n).toNat 8, by rw [show dtK f (n + 1) = dtK f n ++ bitL (f n).toNat 8 from rfl, hr, List.append_assoc]⟩
theorem dtK_congr {f g : Nat → Int} : ∀ n, (∀ i, i < n → f i = g i) → dtK f n = dtK g n
  | 0, _ => rfl
  | n + 1, h => by rw [show dtK f (n + 1) = dtK f n ++ bitL (f n).toNat 8 from rfl, show dtK g (n + 1) = dtK g n ++ bitL (g n).toNat 8 from rfl, dtK_congr n (fun i hi => h i (by omega)), h n (by omega)]
theorem bdT_congr {f g : Nat → Int} {I n : Nat} (h : ∀ i, i < n → f i = g i) : bdT I n f = bdT I n g := by
  have e : pnL I n f = pnL I n g := by unfold pnL; rw [dtK_congr n h]
  unfold bdT bdL
  rw [e]
theorem bd_id (I n : Nat) (f : Nat → Int) (hI : I < 2048) : nmK (bt (bdT I n f)) 1 11 = I := by
  have e : bdL I n f = [48] ++ bitL I 11 ++ (bitL n 4 ++ (dtK f n ++ bitL (smL (pnL I n f)) 15)) := by unfold bdL; rw [show pnL I n f = hdL I n ++ dtK f n from rfl]; unfold hdL; simp
  have hl := bdL_len I n f
  have k := nm_bits [48] 11 I (bitL n 4 ++ (dtK f n ++ bitL (smL (pnL I n f)) 15)) hI
  rw [← e] at k
  unfold bdT
  rw [nmK_congr (g := gL (bdL I n f)) (b := 1) 11 (fun i hi => bt_gL (bdL_bd I n f) (by omega))]
  exact k
theorem bd_byte (I n : Nat) (f : Nat → Int) (i : Nat) (hi : i < n) (h0 : 0 ≤ f i) (h1 : f i ≤ 255) : dtF (bdT I n f) i = f i := by
  obtain ⟨r, hr⟩ := dtK_split f i n hi
  have e : bdL I n f = (hdL I n ++ dtK f i) ++ bitL (f i).toNat 8 ++ (r ++ bitL (smL (pnL I n f)) 15) := by unfold bdL; rw [show pnL I n f = hdL I n ++ dtK f n from rfl, hr]; simp
  have hl := bdL_len I n f
  have k := nm_bits (hdL I n ++ dtK f i) 8 (f i).toNat (r ++ bitL (smL (pnL I n f)) 15) (by omega)
  rw [← e, List.length_append, hdL_len, dtK_len] at k
  unfold dtF bdT
  rw [nmK_congr (g := gL (bdL I n f)) (b := 16 + 8 * i) 8 (fun j hj => bt_gL (bdL_bd I n f) (by omega)), k]
  omega
/-- a good frame's bits are read as it -/
theorem rd_back (I n : Nat) (f : Nat → Int) (hI : I < 2048) (hn : n ≤ 8) (hf : ∀ i, i < n → 0 ≤ f i ∧ f i ≤ 255) :
    rdB (frT I n f) = true ∧ rdI (frT I n f) = (I : Nat) ∧ rdN (frT I n f) = n ∧ ∀ i, i < n → dtF (plT (frT I n f)) i = f i := by
  have hsz := bdT_size I n f
  obtain ⟨_, u2⟩ := uT_sf (b := bdT I n f) (by omega) (bdT_bits I n f)
  have hc : cutT (frT I n f) = strOfNums (sfK (bt (bdT I n f)) (bdT I n f).size).1 := cut_app _
  have hp : uT (cutT (frT I n f)) = bdT I n f := by rw [hc]; exact u2
  have hid : idK (bdT I n f) = I := bd_id I n f hI
  have hby : ∀ i, i < n → dtF (bdT I n f) i = f i := fun i hi => bd_byte I n f i hi (hf i hi).1 (hf i hi).2
  have hm : ((bdT I n f).size - 31) / 8 = n := by omega
  have hB : frB ((I : Nat) : Int) n = true := by
    unfold frB idB
    rw [decide_eq_true (show (0 : Int) ≤ ((I : Nat) : Int) by omega), decide_eq_true (show ((I : Nat) : Int) ≤ 2047 by omega), decide_eq_true hn]; rfl
  have hOk : OkI (frT I n f) := by
    refine ⟨by rw [hp]; omega, ?_⟩
    rw [hp, hid, hm]
    unfold frOut
    rw [hB, if_pos rfl, Int.toNat_natCast]
    unfold frT
    rw [bdT_congr hby]
  obtain ⟨g1, g2, _⟩ := hOk.s
  have hpl : plT (frT I n f) = bdT I n f := by
    have : plT (frT I n f) = uT (cutT (frT I n f)) := by rw [g2]; rfl
    rw [this, hp]
  obtain ⟨r1, r2, r3⟩ := rd_yes g1
  refine ⟨r1, by rw [r2, hpl, hid], ?_, fun i hi => by rw [hpl]; exact hby i hi⟩
  rw [r3, hpl]
  exact bd_many I n f hn
theorem rd_none : rdB ⟨#[]⟩ = false := (rd_no fun h => by have := h.l; revert this; decide).1
/-- how many alike end there -/
def nsK (f : Nat → Int) : Nat → Int
  | 0 => 0
  | k + 1 => if 0 < k ∧ f k = f (k - 1) then nsK f k + 1 else 1
theorem nsK_congr {f g : Nat → Int} : ∀ k, (∀ i, i < k → f i = g i) → nsK f k = nsK g k
  | 0, _ => rfl
  | k + 1, h => by
    rw [nsK, nsK, nsK_congr k (fun i hi => h i (by omega)), h k (by omega)]
    by_cases h0 : 0 < k
    · rw [h (k - 1) (by omega)]
    · rw [if_neg (fun q => h0 q.1), if_neg (fun q => h0 q.1)]
/-- what stands of the runs of a list: its last, how many alike end it, and none above five -/
structure Ns (o : List Int) (l r : Int) : Prop where
  e : o = [] → r = 0
  a : o ≠ [] → gL o (o.length - 1) = l
  r : nsK (gL o) o.length = r
  m : ∀ i, i ≤ o.length → nsK (gL o) i ≤ 5
theorem Ns.app {o : List Int} {l r x : Int} (h : Ns o l r) (hx : x = l → o ≠ [] ∨ False) (h5 : rnN l r x ≤ 5) : Ns (o ++ [x]) x (rnN l r x) := by
  have hc : ∀ i, i ≤ o.length → nsK (gL (o ++ [x])) i = nsK (gL o) i := fun i hi => nsK_congr i (fun j hj => gL_app_lt o [x] j (by omega))
  have hr : nsK (gL (o ++ [x])) (o.length + 1) = rnN l r x := by
    rw [nsK, hc _ (Nat.le_refl _), h.r, gL_app_at]
    unfold rnN
    by_cases h0 : o = []
    · rw [if_neg (fun q => by rw [h0] at q; simp at q), if_neg (fun q => by rcases hx q with g | g; exact g h0; exact g)]
    · have hl : 0 < o.length := List.length_pos_iff.2 h0
      rw [gL_app_lt o [x] (o.length - 1) (by omega), h.a h0]
      by_cases e : x = l
      · rw [if_pos ⟨hl, e⟩, if_pos e]
      · rw [if_neg (fun q => e q.2), if_neg e]
  refine ⟨fun q => by simp at q, fun _ => ?_, ?_, fun i hi => ?_⟩
  · rw [List.length_append]; exact gL_app_at o x []
  · rw [List.length_append]; exact hr
  · rw [List.length_append] at hi
    by_cases e : i ≤ o.length
    · rw [hc i e]; exact h.m i e
    · have : i = o.length + 1 := by simp at hi; omega
      rw [this, hr]; exact h5
theorem sf_ns (f : Nat → Int) : ∀ k, (∀ i, i < k → f i = 48 ∨ f i = 49) → Ns (sfK f k).1 (sfK f k).2.1 (sfK f k).2.2 ∧ ((sfK f k).1 = [] → (sfK f k).2.1 = 0)
  | 0, _ => by
    refine ⟨⟨fun _ => rfl, fun h => absurd rfl h, rfl, fun i hi => ?_⟩, fun _ => rfl⟩
    have e : i = 0 := by simpa [sfK] using hi
    subst e
    exact (by decide : (0 : Int) ≤ 5)
  | k + 1, h => by
    obtain ⟨ih, hz⟩ := sf_ns f k (fun i hi => h i (by omega))
    have hb := sfK_bd f k
    have hk := h k (by omega)
    have hbd := rnN_bd (sfK f k).2.1 (sfK f k).2.2 (f k) hb.1 hb.2
    have s1 := ih.app (x := f k) (fun e => .inl (fun q => by have := hz q; omega)) hbd.2
    rw [sfK]
    by_cases h5 : rnN (sfK f k).2.1 (sfK f k).2.2 (f k) = 5
    · rw [if_pos h5]
      rw [h5] at s1
      have ho : rnN (f k) 5 (97 - f k) = 1 := rnN_other 5 (f k)
      have s2 := s1.app (x := 97 - f k) (fun _ => .inl (by simp)) (by rw [ho]; decide)
      rw [ho] at s2
      exact ⟨s2, fun q => by simp at q⟩
    · rw [if_neg h5]
      exact ⟨s1, fun q => by simp at q⟩
end Go.Proofs.YtplpggcbpcebcaaDoor
