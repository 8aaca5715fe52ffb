/- When a text is a frame's bits: as both sides ask. No program. -/
import Derived.Test.YtplpggcbpcebcaaDoorFcM
namespace Go.Proofs.YtplpggcbpcebcaaDoor
open Go.RowKit
theorem bt_gL {l : List Int} (h : ∀ x ∈ l, x = 48 ∨ x = 49) {i : Nat} (hi : i < l.length) : bt (strOfNums l) i = gL l i := by
  rw [bt_str l h i hi]
  unfold gL
  simp [List.getD, hi]
theorem flK_map (f : Nat → Int) : ∀ k, flK f k = (List.range k).map f
  | 0 => rfl
  | k + 1 => by rw [flK, flK_map f k, List.range_succ, List.map_append]; rfl
theorem bt_at (s : ByteArray) (i : Nat) (hi : i < s.size) : bt s i = ((s[i]).toNat : Int) := by unfold bt; rw [dif_pos hi]
theorem str_flK (s : ByteArray) : strOfNums (flK (bt s) s.size) = s := by
  apply ba_ext'
  rw [ByteArray.toList_eq, ByteArray.toList_eq]
  show ((flK (bt s) s.size).map fun n => UInt8.ofNat n.toNat) = s.data.toList
  apply List.ext_getElem
  · rw [List.length_map, flK_len]; rfl
  · intro i h1 h2
    have hi : i < s.size := h2
    simp only [List.getElem_map, flK_map, List.getElem_range, bt_at s i hi, Int.toNat_natCast]
    exact UInt8.ofNat_toNat
theorem usK_bits (f : Nat → Int) : ∀ k, (∀ i, i < k → f i = 48 ∨ f i = 49) → ∀ o l r, usK f k = some (o, l, r) → ∀ x ∈ o, x = 48 ∨ x = 49
  | 0, _, o, l, r, h, x, hx => by
    unfold usK at h
    simp only [Option.some.injEq, Prod.mk.injEq] at h
    rw [← h.1] at hx; cases hx
  | k + 1, hb, o, l, r, h, x, hx => by
    cases e : usK f k with
    | none => rw [usK, e] at h; cases h
    | some s =>
      obtain ⟨o', l', r'⟩ := s
      have ih := usK_bits f k (fun i hi => hb i (by omega)) o' l' r' e
      by_cases h5 : r' = 5
      · by_cases hxl : f k = l'
        · rw [usK_fail e h5 hxl] at h; cases h
        · rw [usK_skip e h5 hxl] at h
          simp only [Option.some.injEq, Prod.mk.injEq] at h
          rw [← h.1] at hx
          exact ih x hx
      · rw [usK_app e h5] at h
        simp only [Option.some.injEq, Prod.mk.injEq] at h
        rw [← h.1] at hx
        rcases List.mem_append.1 hx with q | q
        · exact ih x q
        · rw [List.mem_singleton.1 q]; exact hb k (by omega)
theorem uT_no {s : ByteArray} (h : uB s = false) : uT s = ⟨#[]⟩ := by
  unfold uB at h; unfold uT
  cases e : usV s with
  | none => rfl
  | some o => rw [e] at h; cases h
theorem uT_yes {s : ByteArray} (h : uB s = true) : bitB s = true ∧ ∃ o l r, usK (bt s) s.size = some (o, l, r) ∧ r ≠ 5 ∧ uT s = strOfNums o := by
  cases hb : bitB s with
  | false => rw [(uv_not hb).2] at h; cases h
  | true =>
    refine ⟨rfl, ?_⟩
    cases e : usK (bt s) s.size with
    | none => rw [(uv_fail (Nat.le_refl _) e).2] at h; cases h
    | some q =>
      obtain ⟨o, l, r⟩ := q
      by_cases h5 : r = 5
      · rw [(uv_full e h5).2] at h; cases h
      · exact ⟨o, l, r, rfl, h5, (uv_ok hb e h5).1⟩
/-- what was taken out are bits, and stuffed again they are what they were -/
theorem uT_in {s : ByteArray} (h : uB s = true) : (uT s).size ≤ 300 ∧ (∀ i, i < (uT s).size → bt (uT s) i = 48 ∨ bt (uT s) i = 49) ∧ strOfNums (sfK (bt (uT s)) (uT s).size).1 = s := by
  obtain ⟨hb, o, l, r, hu, h5, hT⟩ := uT_yes h
  obtain ⟨h300, hbits⟩ := bitB_of hb
  have ho := usK_bits (bt s) s.size hbits o l r hu
  have hl := (usK_bd hu).2.2
  rw [hT]
  refine ⟨by rw [strOfNums_size]; omega, bits_str ho, ?_⟩
  rw [strOfNums_size, sfK_congr (g := gL o) o.length (fun i hi => bt_gL ho hi), ((sf_us (bt s) s.size hbits o l r hu).1 h5)]
  exact str_flK s
theorem sfK_bits (f : Nat → Int) : ∀ k, (∀ i, i < k → f i = 48 ∨ f i = 49) → ∀ x ∈ (sfK f k).1, x = 48 ∨ x = 49
  | 0, _, x, hx => by cases hx
  | k + 1, hb, x, hx => by
    have ih := sfK_bits f k (fun i hi => hb i (by omega)) x
    have hk := hb k (by omega)
    rw [sfK] at hx
    split at hx <;> simp only [List.mem_append, List.mem_singleton] at hx
    · rcases hx with (q | q) | q
      · exact ih q
      · rw [q]; exact hk
      · omega
    · rcases hx with q | q
      · exact ih q
      · rw [q]; exact hk
/-- what is stuffed is taken out again -/
theorem uT_sf {b : ByteArray} (h : b.size ≤ 100) (hb : ∀ i, i < b.size → bt b i = 48 ∨ bt b i = 49) : uB (strOfNums (sfK (bt b) b.size).1) = true ∧ uT (strOfNums (sfK (bt b) b.size).1) = b := by
  have hl := sfK_len (bt b) b.size
  have hx := sfK_bits (bt b) b.size hb
  have hbb : bitB (strOfNums (sfK (bt b) b.size).1) = true := bitB_mk (by rw [strOfNums_size]; omega) (bits_str hx)
  have hu := us_sf (bt b) b.size hb
  rw [← usK_congr (f := bt (strOfNums (sfK (bt b) b.size).1)) (sfK (bt b) b.size).1.length (fun i hi => bt_gL hx hi)] at hu
  have h5 := (sfK_bd (bt b) b.size).2
  have hu' : usK (bt (strOfNums (sfK (bt b) b.size).1)) (strOfNums (sfK (bt b) b.size).1).size = some (flK (bt b) b.size, (sfK (bt b) b.size).2.1, (sfK (bt b) b.size).2.2) := by rw [strOfNums_size]; exact hu
  have := uv_ok hbb hu' (by omega)
  rw [str_flK] at this
  exact ⟨this.2, this.1⟩
theorem nm_bits (a : List Int) : ∀ (n v : Nat) (b : List Int), v < 2 ^ n → nmK (gL (a ++ bitL v n ++ b)) a.length n = v
  | 0, v, b, h => by have : v = 0 := by simpa using h
                     subst this; rfl
  | n + 1, v, b, h => by
    have e : a ++ bitL v (n + 1) ++ b = a ++ bitL (v / 2) n ++ (dgt v 0 :: b) := by rw [bitL_succ]; simp
    rw [nmK, e, nm_bits a n (v / 2) (dgt v 0 :: b) (by rw [Nat.pow_succ] at h; omega)]
    have e2 : a.length + n = (a ++ bitL (v / 2) n).length := by rw [List.length_append, putL_len]
    rw [e2, gL_app_at]
    unfold dgt
    simp only [Nat.pow_zero, Nat.div_one]
    omega
theorem bd_many (I n : Nat) (f : Nat → Int) (hn : n ≤ 8) : nmK (bt (bdT I n f)) 12 4 = n := by
  have e : bdL I n f = ([48] ++ bitL I 11) ++ bitL n 4 ++ (dtK f n ++ bitL (smL (pnL I n f)) 15) := by unfold bdL; rw [show pnL I n f = hdL I n ++ dtK f n from rfl]; unfold hdL; simp
  have hl := bdL_len I n f
  have k := nm_bits ([48] ++ bitL I 11) 4 n (dtK f n ++ bitL (smL (pnL I n f)) 15) (by omega)
  rw [← e] at k
  have hl12 : ([48] ++ bitL I 11 : List Int).length = 12 := by rw [List.length_append, putL_len]; rfl
  rw [hl12] at k
  unfold bdT
  rw [nmK_congr (g := gL (bdL I n f)) (b := 12) 4 (fun i hi => bt_gL (bdL_bd I n f) (by omega))]
  exact k
theorem bd_first (I n : Nat) (f : Nat → Int) : bt (bdT I n f) 0 = 48 := by
  have hl := bdL_len I n f
  have := bt_gL (bdL_bd I n f) (i := 0) (by omega)
  unfold bdT
  rw [this]
  unfold bdL pnL hdL
  simp [gL]
/-- where a frame's bits end -/
abbrev enT : ByteArray := ⟨#[49, 49, 49, 49, 49, 49, 49]⟩
def cutT (s : ByteArray) : ByteArray := ⟨(Lib.trimSuffix s.data.toList enT.data.toList).toArray⟩
def hdT (s : ByteArray) : ByteArray := s.extract 0 (s.size - 7)
theorem cut_app (p : ByteArray) : cutT (p ++ enT) = p := by
  have e : (p ++ enT).data.toList = p.data.toList ++ enT.data.toList := by simp
  unfold cutT Lib.trimSuffix Lib.hasSuffix
  rw [e, if_pos (List.isSuffixOf_iff_suffix.2 (List.suffix_append _ _))]
  simp
theorem hd_app (s : ByteArray) (h : 7 ≤ s.size) (he : s.extract (s.size - 7) s.size = enT) : s = hdT s ++ enT := by
  rw [← he]
  unfold hdT
  apply ByteArray.ext
  simp only [ByteArray.data_append, ByteArray.data_extract]
  rw [Array.extract_append_extract]
  have : s.size = s.data.size := rfl
  rw [Nat.min_eq_left (Nat.zero_le _), Nat.max_eq_right (by omega), this, Array.extract_size]
theorem app_ends (p : ByteArray) : 7 ≤ (p ++ enT).size ∧ (p ++ enT).extract ((p ++ enT).size - 7) (p ++ enT).size = enT ∧ hdT (p ++ enT) = p := by
  have hs : (p ++ enT).size = p.size + 7 := by rw [ByteArray.size_append]; rfl
  refine ⟨by omega, ?_, ?_⟩
  · apply ByteArray.ext
    rw [hs]
    simp only [ByteArray.data_append, ByteArray.data_extract]
    rw [Array.extract_append]
    have : p.data.size = p.size := rfl
    simp [this]
  · unfold hdT
    apply ByteArray.ext
    rw [hs]
    simp only [ByteArray.data_append, ByteArray.data_extract]
    rw [Array.extract_append]
    have : p.data.size = p.size := rfl
    simp [this]
end Go.Proofs.YtplpggcbpcebcaaDoor
