/- A frame's bits: as numbers, and as the model lays them. -/
import Derived.Test.YtplpggcbpcebcaaDoorFbT
import Derived.Test.YtplpggcbpcebcaaDoorFrGood
namespace Go.Proofs.YtplpggcbpcebcaaDoor
open Go.RowKit
theorem bt_str (l : List Int) (h : ∀ x ∈ l, x = 48 ∨ x = 49) (i : Nat) (hi : i < l.length) : bt (strOfNums l) i = l[i] := by
  have hs : i < (strOfNums l).size := by rw [strOfNums_size]; exact hi
  unfold bt
  rw [dif_pos hs]
  have hx := h l[i] (List.getElem_mem hi)
  have e : ((strOfNums l)[i]) = UInt8.ofNat (l[i]).toNat := by
    show ((l.map fun n => UInt8.ofNat n.toNat).toArray)[i]'(by simpa using hi) = _
    simp
  rw [e]
  rcases hx with q | q <;> rw [q] <;> rfl
theorem bits_str {l : List Int} (h : ∀ x ∈ l, x = 48 ∨ x = 49) : ∀ i, i < (strOfNums l).size → bt (strOfNums l) i = 48 ∨ bt (strOfNums l) i = 49 := fun i hi => by
  rw [strOfNums_size] at hi
  rw [bt_str l h i hi]
  exact h _ (List.getElem_mem hi)
/-- the bits of the first k bytes -/
def dtK (f : Nat → Int) : Nat → List Int
  | 0 => []
  | k + 1 => dtK f k ++ bitL (f k).toNat 8
theorem dtK_len (f : Nat → Int) : ∀ k, (dtK f k).length = 8 * k
  | 0 => rfl
  | k + 1 => by unfold dtK; rw [List.length_append, dtK_len f k, putL_len]; omega
theorem dtK_bd (f : Nat → Int) : ∀ k, ∀ x ∈ dtK f k, x = 48 ∨ x = 49
  | 0, x, h => by cases h
  | k + 1, x, h => by
    unfold dtK at h
    rcases List.mem_append.1 h with q | q
    · exact dtK_bd f k x q
    · exact putL_bd _ _ _ x q
/-- ahead of the data -/
def hdL (I n : Nat) : List Int := [48] ++ bitL I 11 ++ bitL n 4
theorem hdL_len (I n : Nat) : (hdL I n).length = 16 := by unfold hdL; rw [List.length_append, List.length_append, putL_len, putL_len]; rfl
theorem hdL_bd (I n : Nat) : ∀ x ∈ hdL I n, x = 48 ∨ x = 49 := fun x h => by
  unfold hdL at h
  rcases List.mem_append.1 h with q | q
  · rcases List.mem_append.1 q with r | r
    · simp at r; exact .inl r
    · exact putL_bd _ _ _ x r
  · exact putL_bd _ _ _ x q
def pnL (I n : Nat) (f : Nat → Int) : List Int := hdL I n ++ dtK f n
theorem pnL_len (I n : Nat) (f : Nat → Int) : (pnL I n f).length = 16 + 8 * n := by unfold pnL; rw [List.length_append, hdL_len, dtK_len]
theorem pnL_bd (I n : Nat) (f : Nat → Int) : ∀ x ∈ pnL I n f, x = 48 ∨ x = 49 := fun x h => by
  unfold pnL at h
  rcases List.mem_append.1 h with q | q
  · exact hdL_bd _ _ x q
  · exact dtK_bd _ _ x q
/-- the sum of bits that are a list -/
def smL (l : List Int) : Nat := crK (bt (strOfNums l)) (strOfNums l).size
theorem smL_bd (l : List Int) : smL l < 32768 := crK_bd _ _
def bdL (I n : Nat) (f : Nat → Int) : List Int := pnL I n f ++ bitL (smL (pnL I n f)) 15
theorem bdL_len (I n : Nat) (f : Nat → Int) : (bdL I n f).length = 31 + 8 * n := by unfold bdL; rw [List.length_append, pnL_len, putL_len]; omega
theorem bdL_bd (I n : Nat) (f : Nat → Int) : ∀ x ∈ bdL I n f, x = 48 ∨ x = 49 := fun x h => by
  unfold bdL at h
  rcases List.mem_append.1 h with q | q
  · exact pnL_bd _ _ _ x q
  · exact putL_bd _ _ _ x q
/-- the body, as a text -/
def bdT (I n : Nat) (f : Nat → Int) : ByteArray := strOfNums (bdL I n f)
theorem bdT_size (I n : Nat) (f : Nat → Int) : (bdT I n f).size = 31 + 8 * n := by unfold bdT; rw [strOfNums_size, bdL_len]
theorem bdT_bits (I n : Nat) (f : Nat → Int) : ∀ i, i < (bdT I n f).size → bt (bdT I n f) i = 48 ∨ bt (bdT I n f) i = 49 := bits_str (bdL_bd I n f)
/-- the frame's bits -/
def frT (I n : Nat) (f : Nat → Int) : ByteArray := strOfNums (sfK (bt (bdT I n f)) (bdT I n f).size).1 ++ ⟨#[49, 49, 49, 49, 49, 49, 49]⟩
theorem yl_at {w : World} {a : Option Addr} {n : Nat} {f : Nat → Int} (h : YL w a n f) {k : Nat} (hk : k < n) : ∃ b off, a = some ⟨b, off, none⟩ ∧ b < w.heap.size ∧ w.cell? ⟨b, off + k, none⟩ = some (.int .u8 (f k)) := by
  obtain ⟨b, off, e, hb, hc⟩ := h (by omega)
  exact ⟨b, off, e, hb, hc k hk⟩
theorem owY_lit1 (w : World) (x : Int) (base : Nat) (h : base ≤ w.heap.size) : OwY (w.alloc (.cells #[.int .u8 x] 5)) base (.slice (some ⟨w.heap.size, 0, none⟩) 1 1) [x] :=
  ⟨rfl, .inr ⟨w.heap.size, 1, #[.int .u8 x], rfl, h, heap_alloc_new w _, Nat.le_refl _, by unfold maxLen; omega, rfl, rfl⟩⟩
set_option maxRecDepth 20000 in
set_option maxHeartbeats 4000000 in
theorem sBody (I : Nat) (a : Option Addr) (n c : Nat) (f : Nat → Int) (w : World) (hI : I < 2048) (hn : n ≤ 8) (hf : YL w a n f) (hbd : ∀ i, i < n → 0 ≤ f i ∧ f i ≤ 255) :
    Calls Tryd.prog 28 #[frv (I : Int) a n c] w fun e w' => e = .returned (.string (bdT I n f)) ∧ Below w.heap.size w w' := by
  have hx0 : Below w.heap.size w (w.alloc (.cells (frvL (I : Int) a n c).toArray 24)) := (Below.refl _ _).alloc (Nat.le_refl _) _
  have z1 := bx_new (w := w) (frvL (I : Int) a n c) 24 rfl
  have hs1 : (w.alloc (.cells (frvL (I : Int) a n c).toArray 24)).heap.size = w.heap.size + 1 := size_al _ _
  generalize hw1 : w.alloc (.cells (frvL (I : Int) a n c).toArray 24) = w1 at *
  have hx1 : Below w1.heap.size w1 (w1.alloc (.cells #[.int .u8 48] 5)) := (Below.refl _ _).alloc (Nat.le_refl _) _
  have z2 := z1.on hx1
  have hB2 := stepA hx0 hx1
  have hO2 := owY_lit1 w1 48 (w.heap.size + 1) (by omega)
  have hs2 : (w1.alloc (.cells #[.int .u8 48] 5)).heap.size = w1.heap.size + 1 := size_al _ _
  clear hx0 hx1 z1
  generalize hw2 : w1.alloc (.cells #[.int .u8 48] 5) = w2 at *
  have x0 := z2.c0
  have x1 := z2.c1
  have kP := sPut (w.heap.size + 1) (some ⟨w1.heap.size, 0, none⟩) 1 [48] I 11 w2 (by omega) (by omega) (by simp) hO2 (by omega)
  obtain ⟨HZ, hHZ⟩ : ∃ HZ, bdT I n f = HZ := ⟨_, rfl⟩
  have HB : Hid (strOfNums (pnL I n f ++ bitL (smL (pnL I n f)) 15) = HZ) := hHZ
  rw [hHZ]
  clear hHZ
  have HF : Hid (∀ i, i < n → 0 ≤ f i ∧ f i ≤ 255) := hbd
  have HX : Hid (w2.heap.size = w.heap.size + 2) := by show _ = _; omega
  clear hbd hO2 hs1 hs2
  go_enter Tryd.func28, Tryd.ntmps28
  go_wp2_with fail
  refine kP.mono ?_
  rintro e w3 ⟨⟨a3, c3, rfl, hO3⟩, hb3⟩
  have z3 := z2.below hb3 (Nat.lt_succ_self _)
  have hB3 : Below w.heap.size w w3 := hB2.trans (hb3.mono (Nat.le_succ _))
  have hs3 := hb3.size
  have y0 := z3.c0
  have y1 := z3.c1
  have l3 := z3.lt
  have hl3 : ([48] ++ bitL I 11 : List Int).length ≤ 1000 := by rw [List.length_append, putL_len]; simp
  have kP2 := sPut (w.heap.size + 1) a3 c3 ([48] ++ bitL I 11) n 4 w3 (by omega) (by omega) hl3 hO3 (by have := HX.out; omega)
  clear kP x0 x1 z2 hw1 hw2 hB2
  go_wp2_with fail
  refine kP2.mono ?_
  rintro e w4 ⟨⟨a4, c4, rfl, hO4⟩, hb4⟩
  have z4 := z3.below hb4 (Nat.lt_succ_self _)
  have hB4 : Below w.heap.size w w4 := hB3.trans (hb4.mono (Nat.le_succ _))
  have hs4 := hb4.size
  have u0 := z4.c0
  have u1 := z4.c1
  have l4 := z4.lt
  clear kP2 y0 y1 z3 hB3 l3 hl3
  have HO4 : Hid (OwY w4 (w.heap.size + 1) (.slice a4 ([48] ++ bitL I 11 ++ bitL n 4).length c4) ([48] ++ bitL I 11 ++ bitL n 4)) := hO4
  clear hO4 hO3 hb4 hb3
  obtain ⟨o4, ho4⟩ : ∃ o4, [48] ++ bitL I 11 ++ bitL n 4 = o4 := ⟨_, rfl⟩
  have HE4 : Hid (o4 = hdL I n ++ dtK f 0) := by show _ = _; rw [← ho4]; simp [hdL, dtK]
  rw [ho4] at HO4
  have hol4 : o4.length = 16 := by rw [HE4.out, List.length_append, hdL_len]; rfl
  rw [ho4]
  clear ho4
  have HSZ4 : Hid (w.heap.size + 1 ≤ w4.heap.size) := by show _ ≤ _; omega
  have HL4 : Hid (o4.length = 16) := hol4
  clear hol4
  go_wp2_with fail
  go_loopw [3, 19] (fun v i wr => ∃ (k : Nat) (x : Option Addr) (d : Nat) (o : List Int), k ≤ n ∧ v = .slice x o.length d ∧ i = .int .i64 (k : Int) ∧ Hid (o = hdL I n ++ dtK f k) ∧ Hid (OwY wr (w.heap.size + 1) (.slice x o.length d) o) ∧ Below w.heap.size w wr ∧ Hid (w.heap.size + 1 ≤ wr.heap.size)) (fun _ i _ => n - (intOf i).toNat)
  case atStart => exact ⟨0, a4, c4, o4, Nat.zero_le _, rfl, rfl, HE4, HO4, hB4, HSZ4⟩
  case round =>
    obtain ⟨k, x, d, o, hk, rfl, rfl, HE, HO, hB, HSZ⟩ := hrel
    clear HE4 HO4 hB4 HSZ4 HL4
    have hol : o.length = 16 + 8 * k := by rw [HE.out, List.length_append, hdL_len, dtK_len]
    by_cases hlt : k < n
    · obtain ⟨b1, o1, rfl, l1, v0⟩ := yl_at (hf.below hB) hlt
      have j0 : (0 : Int) ≤ (k : Int) := by omega
      have j1 : (k : Int) < (n : Int) := by omega
      obtain ⟨q0, q1⟩ := HF.out k hlt
      obtain ⟨V, hV⟩ : ∃ V : Nat, f k = (V : Int) := ⟨(f k).toNat, by omega⟩
      have hVb : V ≤ 255 := by omega
      rw [hV] at v0
      have kP := sPut (w.heap.size + 1) x d o V 8 wr (by omega) (by omega) (by omega) HO.out HSZ.out
      have HE2 : Hid (o ++ bitL V 8 = hdL I n ++ dtK f (k + 1)) := by
        show _ = _
        unfold dtK
        rw [HE.out, hV, Int.toNat_natCast, List.append_assoc]
      clear HE HO hV q0 q1
      have HLo : Hid (o.length = 16 + 8 * k) := hol
      clear hol
      go_wp2_with fail
      refine kP.mono ?_
      rintro e w6 ⟨⟨a6, c6, rfl, hO6⟩, hb6⟩
      have hB6 : Below w.heap.size w w6 := hB.trans (hb6.mono (Nat.le_succ _))
      have HO6 : Hid (OwY w6 (w.heap.size + 1) (.slice a6 (o ++ bitL V 8).length c6) (o ++ bitL V 8)) := hO6
      have HS6 : Hid (w.heap.size + 1 ≤ w6.heap.size) := Nat.le_trans HSZ.out hb6.size
      clear kP hO6 hb6 hB
      generalize o ++ bitL V 8 = o6 at *
      go_wp2
      exact ⟨⟨k + 1, a6, c6, o6, by omega, rfl, by go_num, HE2, HO6, hB6, HS6⟩, by simp [intOf]; omega⟩
    · have hke : k = n := by omega
      subst hke
      have hpn : o = pnL I k f := HE.out
      have hbt : ∀ y ∈ o, y = 48 ∨ y = 49 := by rw [hpn]; exact pnL_bd _ _ _
      have htx := HO.out.text
      have kC := sCrc (strOfNums o) wr (by rw [strOfNums_size]; omega) (bits_str hbt)
      have hsm : crK (bt (strOfNums o)) (strOfNums o).size = smL o := rfl
      rw [hsm] at kC
      have hsb := smL_bd o
      have kP := sPut (w.heap.size + 1) x d o (smL o) 15 wr hsb (by omega) (by omega) HO.out HSZ.out
      rw [← hpn] at HB
      have HLo : Hid (o.length = 16 + 8 * k) := hol
      clear HE HO hpn hbt hsm hol hsb
      generalize smL o = SM at *
      generalize strOfNums o = T at *
      go_wp2_with (first | (go_at_call 51; refine kC.mono ?_; rintro e w9 ⟨rfl, hw9⟩; have hs' := hw9.symm; clear hw9; subst hs') | fail)
      refine kP.mono ?_
      rintro e w7 ⟨⟨a7, c7, rfl, hO7⟩, hb7⟩
      have htx7 := hO7.text
      rw [HB.out] at htx7
      clear kP kC hO7 htx HB
      generalize (o ++ bitL SM 15).length = L7 at *
      go_wp2
      go_ret
      exact ⟨rfl, hB.trans (hb7.mono (Nat.le_succ _))⟩
end Go.Proofs.YtplpggcbpcebcaaDoor
