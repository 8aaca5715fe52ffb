/- The walk of the law FnFrames. -/
import Derived.Test.YtplpggcbpcebcaaDoorFdG
import Derived.Test.YtplpggcbpcebcaaDoorFcI
namespace Go.Proofs.YtplpggcbpcebcaaDoor
open Go.RowKit
theorem bl_on {w w' : World} {a : Option Addr} {len : Nat} (hb : 0 < len → ∃ b off, a = some ⟨b, off, none⟩ ∧ b < w.heap.size ∧ ∀ i, i < len → ∃ v : Int, w.cell? ⟨b, off + i, none⟩ = some (.int .u8 v) ∧ 0 ≤ v ∧ v ≤ 255) (k : Below w.heap.size w w') : 0 < len → ∃ b off, a = some ⟨b, off, none⟩ ∧ b < w'.heap.size ∧ ∀ i, i < len → ∃ v : Int, w'.cell? ⟨b, off + i, none⟩ = some (.int .u8 v) ∧ 0 ≤ v ∧ v ≤ 255 := fun h0 => by
  obtain ⟨b, off, e, hlt, hc⟩ := hb h0
  refine ⟨b, off, e, Nat.lt_of_lt_of_le hlt k.size, fun i hi => ?_⟩
  obtain ⟨v, hv, hv1⟩ := hc i hi
  exact ⟨v, (k.cell (p := ⟨b, _, none⟩) hlt).trans hv, hv1⟩
/-- what is stuffed is taken out again where the stuffed text is not too long -/
theorem uT_sf2 {b : ByteArray} (hb : ∀ i, i < b.size → bt b i = 48 ∨ bt b i = 49) (hl : (sfK (bt b) b.size).1.length ≤ 300) : uB (strOfNums (sfK (bt b) b.size).1) = true ∧ uT (strOfNums (sfK (bt b) b.size).1) = b := by
  have hx := sfK_bits (bt b) b.size hb
  have hbb : bitB (strOfNums (sfK (bt b) b.size).1) = true := bitB_mk (by rw [strOfNums_size]; omega) (bits_str hx)
  have hu := us_sf (bt b) b.size hb
  rw [← usK_congr (f := bt (strOfNums (sfK (bt b) b.size).1)) (sfK (bt b) b.size).1.length (fun i hi => bt_gL hx hi)] at hu
  have h5 := (sfK_bd (bt b) b.size).2
  have hu' : usK (bt (strOfNums (sfK (bt b) b.size).1)) (strOfNums (sfK (bt b) b.size).1).size = some (flK (bt b) b.size, (sfK (bt b) b.size).2.1, (sfK (bt b) b.size).2.2) := by rw [strOfNums_size]; exact hu
  have := uv_ok hbb hu' (by omega)
  rw [str_flK] at this
  exact ⟨this.2, this.1⟩
theorem uB_long {s : ByteArray} (h : 300 < s.size) : uB s = false := by
  have : bitB s = false := by
    cases e : bitB s with
    | false => rfl
    | true => have := (bitB_of e).1; omega
  exact (uv_not this).2
theorem ns_str (b : ByteArray) (hb : ∀ i, i < b.size → bt b i = 48 ∨ bt b i = 49) : ∀ i, i ≤ (strOfNums (sfK (bt b) b.size).1).size → nsK (bt (strOfNums (sfK (bt b) b.size).1)) i ≤ 5 := fun i hi => by
  rw [strOfNums_size] at hi
  rw [nsK_congr (g := gL (sfK (bt b) b.size).1) i (fun j hj => bt_gL (sfK_bits (bt b) b.size hb) (by omega))]
  exact (sf_ns (bt b) b.size hb).1.m i hi
theorem frT_size (I n : Nat) (f : Nat → Int) (hn : n ≤ 8) : (frT I n f).size ≤ 1000 := by
  unfold frT
  rw [ByteArray.size_append, strOfNums_size]
  have h1 := sfK_len (bt (bdT I n f)) (bdT I n f).size
  have h2 := bdT_size I n f
  have h3 : (⟨#[49, 49, 49, 49, 49, 49, 49]⟩ : ByteArray).size = 7 := rfl
  omega
/-- what ReadFrame tells of a drawn frame's bits -/
theorem rd_out (W : Int) (n : Nat) (f : Nat → Int) (hf : ∀ i, i < n → 0 ≤ f i ∧ f i ≤ 255) : (frOut W n f).size ≤ 1000 ∧ rdB (frOut W n f) = frB W n ∧ (frB W n = true → rdI (frOut W n f) = W ∧ rdN (frOut W n f) = n ∧ ∀ i, i < n → dtF (plT (frOut W n f)) i = f i) := by
  cases hq : frB W n with
  | false =>
    unfold frOut
    rw [hq]
    exact ⟨Nat.zero_le _, rd_none, fun h => by cases h⟩
  | true =>
    obtain ⟨h0, h1, hn⟩ := frB_of hq
    unfold frOut
    rw [hq, if_pos rfl]
    obtain ⟨r1, r2, r3, r4⟩ := rd_back W.toNat n f (by omega) hn hf
    exact ⟨frT_size _ _ _ hn, r1, fun _ => ⟨by rw [r2]; omega, r3, r4⟩⟩
set_option maxRecDepth 20000 in
set_option maxHeartbeats 4000000 in
theorem framesLaw (a a2 : Option Addr) (len cap len2 cap2 : Nat) (w : World) (hl : len ≤ 1048576) (hl2 : len2 ≤ 1048576) (hb : 0 < len → ∃ b off, a = some ⟨b, off, none⟩ ∧ b < w.heap.size ∧ ∀ i, i < len → ∃ v : Int, w.cell? ⟨b, off + i, none⟩ = some (.int .u8 v) ∧ 0 ≤ v ∧ v ≤ 255) (hb2 : 0 < len2 → ∃ b off, a2 = some ⟨b, off, none⟩ ∧ b < w.heap.size ∧ ∀ i, i < len2 → ∃ v : Int, w.cell? ⟨b, off + i, none⟩ = some (.int .u8 v) ∧ 0 ≤ v ∧ v ≤ 255) (hD : Db w) :
    Calls Tryd.prog 3 #[.slice a len cap, .slice a2 len2 cap2] w fun e w' => e = .returned (.bool true) ∧ Below w.heap.size w w' := by
  have j : ¬ (1048576 : Int) < (len : Int) := by omega
  have j2 : ¬ (1048576 : Int) < (len2 : Int) := by omega
  have kD := drawFB a len cap w hl hb
  have kE := fun w2 (h : Below w.heap.size w w2) => drawSB a2 len2 cap2 w2 hl2 (bl_on hb2 h)
  clear hb hb2
  go_enter Tryd.func3, Tryd.ntmps3
  go_wp2_with fail
  refine kD.mono ?_
  rintro e w1 ⟨W, x, n, c, f, rfl, hn, ⟨hi, hQ⟩, hbd, hb1⟩
  clear kD
  have z1 := bx_new (w := w1) (frvL W x n c) 24 rfl
  have hx1 : Below w1.heap.size w1 (w1.alloc (frvO W x n c 24)) := (Below.refl _ _).alloc (Nat.le_refl _) _
  have hf2 := hQ.yl.below hx1
  have hB2 := stepA hb1 hx1
  clear hQ hb1 hx1
  obtain ⟨hTs, hR1, hR2⟩ := rd_out W n f hbd
  have HR : Hid (frB W n = true → rdI (frOut W n f) = W ∧ rdN (frOut W n f) = n ∧ ∀ i, i < n → dtF (plT (frOut W n f)) i = f i) := hR2
  clear hR2
  have kI := iFrameBits W x n c f (w1.alloc (frvO W x n c 24)) hf2 hbd (hD.on hB2)
  have x0 := z1.c0
  have x1 := z1.c1
  go_wp2_with fail
  refine kI.mono ?_
  rintro e w3 ⟨rfl, hb3⟩
  have z3 := z1.on hb3
  have hf3 := hf2.below hb3
  have hB3 := stepA hB2 hb3
  clear kI hb3 z1 hf2 hB2 x0 x1
  have x0 := z3.c0
  have x1 := z3.c1
  have kS := sFrameBits W x n c f w3 hf3 hbd
  go_wp2_with fail
  refine kS.mono ?_
  rintro e w4 ⟨rfl, hb4⟩
  have z4 := z3.on hb4
  have hf4 := hf3.below hb4
  have hB4 := stepA hB3 hb4
  clear kS hb4 z3 hf3 hB3 x0 x1
  have kR := iRead (frOut W n f) w4 (by omega) (hD.on hB4)
  unfold AnsF at kR
  rw [hR1] at kR
  generalize frOut W n f = T at *
  go_wp2_with fail
  refine kR.mono ?_
  rintro e w5 ⟨⟨a5, c5, rfl, hQ5⟩, hb5⟩
  have z5 := z4.on hb5
  have hf5 := hf4.below hb5
  have hB5 := stepA hB4 hb5
  clear kR hb5 z4 hf4 hB4
  have zg := bx_new (w := w5) (frvL (rdI T) a5 (rdN T) c5) 24 rfl
  have hx5 : Below w5.heap.size w5 (w5.alloc (frvO (rdI T) a5 (rdN T) c5 24)) := (Below.refl _ _).alloc (Nat.le_refl _) _
  have z6 := z5.on hx5
  have hf6 := hf5.below hx5
  have hQ6 := hQ5.on hx5
  have hB6 := stepA hB5 hx5
  clear hQ5 hx5 z5 hf5 hB5
  have kG := sGoodF W x n c (w5.alloc (frvO (rdI T) a5 (rdN T) c5 24))
  go_upto_region 8 with fail
  generalize w5.heap.size = L5 at *
  generalize w5.alloc (frvO (rdI T) a5 (rdN T) c5 24) = w6 at *
  have x0 := z6.c0
  have x1 := z6.c1
  cases hq : frB W n with
  | false =>
    rw [hq] at kG
    go_wp2_with fail
    refine kG.mono ?_
    rintro e w8 ⟨rfl, hb8⟩
    have hB8 := stepA hB6 hb8
    clear kG hb8 z6 hf6 hQ6 hB6 zg x0 x1 HR hR1
    have kB := kE w8 hB8
    go_wp2_with fail
    refine kB.mono ?_
    rintro e w9 ⟨b, rfl, hbs, hb9⟩
    have hB9 := stepA hB8 hb9
    clear kB kE hb9 hB8
    have kS := fun w2 => iStuff b w2 (by omega)
    cases hbb : bitB b with
    | false =>
      rw [hbb] at kS
      have kU := fun w2 => iUn ⟨#[]⟩ w2 (by decide)
      go_wp2_with fail
      refine (kS _).mono ?_
      rintro e w10 ⟨rfl, hb10⟩
      have hB10 := stepA hB9 hb10
      clear kS hb10 hB9
      go_wp2_with fail
      refine (kU _).mono ?_
      rintro e w11 ⟨rfl, hb11⟩
      have hB11 := stepA hB10 hb11
      clear kU hb11 hB10
      go_wp2
      go_ret
      exact ⟨rfl, hB11⟩
    | true =>
      rw [hbb, if_pos rfl] at kS
      have hbits := (bitB_of hbb).2
      have hsl := sfK_len (bt b) b.size
      have hss := strOfNums_size (sfK (bt b) b.size).1
      have kU := fun w2 => iUn (strOfNums (sfK (bt b) b.size).1) w2 (by omega)
      by_cases h3 : (sfK (bt b) b.size).1.length ≤ 300
      · obtain ⟨u1, u2⟩ := uT_sf2 hbits h3
        have kN := fun w2 => noSix (strOfNums (sfK (bt b) b.size).1) w2 (by omega) (ns_str b hbits)
        rw [u1, u2] at kU
        clear u1 u2 hbits
        generalize strOfNums (sfK (bt b) b.size).1 = t at *
        go_wp2_with fail
        refine (kS _).mono ?_
        rintro e w10 ⟨rfl, hb10⟩
        have hB10 := stepA hB9 hb10
        clear kS hb10 hB9
        go_wp2_with fail
        refine (kU _).mono ?_
        rintro e w11 ⟨rfl, hb11⟩
        have hB11 := stepA hB10 hb11
        clear kU hb11 hB10
        go_wp2_with fail
        refine (kN _).mono ?_
        rintro e w12 ⟨rfl, hb12⟩
        have hB12 := stepA hB11 hb12
        clear kN hb12 hB11
        go_wp2
        go_ret
        exact ⟨rfl, hB12⟩
      · have u1 := uB_long (s := strOfNums (sfK (bt b) b.size).1) (by omega)
        have u2 := uT_no u1
        rw [u1, u2] at kU
        have j3 : (300 : Int) < ((strOfNums (sfK (bt b) b.size).1).size : Int) := by omega
        clear u1 u2 hbits
        generalize strOfNums (sfK (bt b) b.size).1 = t at *
        go_wp2_with fail
        refine (kS _).mono ?_
        rintro e w10 ⟨rfl, hb10⟩
        have hB10 := stepA hB9 hb10
        clear kS hb10 hB9
        go_wp2_with fail
        refine (kU _).mono ?_
        rintro e w11 ⟨rfl, hb11⟩
        have hB11 := stepA hB10 hb11
        clear kU hb11 hB10
        go_wp2
        go_ret
        exact ⟨rfl, hB11⟩
  | true =>
    obtain ⟨e1, e2, e3⟩ := HR.out hq
    rw [e1, e2] at zg
    rw [hq] at kG
    have y0 := zg.c0
    have y1 := zg.c1
    rw [e2] at hQ6
    have hQ7 := hQ6.congr (g := fun i => .int .u8 (f i)) (fun i hi => by rw [e3 i hi])
    clear e3 hQ6
    go_wp2_with fail
    refine kG.mono ?_
    rintro e w7 ⟨rfl, hb7⟩
    have z7 := z6.on hb7
    have zg7 := zg.on hb7
    have hf7 := hf6.below hb7
    have hQ8 := hQ7.on hb7
    have hB7 := stepA hB6 hb7
    clear kG hb7 z6 zg hf6 hQ7 hB6 x0 x1 y0 y1
    have x0 := z7.c0
    have x1 := z7.c1
    have y0 := zg7.c0
    have y1 := zg7.c1
    have kF := sameFr W x a5 n c c5 f w7 (by omega) hf7 hQ8.yl
    go_wp2_with fail
    refine kF.mono ?_
    rintro e w8 ⟨rfl, hb8⟩
    have hB8 := stepA hB7 hb8
    clear kF hb8 z7 zg7 hf7 hQ8 hB7 x0 x1 y0 y1 HR hR1 e1 e2
    have kB := kE w8 hB8
    go_wp2_with fail
    refine kB.mono ?_
    rintro e w9 ⟨b, rfl, hbs, hb9⟩
    have hB9 := stepA hB8 hb9
    clear kB kE hb9 hB8
    have kS := fun w2 => iStuff b w2 (by omega)
    cases hbb : bitB b with
    | false =>
      rw [hbb] at kS
      have kU := fun w2 => iUn ⟨#[]⟩ w2 (by decide)
      go_wp2_with fail
      refine (kS _).mono ?_
      rintro e w10 ⟨rfl, hb10⟩
      have hB10 := stepA hB9 hb10
      clear kS hb10 hB9
      go_wp2_with fail
      refine (kU _).mono ?_
      rintro e w11 ⟨rfl, hb11⟩
      have hB11 := stepA hB10 hb11
      clear kU hb11 hB10
      go_wp2
      go_ret
      exact ⟨rfl, hB11⟩
    | true =>
      rw [hbb, if_pos rfl] at kS
      have hbits := (bitB_of hbb).2
      have hsl := sfK_len (bt b) b.size
      have hss := strOfNums_size (sfK (bt b) b.size).1
      have kU := fun w2 => iUn (strOfNums (sfK (bt b) b.size).1) w2 (by omega)
      by_cases h3 : (sfK (bt b) b.size).1.length ≤ 300
      · obtain ⟨u1, u2⟩ := uT_sf2 hbits h3
        have kN := fun w2 => noSix (strOfNums (sfK (bt b) b.size).1) w2 (by omega) (ns_str b hbits)
        rw [u1, u2] at kU
        clear u1 u2 hbits
        generalize strOfNums (sfK (bt b) b.size).1 = t at *
        go_wp2_with fail
        refine (kS _).mono ?_
        rintro e w10 ⟨rfl, hb10⟩
        have hB10 := stepA hB9 hb10
        clear kS hb10 hB9
        go_wp2_with fail
        refine (kU _).mono ?_
        rintro e w11 ⟨rfl, hb11⟩
        have hB11 := stepA hB10 hb11
        clear kU hb11 hB10
        go_wp2_with fail
        refine (kN _).mono ?_
        rintro e w12 ⟨rfl, hb12⟩
        have hB12 := stepA hB11 hb12
        clear kN hb12 hB11
        go_wp2
        go_ret
        exact ⟨rfl, hB12⟩
      · have u1 := uB_long (s := strOfNums (sfK (bt b) b.size).1) (by omega)
        have u2 := uT_no u1
        rw [u1, u2] at kU
        have j3 : (300 : Int) < ((strOfNums (sfK (bt b) b.size).1).size : Int) := by omega
        clear u1 u2 hbits
        generalize strOfNums (sfK (bt b) b.size).1 = t at *
        go_wp2_with fail
        refine (kS _).mono ?_
        rintro e w10 ⟨rfl, hb10⟩
        have hB10 := stepA hB9 hb10
        clear kS hb10 hB9
        go_wp2_with fail
        refine (kU _).mono ?_
        rintro e w11 ⟨rfl, hb11⟩
        have hB11 := stepA hB10 hb11
        clear kU hb11 hB10
        go_wp2
        go_ret
        exact ⟨rfl, hB11⟩
set_option maxHeartbeats 400000 in
theorem frames_long1 (a a2 : Option Addr) (len cap len2 cap2 : Nat) (w : World) (hl : 1048576 < len) :
    Calls Tryd.prog 3 #[.slice a len cap, .slice a2 len2 cap2] w fun e w' => e = .returned (.bool true) ∧ Below w.heap.size w w' := by
  have j : (1048576 : Int) < (len : Int) := by omega
  have hB := Below.refl w.heap.size w
  go_enter Tryd.func3, Tryd.ntmps3
  go_wp2
  go_ret
  exact ⟨rfl, hB⟩
set_option maxHeartbeats 400000 in
theorem frames_long2 (a a2 : Option Addr) (len cap len2 cap2 : Nat) (w : World) (hl : len ≤ 1048576) (hl2 : 1048576 < len2) :
    Calls Tryd.prog 3 #[.slice a len cap, .slice a2 len2 cap2] w fun e w' => e = .returned (.bool true) ∧ Below w.heap.size w w' := by
  have j : ¬ (1048576 : Int) < (len : Int) := by omega
  have j2 : (1048576 : Int) < (len2 : Int) := by omega
  have hB := Below.refl w.heap.size w
  go_enter Tryd.func3, Tryd.ntmps3
  go_wp2
  go_ret
  exact ⟨rfl, hB⟩
theorem framesAll (a a2 : Option Addr) (len cap len2 cap2 : Nat) (w : World) (hb : 0 < len → ∃ b off, a = some ⟨b, off, none⟩ ∧ b < w.heap.size ∧ ∀ i, i < len → ∃ v : Int, w.cell? ⟨b, off + i, none⟩ = some (.int .u8 v) ∧ 0 ≤ v ∧ v ≤ 255) (hb2 : 0 < len2 → ∃ b off, a2 = some ⟨b, off, none⟩ ∧ b < w.heap.size ∧ ∀ i, i < len2 → ∃ v : Int, w.cell? ⟨b, off + i, none⟩ = some (.int .u8 v) ∧ 0 ≤ v ∧ v ≤ 255) (hD : Db w) :
    Calls Tryd.prog 3 #[.slice a len cap, .slice a2 len2 cap2] w fun e w' => e = .returned (.bool true) ∧ Below w.heap.size w w' := by
  by_cases h : len ≤ 1048576
  · by_cases h2 : len2 ≤ 1048576
    · exact framesLaw a a2 len cap len2 cap2 w h h2 hb hb2 hD
    · exact frames_long2 a a2 len cap len2 cap2 w h (by omega)
  · exact frames_long1 a a2 len cap len2 cap2 w (by omega)
end Go.Proofs.YtplpggcbpcebcaaDoor
