/- A frame's bits: FrameBits, both sides. -/
import Derived.Test.YtplpggcbpcebcaaDoorFbQ
namespace Go.Proofs.YtplpggcbpcebcaaDoor
open Go.RowKit
/-- what FrameBits tells -/
def frOut (W : Int) (n : Nat) (f : Nat → Int) : ByteArray := if frB W n = true then frT W.toNat n f else ⟨#[]⟩
theorem frB_of {W : Int} {n : Nat} (h : frB W n = true) : 0 ≤ W ∧ W ≤ 2047 ∧ n ≤ 8 := by
  unfold frB at h
  rw [Bool.and_eq_true, decide_eq_true_iff] at h
  exact ⟨(idB_of h.1).1, (idB_of h.1).2, h.2⟩
theorem bitB_mk {s : ByteArray} (h : s.size ≤ 300) (hb : ∀ i, i < s.size → bt s i = 48 ∨ bt s i = 49) : bitB s = true := by
  unfold bitB
  rw [Bool.and_eq_true, decide_eq_true_iff]
  exact ⟨h, (btsB_iff _ _).2 hb⟩
theorem add_end (s : ByteArray) (h : s.size ≤ 100000) (w : World) : (Op.stringOp .add s ⟨#[49, 49, 49, 49, 49, 49, 49]⟩).run Tryd.prog w = .ok (.string (s ++ ⟨#[49, 49, 49, 49, 49, 49, 49]⟩)) w :=
  run_string_add_sum _ _ _ (by
    have : (⟨#[49, 49, 49, 49, 49, 49, 49]⟩ : ByteArray).size = 7 := rfl
    omega)
set_option maxRecDepth 20000 in
set_option maxHeartbeats 4000000 in
theorem sFrameBits (W : Int) (a : Option Addr) (n c : Nat) (f : Nat → Int) (w : World) (hf : YL w a n f) (hbd : ∀ i, i < n → 0 ≤ f i ∧ f i ≤ 255) :
    Calls Tryd.prog 8 #[frv W a n c] w fun e w' => e = .returned (.string (frOut W n f)) ∧ Below w.heap.size w w' := by
  have hx0 : Below w.heap.size w (w.alloc (.cells (frvL W a n c).toArray 24)) := (Below.refl _ _).alloc (Nat.le_refl _) _
  have z1 := bx_new (w := w) (frvL W a n c) 24 rfl
  have x0 := z1.c0
  have x1 := z1.c1
  have kG := sGoodF W a n c (w.alloc (.cells (frvL W a n c).toArray 24))
  generalize hw1 : w.alloc (.cells (frvL W a n c).toArray 24) = w1 at *
  unfold frOut
  cases hq : frB W n with
  | false =>
    rw [hq] at kG
    clear hbd hf
    go_enter Tryd.func8, Tryd.ntmps8
    go_wp2_with fail
    refine kG.mono ?_
    rintro e w2 ⟨rfl, hb2⟩
    clear kG
    go_wp2
    go_ret
    exact ⟨rfl, stepA hx0 hb2⟩
  | true =>
    rw [hq] at kG
    obtain ⟨hW0, hW1, hn⟩ := frB_of hq
    obtain ⟨I, rfl⟩ : ∃ I : Nat, W = (I : Int) := ⟨W.toNat, by omega⟩
    have hI : I < 2048 := by omega
    rw [if_pos rfl, Int.toNat_natCast]
    have kB := fun w2 (h : Below w.heap.size w w2) => sBody I a n c f w2 hI hn (hf.below h) hbd
    have hsz := bdT_size I n f
    have kS := fun w2 => sStuffB (bdT I n f) w2 (by omega) (bdT_bits I n f)
    have hA := fun w2 => add_end (strOfNums (sfK (bt (bdT I n f)) (bdT I n f).size).1) (by rw [strOfNums_size]; have := sfK_len (bt (bdT I n f)) (bdT I n f).size; omega) w2
    unfold frT
    generalize strOfNums (sfK (bt (bdT I n f)) (bdT I n f).size).1 = S at *
    generalize bdT I n f = B at *
    generalize S ++ ⟨#[49, 49, 49, 49, 49, 49, 49]⟩ = R at *
    clear hbd hf hsz hW0 hW1 hq
    go_enter Tryd.func8, Tryd.ntmps8
    go_wp2_with fail
    refine kG.mono ?_
    rintro e w2 ⟨rfl, hb2⟩
    have z2 := z1.on hb2
    have hB2 := stepA hx0 hb2
    have y0 := z2.c0
    have y1 := z2.c1
    clear kG hb2 z1 x0 x1 hx0 hw1
    go_wp2_with fail
    refine (kB _ hB2).mono ?_
    rintro e w3 ⟨rfl, hb3⟩
    have hB3 := stepA hB2 hb3
    clear kB hb3
    go_wp2_with fail
    refine (kS _).mono ?_
    rintro e w4 ⟨rfl, hb4⟩
    have hB4 := stepA hB3 hb4
    clear kS hb4
    go_wp2
    go_ret
    exact ⟨rfl, hB4⟩
set_option maxRecDepth 20000 in
set_option maxHeartbeats 4000000 in
theorem iFrameBits (W : Int) (a : Option Addr) (n c : Nat) (f : Nat → Int) (w : World) (hf : YL w a n f) (hbd : ∀ i, i < n → 0 ≤ f i ∧ f i ≤ 255) (hD : Db w) :
    Calls Tryd.prog 7 #[frv W a n c] w fun e w' => e = .returned (.string (frOut W n f)) ∧ Below w.heap.size w w' := by
  have hx0 : Below w.heap.size w (w.alloc (.cells (frvL W a n c).toArray 24)) := (Below.refl _ _).alloc (Nat.le_refl _) _
  have z1 := bx_new (w := w) (frvL W a n c) 24 rfl
  have x0 := z1.c0
  have x1 := z1.c1
  have kG := iGoodF W a n c (w.alloc (.cells (frvL W a n c).toArray 24))
  generalize hw1 : w.alloc (.cells (frvL W a n c).toArray 24) = w1 at *
  unfold frOut
  cases hq : frB W n with
  | false =>
    rw [hq] at kG
    clear hbd hf
    go_enter Tryd.func7, Tryd.ntmps7
    go_wp2_with fail
    refine kG.mono ?_
    rintro e w2 ⟨rfl, hb2⟩
    clear kG
    go_wp2
    go_ret
    exact ⟨rfl, stepA hx0 hb2⟩
  | true =>
    rw [hq] at kG
    obtain ⟨hW0, hW1, hn⟩ := frB_of hq
    obtain ⟨I, rfl⟩ : ∃ I : Nat, W = (I : Int) := ⟨W.toNat, by omega⟩
    have hI : I < 2048 := by omega
    rw [if_pos rfl, Int.toNat_natCast]
    have kB := fun w2 (h : Below w.heap.size w w2) => iPlain I a n c f w2 hI hn (hf.below h) hbd (hD.on h)
    have hsz := bdT_size I n f
    have hpl := pnL_len I n f
    have kM := fun w2 => sumOf_any (strOfNums (pnL I n f)) w2 (by rw [strOfNums_size]; omega) (bits_str (pnL_bd I n f))
    have hsm : crK (bt (strOfNums (pnL I n f))) (strOfNums (pnL I n f)).size = smL (pnL I n f) := rfl
    rw [hsm] at kM
    have hsb := smL_bd (pnL I n f)
    have k15 := fun w2 (h : Below w.heap.size w w2) => bitsOf_any (smL (pnL I n f)) 15 (by omega) (by omega) hsb w2 (hD.on h)
    have hA1 : ∀ w2 : World, (Op.stringOp .add (strOfNums (pnL I n f)) (strOfNums (bitL (smL (pnL I n f)) 15))).run Tryd.prog w2 = .ok (.string (bdT I n f)) w2 := fun w2 => add_str _ _ (by rw [hpl, putL_len]; omega) w2
    have kS := fun w2 => iStuff (bdT I n f) w2 (by omega)
    have hbb : bitB (bdT I n f) = true := bitB_mk (by omega) (bdT_bits I n f)
    rw [hbb, if_pos rfl] at kS
    have hA := fun w2 => add_end (strOfNums (sfK (bt (bdT I n f)) (bdT I n f).size).1) (by rw [strOfNums_size]; have := sfK_len (bt (bdT I n f)) (bdT I n f).size; omega) w2
    unfold frT
    clear hbb hsm hpl
    generalize strOfNums (sfK (bt (bdT I n f)) (bdT I n f).size).1 = S at *
    generalize bdT I n f = B at *
    generalize S ++ ⟨#[49, 49, 49, 49, 49, 49, 49]⟩ = R at *
    generalize smL (pnL I n f) = M at *
    generalize strOfNums (pnL I n f) = P at *
    generalize strOfNums (bitL M 15) = Q at *
    clear hbd hf hsz hW0 hW1 hq hD
    go_enter Tryd.func7, Tryd.ntmps7
    go_wp2_with fail
    refine kG.mono ?_
    rintro e w2 ⟨rfl, hb2⟩
    have z2 := z1.on hb2
    have hB2 := stepA hx0 hb2
    have y0 := z2.c0
    have y1 := z2.c1
    clear kG hb2 z1 x0 x1 hx0 hw1
    go_wp2_with fail
    refine (kB _ hB2).mono ?_
    rintro e w3 ⟨rfl, hb3⟩
    have hB3 := stepA hB2 hb3
    clear kB hb3
    go_wp2_with fail
    refine (kM _).mono ?_
    rintro e w4 ⟨rfl, hb4⟩
    have hB4 := stepA hB3 hb4
    clear kM hb4
    go_wp2_with fail
    refine (k15 _ hB4).mono ?_
    rintro e w5 ⟨rfl, hb5⟩
    have hB5 := stepA hB4 hb5
    clear k15 hb5
    go_wp2_with fail
    refine (kS _).mono ?_
    rintro e w6 ⟨rfl, hb6⟩
    have hB6 := stepA hB5 hb6
    clear kS hb6
    go_wp2
    go_ret
    exact ⟨rfl, hB6⟩
end Go.Proofs.YtplpggcbpcebcaaDoor
