/- A frame's bits: both sides. -/
import Derived.Test.YtplpggcbpcebcaaDoorFbP
import Derived.Test.YtplpggcbpcebcaaDoorSfG
import Derived.Deep.CutRange
namespace Go.Proofs.YtplpggcbpcebcaaDoor
open Go.RowKit
theorem add_str (a b : List Int) (ha : a.length + b.length ≤ 100000) (w : World) : (Op.stringOp .add (strOfNums a) (strOfNums b)).run Tryd.prog w = .ok (.string (strOfNums (a ++ b))) w := by
  rw [← str_app]
  exact run_string_add_sum _ _ _ (by rw [strOfNums_size, strOfNums_size]; omega)
theorem zero_str : strOfNums [48] = ⟨#[48]⟩ := rfl
set_option maxRecDepth 20000 in
set_option maxHeartbeats 4000000 in
theorem iPlain (I : Nat) (a : Option Addr) (n c : Nat) (f : Nat → Int) (w : World) (hI : I < 2048) (hn : n ≤ 8) (hf : YL w a n f) (hbd : ∀ i, i < n → 0 ≤ f i ∧ f i ≤ 255) (hD : Db w) :
    Calls Tryd.prog 24 #[frv (I : Int) a n c] w fun e w' => e = .returned (.string (strOfNums (pnL I n f))) ∧ Below w.heap.size w w' := by
  have hx0 : Below w.heap.size w (w.alloc (.cells (frvL (I : Int) a n c).toArray 24)) := (Below.refl _ _).alloc (Nat.le_refl _) _
  have z1 := bx_new (w := w) (frvL (I : Int) a n c) 24 rfl
  have hD1 := hD.on hx0
  generalize hw1 : w.alloc (.cells (frvL (I : Int) a n c).toArray 24) = w1 at *
  have HF : Hid (∀ i, i < n → 0 ≤ f i ∧ f i ≤ 255) := hbd
  have x0 := z1.c0
  have x1 := z1.c1
  have l1 := z1.lt
  have k11 := fun w2 (h : Below w1.heap.size w1 w2) => bitsOf_any I 11 (by omega) (by omega) (by omega) w2 (hD1.on h)
  have k4 := fun w2 (h : Below w1.heap.size w1 w2) => bitsOf_any n 4 (by omega) (by omega) (by omega) w2 (hD1.on h)
  have a1 : ∀ w : World, (Op.stringOp .add ⟨#[48]⟩ (strOfNums (bitL I 11))).run Tryd.prog w = .ok (.string (strOfNums ([48] ++ bitL I 11))) w := fun w => add_str [48] (bitL I 11) (by rw [putL_len]; simp) w
  have a2 : ∀ w : World, (Op.stringOp .add (strOfNums ([48] ++ bitL I 11)) (strOfNums (bitL n 4))).run Tryd.prog w = .ok (.string (strOfNums (hdL I n))) w := fun w => add_str ([48] ++ bitL I 11) (bitL n 4) (by rw [List.length_append, putL_len, putL_len]; simp) w
  have HH : Hid (strOfNums (hdL I n) = strOfNums (hdL I n ++ dtK f 0)) := by show _ = _; simp [dtK]
  generalize strOfNums (bitL I 11) = T1 at *
  generalize strOfNums (bitL n 4) = T2 at *
  generalize strOfNums ([48] ++ bitL I 11) = T3 at *
  clear hbd hD
  go_enter Tryd.func24, Tryd.ntmps24
  go_upto_region 1 with fail
  clear hw1
  have hw0 := Below.refl w1.heap.size w1
  go_cut [3] from 6 to 14 (fun s3 wx => s3 = .string (strOfNums (hdL I n)) ∧ Below w1.heap.size w1 wx)
  case first =>
    go_region_held3 (fun w' => w'.cell? ⟨w.heap.size, 0, none⟩ = some (.int .i64 (I : Int)) ∧ w'.cell? ⟨w.heap.size, 1, none⟩ = some (.slice a n c))
      (first | (exact ⟨(z1.on hw0.drew).c0, (z1.on hw0.drew).c1⟩) | (exact ⟨(z1.on hw2).c0, (z1.on hw2).c1⟩) | (exact ⟨(z1.on hw3).c0, (z1.on hw3).c1⟩) | (fail))
      (first | (go_at_call_of 25 (11 : Int); refine (k11 _ hw0.drew).mono ?_; rintro e w2 ⟨rfl, hb2⟩; have hw2 := stepA hw0.drew hb2; clear hb2) | (go_at_call 25; refine (k4 _ hw2).mono ?_; rintro e w3 ⟨rfl, hb3⟩; have hw3 := stepA hw2 hb3; clear hb3) | (fail))
    go_wp2_with fail
    go_meet
    case rel => exact ⟨rfl, hw3⟩
  case rest =>
    obtain ⟨rfl, hbc⟩ := hcut
    have z2 := z1.on hbc
    have hB2 := stepA hx0 hbc
    have hD2 := hD1.on hbc
    obtain ⟨w2, hw2⟩ : ∃ x, x = wc := ⟨_, rfl⟩
    subst hw2
    clear z1 hx0 hbc hD1 x0 x1 l1 k11 k4 a1 a2 hw0
    have x0 := z2.c0
    have x1 := z2.c1
    have l2 := z2.lt
    rw [HH.out]
    obtain ⟨P, hP⟩ : ∃ P, strOfNums (pnL I n f) = P := ⟨_, rfl⟩
    have HP : Hid (strOfNums (hdL I n ++ dtK f n) = P) := hP
    go_wp2_with fail
    go_loopw [3, 18] (fun v i wr => ∃ (k : Nat) (T : ByteArray), k ≤ n ∧ v = .string T ∧ i = .int .i64 (k : Int) ∧ Hid (T = strOfNums (hdL I n ++ dtK f k)) ∧ Below w2.heap.size w2 wr) (fun _ i _ => n - (intOf i).toNat)
    case atStart => exact ⟨0, _, Nat.zero_le _, rfl, rfl, (rfl : strOfNums (hdL I n ++ dtK f 0) = _), Below.refl _ _⟩
    case round =>
      obtain ⟨k, T, hk, rfl, rfl, HT, hB⟩ := hrel
      by_cases hlt : k < n
      · obtain ⟨b1, o1, rfl, l1, v0⟩ := yl_at (hf.below (stepA hB2 hB)) hlt
        have j0 : (0 : Int) ≤ (k : Int) := by omega
        have j1 : (k : Int) < (n : Int) := by omega
        obtain ⟨q0, q1⟩ := HF.out k hlt
        obtain ⟨V, hV⟩ : ∃ V : Nat, f k = (V : Int) := ⟨(f k).toNat, by omega⟩
        have hVb : V ≤ 255 := by omega
        rw [hV] at v0
        have k8 := bitsOf_any V 8 (by omega) (by omega) (by omega) wr (hD2.on hB)
        have a3 : ∀ w : World, (Op.stringOp .add T (strOfNums (bitL V 8))).run Tryd.prog w = .ok (.string (strOfNums (hdL I n ++ dtK f (k + 1)))) w := fun w => by
          rw [HT.out, add_str _ _ (by rw [List.length_append, hdL_len, dtK_len, putL_len]; omega)]
          rw [show dtK f (k + 1) = dtK f k ++ bitL (f k).toNat 8 from rfl, hV, Int.toNat_natCast, List.append_assoc]
        clear HT hV q0 q1
        have HE : Hid (strOfNums (hdL I n ++ dtK f (k + 1)) = strOfNums (hdL I n ++ dtK f (k + 1))) := rfl
        obtain ⟨T6, hT6⟩ : ∃ T6, strOfNums (hdL I n ++ dtK f (k + 1)) = T6 := ⟨_, rfl⟩
        have HT6 : Hid (T6 = strOfNums (hdL I n ++ dtK f (k + 1))) := hT6.symm
        rw [hT6] at a3
        clear HE hT6
        generalize strOfNums (bitL V 8) = T8 at *
        go_wp2_with (first | (go_at_call 25; refine k8.mono ?_; rintro e w3 ⟨rfl, hb3⟩) | fail)
        exact ⟨⟨k + 1, T6, by omega, rfl, by go_num, HT6, stepA hB hb3⟩, by simp [intOf]; omega⟩
      · have hke : k = n := by omega
        subst hke
        have HR : Hid (T = strOfNums (pnL I k f)) := HT.out
        clear HT HP
        go_wp2
        go_ret
        exact ⟨by rw [← HR.out]; rfl, stepA hB2 hB⟩
end Go.Proofs.YtplpggcbpcebcaaDoor
