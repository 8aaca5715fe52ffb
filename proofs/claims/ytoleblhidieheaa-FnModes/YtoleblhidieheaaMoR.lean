/- A run of modes, as the model goes through it. -/
import Derived.Test.YtoleblhidieheaaMoS
import Derived.Test.YtoleblhidieheaaSgMode
namespace Go.Proofs.Ytoleblhidieheaa
open Go.RowKit
theorem sl_two {w : World} {a : Option Addr} {n : Nat} {E : Nat → ByteArray} (h : SL w a (n * 2) E) {k : Nat} (hk : k < n) : ∃ b off, a = some ⟨b, off, none⟩ ∧ b < w.heap.size ∧
    w.cell? ⟨b, off + k * 2, none⟩ = some (.string (E (k * 2))) ∧ w.cell? ⟨b, off + k * 2 + 1, none⟩ = some (.string (E (k * 2 + 1))) := by
  obtain ⟨b, off, ha, hb, hc⟩ := h (by omega)
  refine ⟨b, off, ha, hb, hc _ (by omega), ?_⟩
  rw [Nat.add_assoc]; exact hc _ (by omega)
/-- what RunModes tells -/
def moOk (n nn : Nat) : Bool := decide (n ≤ 60 ∧ nn ≤ 10)
def AnsMo (w w' : World) (e : Ending) (n nn : Nat) (N E : Nat → ByteArray) : Prop :=
  ∃ a c, e = .returned (.tuple #[.int .i64 (if moOk n nn = true then runM N nn E n else 0), .slice a (if moOk n nn = true then (runF E n).length else 0) c, .bool (moOk n nn)]) ∧ (moOk n nn = true → OwS w' w.heap.size (.slice a (runF E n).length c) (runF E n))
theorem nx_fail {N : Nat → ByteArray} {nn : Nat} {m : Int} {l : List ByteArray} {k p : ByteArray} (h : k.toList = [102, 97, 105, 108]) : nxF l k p = addL p l ∧ nxM N nn m l k p = (if inS N p nn = true ∧ m = 2 then 3 else if inS N p nn = true ∧ m = 3 ∧ inL l p = false then 4 else m) := by
  unfold nxF nxM; rw [if_pos h, if_pos h]; exact ⟨rfl, rfl⟩
theorem nx_mend {N : Nat → ByteArray} {nn : Nat} {m : Int} {l : List ByteArray} {k p : ByteArray} (h : k.toList = [109, 101, 110, 100]) : nxF l k p = delL p l ∧ nxM N nn m l k p = (if inS N p nn = true ∧ m = 3 ∧ illB N nn (delL p l) = false then 2 else m) := by
  have h1 : ¬ k.toList = [102, 97, 105, 108] := by rw [h]; decide
  unfold nxF nxM; rw [if_neg h1, if_neg h1, if_pos h, if_pos h]; exact ⟨rfl, rfl⟩
theorem nx_heal {N : Nat → ByteArray} {nn : Nat} {m : Int} {l : List ByteArray} {k p : ByteArray} (h : k.toList = [104, 101, 97, 108] ∨ k.toList = [103, 111]) : nxF l k p = l ∧ nxM N nn m l k p = (if illB N nn l = true then m else msV m k) := by
  have h1 : ¬ k.toList = [102, 97, 105, 108] := by rcases h with h | h <;> (rw [h]; decide)
  have h2 : ¬ k.toList = [109, 101, 110, 100] := by rcases h with h | h <;> (rw [h]; decide)
  unfold nxF nxM; rw [if_neg h1, if_neg h1, if_neg h2, if_neg h2, if_pos h]; exact ⟨rfl, rfl⟩
theorem nx_else {N : Nat → ByteArray} {nn : Nat} {m : Int} {l : List ByteArray} {k p : ByteArray} (h1 : ¬ k.toList = [102, 97, 105, 108]) (h2 : ¬ k.toList = [109, 101, 110, 100]) (h3 : ¬ k.toList = [104, 101, 97, 108]) (h4 : ¬ k.toList = [103, 111]) : nxF l k p = l ∧ nxM N nn m l k p = msV m k := by
  unfold nxF nxM; rw [if_neg h1, if_neg h1, if_neg h2, if_neg h2, if_neg (by rintro (h | h) <;> contradiction)]; exact ⟨rfl, rfl⟩
theorem OwS.mono {w : World} {base base' : Nat} {v : Value} {l : List ByteArray} (h : OwS w base v l) (hb : base' ≤ base) : OwS w base' v l := by
  obtain ⟨hl, h⟩ := h
  refine ⟨hl, ?_⟩
  rcases h with h | ⟨g, cap, cur, h1, h2, h3⟩
  · exact .inl h
  · exact .inr ⟨g, cap, cur, h1, Nat.le_trans hb h2, h3⟩
theorem inL_lg (l : List ByteArray) (p : ByteArray) : inS (lg l) p l.length = inL l p := by
  rw [Bool.eq_iff_iff, inS_iff, inL_iff, List.mem_iff_getElem]
  constructor
  · rintro ⟨i, h, e⟩; exact ⟨i, h, by simpa [lg, h] using e⟩
  · rintro ⟨i, h, e⟩; exact ⟨i, h, by simpa [lg, h] using e⟩
set_option maxRecDepth 20000 in
set_option maxHeartbeats 8000000 in
theorem sModes (a b : Option Addr) (n c nn d : Nat) (E N : Nat → ByteArray) (w : World) (hn : n ≤ 1048576) (hnn : nn ≤ 1048576) (hE : SL w a (n * 2) E) (hN : SL w b nn N) :
    Calls Try.prog 7 #[.slice a n c, .slice b nn d] w fun e w' => AnsMo w w' e n nn N E ∧ Below w.heap.size w w' := by
  by_cases h1 : n ≤ 60
  case neg =>
    have hk : moOk n nn = false := decide_eq_false (by omega)
    have HA : Hid (AnsMo w w (.returned (.tuple #[.int .i64 0, .slice none 0 0, .bool false])) n nn N E) := ⟨none, 0, by rw [hk]; rfl, fun h => by rw [hk] at h; cases h⟩
    clear hk
    have j1 : (60 : Int) < (n : Int) := by omega
    go_enter Try.func7, Try.ntmps7
    go_wp2
    go_ret3
    exact ⟨HA.out, Below.refl _ _⟩
  by_cases h2 : nn ≤ 10
  case neg =>
    have hk : moOk n nn = false := decide_eq_false (by omega)
    have HA : Hid (AnsMo w w (.returned (.tuple #[.int .i64 0, .slice none 0 0, .bool false])) n nn N E) := ⟨none, 0, by rw [hk]; rfl, fun h => by rw [hk] at h; cases h⟩
    clear hk
    have j1 : ¬ (60 : Int) < (n : Int) := by omega
    have j2 : (10 : Int) < (nn : Int) := by omega
    go_enter Try.func7, Try.ntmps7
    go_wp2
    go_ret3
    exact ⟨HA.out, Below.refl _ _⟩
  have HK : Hid (moOk n nn = true) := decide_eq_true ⟨h1, h2⟩
  have j1 : ¬ (60 : Int) < (n : Int) := by omega
  have j2 : ¬ (10 : Int) < (nn : Int) := by omega
  have HL : Hid (∀ k, (runF E k).length ≤ k) := fun k => runF_len E k
  go_enter Try.func7, Try.ntmps7
  go_wp2
  go_loopw [7, 8, 23] (fun md fl i wr => ∃ (k : Nat) (M : Int) (l : List ByteArray), k ≤ n ∧ md = .int .i64 M ∧ fl = fl ∧ i = .int .i64 (k : Int) ∧ Hid (M = runM N nn E k) ∧ Hid (l = runF E k) ∧ OwS wr w.heap.size fl l ∧ Below w.heap.size w wr) (fun _ _ i _ => n - (intOf i).toNat)
  case atStart => exact ⟨0, 0, [], Nat.zero_le _, rfl, rfl, rfl, (rfl : (0 : Int) = runM N nn E 0), (rfl : [] = runF E 0), ows_nil _ _, Below.refl _ _⟩
  case round =>
    obtain ⟨k, M, l, hk, rfl, -, rfl, HM, HF, hO, hB⟩ := hrel
    obtain ⟨sa, sc, rfl⟩ := hO.shape
    have hol : l.length ≤ 60 := by rw [HF.out]; have := HL.out k; omega
    by_cases hlt : k < n
    · obtain ⟨b1, o1, rfl, l1, y0, y1⟩ := sl_two (hE.below hB) hlt
      have j3 : (0 : Int) ≤ (k : Int) := by omega
      have j4 : (k : Int) < (n : Int) := by omega
      have HM2 : Hid (nxM N nn M l (E (k * 2)) (E (k * 2 + 1)) = runM N nn E (k + 1)) := by show _ = _; rw [HM.out, HF.out]; rfl
      have HF2 : Hid (nxF l (E (k * 2)) (E (k * 2 + 1)) = runF E (k + 1)) := by show _ = _; rw [HF.out]; rfl
      clear HM HF HL
      generalize E (k * 2) = kd at *
      generalize E (k * 2 + 1) = pt at *
      obtain ⟨o2, ho2⟩ : ∃ o2, o2 = Obj.cells #[.string kd, .string pt] 32 := ⟨_, rfl⟩
      have hbt : Below wr.heap.size wr (wr.alloc (.cells #[.string kd, .string pt] 32)) := (Below.refl _ _).alloc (Nat.le_refl _) _
      have b3 := bx_new (w := wr) [.string kd, .string pt] 32 rfl
      have z0 := b3.c0
      have z1 := b3.c1
      have hB3 := stepA hB hbt
      have hO3 := hO.below hbt
      have hN3 := hN.below hB3
      have hl3 : wr.heap.size < (wr.alloc (.cells #[.string kd, .string pt] 32)).heap.size := by rw [size_al]; omega
      clear hbt b3 hO hB ho2 o2 hN
      generalize hw3 : wr.alloc (.cells #[.string kd, .string pt] 32) = w3 at *
      go_upto_region 8 with fail
      clear hw3 y0 y1
      have kIn := sIn b nn d N pt w3 hnn hN3
      obtain ⟨mi, hmi⟩ : ∃ mi, inS N pt nn = mi := ⟨_, rfl⟩
      have HI : Hid (inS N pt nn = mi) := hmi
      rw [hmi] at kIn
      clear hmi
      go_upto_region 9 with (first | (go_at_call 26; refine kIn.mono ?_; rintro e w9 ⟨rfl, hw9⟩; have hs' := hw9.symm; clear hw9; subst hs') | fail)
      clear kIn
      by_cases ef : kd.toList = [102, 97, 105, 108]
      · have kIn2 := sIn sa l.length sc (lg l) pt w3 (by omega) (ows_sl hO3)
        rw [inL_lg] at kIn2
        have kAdd := sAdd sa sc l pt w3 (by omega) (ows_sl hO3)
        obtain ⟨B2, hB2⟩ : ∃ B2, inL l pt = B2 := ⟨_, rfl⟩
        rw [hB2] at kIn2
        have HF4 : Hid (addL pt l = runF E (k + 1)) := by rw [← (nx_fail (N := N) (nn := nn) (m := M) (l := l) (p := pt) ef).1]; exact HF2.out
        have HM4 : Hid ((if mi = true ∧ M = 2 then 3 else if mi = true ∧ M = 3 ∧ B2 = false then 4 else M) = runM N nn E (k + 1)) := by rw [← HI.out, ← hB2, ← (nx_fail (N := N) (nn := nn) (m := M) (l := l) (p := pt) ef).2]; exact HM2.out
        clear hB2 HI
        cases mi with
        | false =>
          have HM5 : Hid (M = runM N nn E (k + 1)) := by have h9 := HM4.out; simp at h9; show M = _; omega
          clear HM4 HM2 HF2
          go_wp2_with (first | (go_at_call 26; refine kIn2.mono ?_; rintro e w9 ⟨rfl, hw9⟩; have hs' := hw9.symm; clear hw9; subst hs') | (go_at_call 27; refine kAdd.mono ?_; rintro e w4 ⟨⟨a4, c4, rfl, hO4⟩, hb4⟩) | fail)
          have hB4 := stepA hB3 hb4
          have hO5 := hO4.mono (base' := w.heap.size) hB3.size
          exact ⟨⟨k + 1, M, addL pt l, by omega, by first | rfl | simp, trivial, by go_num, HM5, HF4, hO5, hB4⟩, by simp [intOf]; omega⟩
        | true =>
          by_cases e2 : M = 2
          · subst e2
            have HM5 : Hid (3 = runM N nn E (k + 1)) := by have h9 := HM4.out; simp at h9; show 3 = _; omega
            clear HM4 HM2 HF2
            go_wp2_with (first | (go_at_call 26; refine kIn2.mono ?_; rintro e w9 ⟨rfl, hw9⟩; have hs' := hw9.symm; clear hw9; subst hs') | (go_at_call 27; refine kAdd.mono ?_; rintro e w4 ⟨⟨a4, c4, rfl, hO4⟩, hb4⟩) | fail)
            have hB4 := stepA hB3 hb4
            have hO5 := hO4.mono (base' := w.heap.size) hB3.size
            exact ⟨⟨k + 1, 3, addL pt l, by omega, by first | rfl | simp, trivial, by go_num, HM5, HF4, hO5, hB4⟩, by simp [intOf]; omega⟩
          have f2 : (M == 2) = false := by simpa using e2
          by_cases e3 : M = 3
          · subst e3
            cases B2 with
            | false =>
              have HM5 : Hid (4 = runM N nn E (k + 1)) := by have h9 := HM4.out; simp at h9; show 4 = _; omega
              clear HM4 HM2 HF2
              go_wp2_with (first | (go_at_call 26; refine kIn2.mono ?_; rintro e w9 ⟨rfl, hw9⟩; have hs' := hw9.symm; clear hw9; subst hs') | (go_at_call 27; refine kAdd.mono ?_; rintro e w4 ⟨⟨a4, c4, rfl, hO4⟩, hb4⟩) | fail)
              have hB4 := stepA hB3 hb4
              have hO5 := hO4.mono (base' := w.heap.size) hB3.size
              exact ⟨⟨k + 1, 4, addL pt l, by omega, by first | rfl | simp, trivial, by go_num, HM5, HF4, hO5, hB4⟩, by simp [intOf]; omega⟩
            | true =>
              have HM5 : Hid (3 = runM N nn E (k + 1)) := by have h9 := HM4.out; simp at h9; show 3 = _; omega
              clear HM4 HM2 HF2
              go_wp2_with (first | (go_at_call 26; refine kIn2.mono ?_; rintro e w9 ⟨rfl, hw9⟩; have hs' := hw9.symm; clear hw9; subst hs') | (go_at_call 27; refine kAdd.mono ?_; rintro e w4 ⟨⟨a4, c4, rfl, hO4⟩, hb4⟩) | fail)
              have hB4 := stepA hB3 hb4
              have hO5 := hO4.mono (base' := w.heap.size) hB3.size
              exact ⟨⟨k + 1, 3, addL pt l, by omega, by first | rfl | simp, trivial, by go_num, HM5, HF4, hO5, hB4⟩, by simp [intOf]; omega⟩
          have f3 : (M == 3) = false := by simpa using e3
          have HM5 : Hid (M = runM N nn E (k + 1)) := by have h9 := HM4.out; simp [e2, e3] at h9; show M = _; omega
          clear HM4 HM2 HF2
          go_wp2_with (first | (go_at_call 26; refine kIn2.mono ?_; rintro e w9 ⟨rfl, hw9⟩; have hs' := hw9.symm; clear hw9; subst hs') | (go_at_call 27; refine kAdd.mono ?_; rintro e w4 ⟨⟨a4, c4, rfl, hO4⟩, hb4⟩) | fail)
          have hB4 := stepA hB3 hb4
          have hO5 := hO4.mono (base' := w.heap.size) hB3.size
          exact ⟨⟨k + 1, M, addL pt l, by omega, by first | rfl | simp, trivial, by go_num, HM5, HF4, hO5, hB4⟩, by simp [intOf]; omega⟩
      by_cases em : kd.toList = [109, 101, 110, 100]
      · have kLess := sLess sa sc l pt w3 (by omega) (ows_sl hO3)
        have hdl := delL_len pt l
        obtain ⟨I2, hI2⟩ : ∃ I2, illB N nn (delL pt l) = I2 := ⟨_, rfl⟩
        have HF4 : Hid (delL pt l = runF E (k + 1)) := by rw [← (nx_mend (N := N) (nn := nn) (m := M) (l := l) (p := pt) em).1]; exact HF2.out
        have HM4 : Hid ((if mi = true ∧ M = 3 ∧ I2 = false then 2 else M) = runM N nn E (k + 1)) := by rw [← HI.out, ← hI2, ← (nx_mend (N := N) (nn := nn) (m := M) (l := l) (p := pt) em).2]; exact HM2.out
        clear HI
        cases mi with
        | false =>
          have HM5 : Hid (M = runM N nn E (k + 1)) := by have h9 := HM4.out; simp at h9; show M = _; omega
          clear HM4 HM2 HF2
          go_wp2_with (first | (go_at_call 28; refine kLess.mono ?_; rintro e w4 ⟨⟨a4, c4, rfl, hO4⟩, hb4⟩; have kIll := sIll a4 b c4 d nn (delL pt l) N w4 (by omega) hnn (ows_sl hO4) (hN3.below hb4); rw [hI2] at kIll) | (go_at_call 29; refine kIll.mono ?_; rintro e w9 ⟨rfl, hw9⟩; have hs' := hw9.symm; clear hw9; subst hs') | fail)
          have hB4 := stepA hB3 hb4
          have hO5 := hO4.mono (base' := w.heap.size) hB3.size
          exact ⟨⟨k + 1, M, delL pt l, by omega, by first | rfl | simp, trivial, by go_num, HM5, HF4, hO5, hB4⟩, by simp [intOf]; omega⟩
        | true =>
          by_cases e3 : M = 3
          · subst e3
            cases I2 with
            | false =>
              have HM5 : Hid (2 = runM N nn E (k + 1)) := by have h9 := HM4.out; simp at h9; show 2 = _; omega
              clear HM4 HM2 HF2
              go_wp2_with (first | (go_at_call 28; refine kLess.mono ?_; rintro e w4 ⟨⟨a4, c4, rfl, hO4⟩, hb4⟩; have kIll := sIll a4 b c4 d nn (delL pt l) N w4 (by omega) hnn (ows_sl hO4) (hN3.below hb4); rw [hI2] at kIll) | (go_at_call 29; refine kIll.mono ?_; rintro e w9 ⟨rfl, hw9⟩; have hs' := hw9.symm; clear hw9; subst hs') | fail)
              have hB4 := stepA hB3 hb4
              have hO5 := hO4.mono (base' := w.heap.size) hB3.size
              exact ⟨⟨k + 1, 2, delL pt l, by omega, by first | rfl | simp, trivial, by go_num, HM5, HF4, hO5, hB4⟩, by simp [intOf]; omega⟩
            | true =>
              have HM5 : Hid (3 = runM N nn E (k + 1)) := by have h9 := HM4.out; simp at h9; show 3 = _; omega
              clear HM4 HM2 HF2
              go_wp2_with (first | (go_at_call 28; refine kLess.mono ?_; rintro e w4 ⟨⟨a4, c4, rfl, hO4⟩, hb4⟩; have kIll := sIll a4 b c4 d nn (delL pt l) N w4 (by omega) hnn (ows_sl hO4) (hN3.below hb4); rw [hI2] at kIll) | (go_at_call 29; refine kIll.mono ?_; rintro e w9 ⟨rfl, hw9⟩; have hs' := hw9.symm; clear hw9; subst hs') | fail)
              have hB4 := stepA hB3 hb4
              have hO5 := hO4.mono (base' := w.heap.size) hB3.size
              exact ⟨⟨k + 1, 3, delL pt l, by omega, by first | rfl | simp, trivial, by go_num, HM5, HF4, hO5, hB4⟩, by simp [intOf]; omega⟩
          have f3 : (M == 3) = false := by simpa using e3
          have HM5 : Hid (M = runM N nn E (k + 1)) := by have h9 := HM4.out; simp [e3] at h9; show M = _; omega
          clear HM4 HM2 HF2
          go_wp2_with (first | (go_at_call 28; refine kLess.mono ?_; rintro e w4 ⟨⟨a4, c4, rfl, hO4⟩, hb4⟩; have kIll := sIll a4 b c4 d nn (delL pt l) N w4 (by omega) hnn (ows_sl hO4) (hN3.below hb4); rw [hI2] at kIll) | (go_at_call 29; refine kIll.mono ?_; rintro e w9 ⟨rfl, hw9⟩; have hs' := hw9.symm; clear hw9; subst hs') | fail)
          have hB4 := stepA hB3 hb4
          have hO5 := hO4.mono (base' := w.heap.size) hB3.size
          exact ⟨⟨k + 1, M, delL pt l, by omega, by first | rfl | simp, trivial, by go_num, HM5, HF4, hO5, hB4⟩, by simp [intOf]; omega⟩
      by_cases eh : kd.toList = [104, 101, 97, 108]
      · have kIll := sIll sa b sc d nn l N w3 (by omega) hnn (ows_sl hO3) hN3
        have kMs := sStep M kd w3
        obtain ⟨I2, hI2⟩ : ∃ I2, illB N nn l = I2 := ⟨_, rfl⟩
        rw [hI2] at kIll
        have HF4 : Hid (l = runF E (k + 1)) := by have h9 := (nx_heal (N := N) (nn := nn) (m := M) (l := l) (p := pt) (.inl eh)).1; show l = _; rw [← HF2.out, h9]
        have HM4 : Hid ((if I2 = true then M else msV M kd) = runM N nn E (k + 1)) := by rw [← hI2, ← (nx_heal (N := N) (nn := nn) (m := M) (l := l) (p := pt) (.inl eh)).2]; exact HM2.out
        clear HI hI2
        obtain ⟨Z, hZ⟩ : ∃ Z, msV M kd = Z := ⟨_, rfl⟩
        rw [hZ] at kMs HM4
        clear hZ
        cases I2 with
        | false =>
          have HM5 : Hid (Z = runM N nn E (k + 1)) := by have h9 := HM4.out; simp at h9; exact h9
          clear HM4 HM2 HF2
          go_wp2_with (first | (go_at_call 29; refine kIll.mono ?_; rintro e w9 ⟨rfl, hw9⟩; have hs' := hw9.symm; clear hw9; subst hs') | (go_at_call 30; refine kMs.mono ?_; rintro e w9 ⟨rfl, hw9⟩; have hs' := hw9.symm; clear hw9; subst hs') | fail)
          clear kIll kMs
          exact ⟨⟨k + 1, Z, l, by omega, rfl, trivial, by go_num, HM5, HF4, hO3, hB3⟩, by simp [intOf]; omega⟩
        | true =>
          have HM5 : Hid (M = runM N nn E (k + 1)) := by have h9 := HM4.out; simp at h9; show M = _; omega
          clear HM4 HM2 HF2
          go_wp2_with (first | (go_at_call 29; refine kIll.mono ?_; rintro e w9 ⟨rfl, hw9⟩; have hs' := hw9.symm; clear hw9; subst hs') | (go_at_call 30; refine kMs.mono ?_; rintro e w9 ⟨rfl, hw9⟩; have hs' := hw9.symm; clear hw9; subst hs') | fail)
          clear kIll kMs
          exact ⟨⟨k + 1, M, l, by omega, rfl, trivial, by go_num, HM5, HF4, hO3, hB3⟩, by simp [intOf]; omega⟩
      by_cases eg : kd.toList = [103, 111]
      · have kIll := sIll sa b sc d nn l N w3 (by omega) hnn (ows_sl hO3) hN3
        have kMs := sStep M kd w3
        obtain ⟨I2, hI2⟩ : ∃ I2, illB N nn l = I2 := ⟨_, rfl⟩
        rw [hI2] at kIll
        have HF4 : Hid (l = runF E (k + 1)) := by have h9 := (nx_heal (N := N) (nn := nn) (m := M) (l := l) (p := pt) (.inr eg)).1; show l = _; rw [← HF2.out, h9]
        have HM4 : Hid ((if I2 = true then M else msV M kd) = runM N nn E (k + 1)) := by rw [← hI2, ← (nx_heal (N := N) (nn := nn) (m := M) (l := l) (p := pt) (.inr eg)).2]; exact HM2.out
        clear HI hI2
        obtain ⟨Z, hZ⟩ : ∃ Z, msV M kd = Z := ⟨_, rfl⟩
        rw [hZ] at kMs HM4
        clear hZ
        cases I2 with
        | false =>
          have HM5 : Hid (Z = runM N nn E (k + 1)) := by have h9 := HM4.out; simp at h9; exact h9
          clear HM4 HM2 HF2
          go_wp2_with (first | (go_at_call 29; refine kIll.mono ?_; rintro e w9 ⟨rfl, hw9⟩; have hs' := hw9.symm; clear hw9; subst hs') | (go_at_call 30; refine kMs.mono ?_; rintro e w9 ⟨rfl, hw9⟩; have hs' := hw9.symm; clear hw9; subst hs') | fail)
          clear kIll kMs
          exact ⟨⟨k + 1, Z, l, by omega, rfl, trivial, by go_num, HM5, HF4, hO3, hB3⟩, by simp [intOf]; omega⟩
        | true =>
          have HM5 : Hid (M = runM N nn E (k + 1)) := by have h9 := HM4.out; simp at h9; show M = _; omega
          clear HM4 HM2 HF2
          go_wp2_with (first | (go_at_call 29; refine kIll.mono ?_; rintro e w9 ⟨rfl, hw9⟩; have hs' := hw9.symm; clear hw9; subst hs') | (go_at_call 30; refine kMs.mono ?_; rintro e w9 ⟨rfl, hw9⟩; have hs' := hw9.symm; clear hw9; subst hs') | fail)
          clear kIll kMs
          exact ⟨⟨k + 1, M, l, by omega, rfl, trivial, by go_num, HM5, HF4, hO3, hB3⟩, by simp [intOf]; omega⟩
      have kMs := sStep M kd w3
      have HF4 : Hid (l = runF E (k + 1)) := by have h9 := (nx_else (N := N) (nn := nn) (m := M) (l := l) (p := pt) ef em eh eg).1; show l = _; rw [← HF2.out, h9]
      have HM5 : Hid (msV M kd = runM N nn E (k + 1)) := by rw [← (nx_else (N := N) (nn := nn) (m := M) (l := l) (p := pt) ef em eh eg).2]; exact HM2.out
      obtain ⟨Z, hZ⟩ : ∃ Z, msV M kd = Z := ⟨_, rfl⟩
      rw [hZ] at kMs HM5
      clear hZ HI HM2 HF2
      have f_f : (kd.toList == [102, 97, 105, 108]) = false := beq_eq_false_iff_ne.mpr ef
      have f_m : (kd.toList == [109, 101, 110, 100]) = false := beq_eq_false_iff_ne.mpr em
      have f_h : (kd.toList == [104, 101, 97, 108]) = false := beq_eq_false_iff_ne.mpr eh
      have f_g : (kd.toList == [103, 111]) = false := beq_eq_false_iff_ne.mpr eg
      go_wp2_with (first | (go_at_call 30; refine kMs.mono ?_; rintro e w9 ⟨rfl, hw9⟩; have hs' := hw9.symm; clear hw9; subst hs') | fail)
      clear kMs
      exact ⟨⟨k + 1, Z, l, by omega, rfl, trivial, by go_num, HM5, HF4, hO3, hB3⟩, by simp [intOf]; omega⟩
    · have hke : k = n := by omega
      subst hke
      have HA : Hid (AnsMo w wr (.returned (.tuple #[.int .i64 M, .slice sa l.length sc, .bool true])) k nn N E) := by
        refine ⟨sa, sc, ?_, fun _ => ?_⟩
        · rw [HK.out, HM.out, HF.out]; rfl
        · rw [← HF.out]; exact hO
      clear HM HF HK HL
      go_wp2
      go_ret3
      exact ⟨HA.out, hB⟩
end Go.Proofs.Ytoleblhidieheaa
