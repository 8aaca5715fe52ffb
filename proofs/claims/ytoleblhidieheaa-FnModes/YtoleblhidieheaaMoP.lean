/- Events without failed and mended parts; two lists of texts compared by the model. -/
import Derived.Test.YtoleblhidieheaaMoW
import Derived.Test.YtoleblhidieheaaWhVq
import Derived.Test.YtoleblhidieheaaWhCpS
namespace Go.Proofs.Ytoleblhidieheaa
open Go.RowKit
theorem infoE : (Try.prog.info? 32).map (fun i => (i.zero, i.size, i.bytes)) = some (some (.agg #[.string ⟨#[]⟩, .string ⟨#[]⟩]), 2, 32) := by kernel_rfl
/-- a row of events of a call's own: n of them, their texts one behind the other -/
def OwE (w : World) (base : Nat) (v : Value) (n : Nat) (l : List ByteArray) : Prop := w.ownsRow base 32 2 v n (l.map Value.string)
theorem OwE.below {w w' : World} {base : Nat} {v : Value} {n : Nat} {l : List ByteArray} (h : OwE w base v n l) (b : Below w.heap.size w w') : OwE w' base v n l := by
  obtain ⟨hl, h⟩ := h
  refine ⟨hl, ?_⟩
  rcases h with h | ⟨g, cap, cur, h1, h2, h3, h4⟩
  · exact .inl h
  · have hg : g < w.heap.size := (Array.getElem?_eq_some_iff.1 h3).1
    exact .inr ⟨g, cap, cur, h1, h2, (b.block g hg).trans h3, h4⟩
theorem OwE.turns {w w' : World} {lo hi base : Nat} {v : Value} {n : Nat} {l : List ByteArray} (h : OwE w base v n l) (k : Turns lo hi w w') (hd : hi ≤ base) : OwE w' base v n l := by
  obtain ⟨hl, h | ⟨g, cap, cur, h1, h2, h3, h4⟩⟩ := h
  · exact ⟨hl, .inl h⟩
  · have hg : g < w.heap.size := (Array.getElem?_eq_some_iff.1 h3).1
    exact ⟨hl, .inr ⟨g, cap, cur, h1, h2, (k.block g hg (by omega)).trans h3, h4⟩⟩
theorem OwE.shape {w : World} {base : Nat} {v : Value} {n : Nat} {l : List ByteArray} (h : OwE w base v n l) : ∃ a c, v = .slice a n c := by
  obtain ⟨_, ⟨h1, h2⟩ | ⟨g, cap, cur, hv, _⟩⟩ := h
  · exact ⟨none, 0, by rw [h1, h2]⟩
  · exact ⟨_, cap, hv⟩
theorem OwE.len {w : World} {base : Nat} {v : Value} {n : Nat} {l : List ByteArray} (h : OwE w base v n l) : l.length = n * 2 := by have := h.1; simpa using this
theorem owe_nil (w : World) (base : Nat) : OwE w base (.slice none 0 0) 0 [] := ⟨rfl, .inl ⟨rfl, rfl⟩⟩
theorem owe_app {w : World} {base : Nat} {v : Value} {n m : Nat} {l xs : List ByteArray} (h : w.ownsRow base 32 2 v (n + m) (l.map Value.string ++ xs.map Value.string)) : OwE w base v (n + m) (l ++ xs) := by
  unfold OwE; rw [List.map_append]; exact h
theorem OwE.sl {w : World} {base : Nat} {a : Option Addr} {n c : Nat} {l : List ByteArray} (h : OwE w base (.slice a n c) n l) : SL w a (n * 2) (lg l) := fun h0 => by
  have h' := h
  have hl := h.len
  obtain ⟨_, ⟨_, h2⟩ | ⟨g, cap, cur, hv, hb, hg, _⟩⟩ := h
  · omega
  · cases hv
    refine ⟨g, 0, rfl, (Array.getElem?_eq_some_iff.1 hg).1, fun i hi => ?_⟩
    rw [Nat.zero_add, World.ownsRow.cellAt h' i (by omega)]
    simp [lg, show i < l.length by omega]
theorem cell_ev_new (w : World) (x y : ByteArray) (t : TypeId) : ∀ j u, [Value.string x, .string y][j]? = some u → (w.alloc (.cells #[.string x, .string y] t)).cell? ((⟨w.heap.size, 0, none⟩ : Addr).add j) = some u := by
  intro j u hj
  have b := bx_new (w := w) (b := w.heap.size) [.string x, .string y] t rfl
  match j with
  | 0 => simp at hj; subst hj; rw [Addr.add_lit]; exact b.c0
  | 1 => simp at hj; subst hj; rw [Addr.add_lit]; exact b.c1
  | k + 2 => simp at hj
/-- an event of a failed or a mended part -/
def fmB (k : ByteArray) : Bool := k.toList == [102, 97, 105, 108] || k.toList == [109, 101, 110, 100]
def plK (E : Nat → ByteArray) : Nat → List ByteArray
  | 0 => []
  | k + 1 => if fmB (E (k * 2)) = true then plK E k else plK E k ++ [E (k * 2), E (k * 2 + 1)]
def plN (E : Nat → ByteArray) : Nat → Nat
  | 0 => 0
  | k + 1 => if fmB (E (k * 2)) = true then plN E k else plN E k + 1
theorem plN_le (E : Nat → ByteArray) : ∀ k, plN E k ≤ k
  | 0 => Nat.le_refl _
  | k + 1 => by
    have := plN_le E k
    unfold plN
    split <;> omega
theorem plK_len (E : Nat → ByteArray) : ∀ k, (plK E k).length = plN E k * 2
  | 0 => rfl
  | k + 1 => by
    have := plK_len E k
    unfold plK plN
    split
    · exact this
    · simp; omega
theorem plK_sz {E : Nat → ByteArray} {m : Nat} : ∀ {k : Nat}, (∀ i, i < k * 2 → (E i).size ≤ m) → ∀ s ∈ plK E k, s.size ≤ m
  | 0, _, s, hs => by cases hs
  | k + 1, h, s, hs => by
    unfold plK at hs
    have ih := plK_sz (E := E) (m := m) (k := k) (fun i hi => h i (by omega))
    split at hs
    · exact ih s hs
    · rcases List.mem_append.1 hs with q | q
      · exact ih s q
      · simp at q
        rcases q with rfl | rfl
        · exact h _ (by omega)
        · exact h _ (by omega)
/-- every event that is left is of another kind -/
theorem plK_kind (E : Nat → ByteArray) : ∀ (k j : Nat), j < plN E k → fmB (lg (plK E k) (j * 2)) = false
  | 0, j, h => absurd h (Nat.not_lt_zero _)
  | k + 1, j, h => by
    have ih := plK_kind E k j
    have hl := plK_len E k
    unfold plN at h
    unfold plK
    by_cases q : fmB (E (k * 2)) = true
    · rw [if_pos q] at h ⊢; exact ih h
    · rw [if_neg q] at h ⊢
      by_cases hj : j < plN E k
      · have e : lg (plK E k ++ [E (k * 2), E (k * 2 + 1)]) (j * 2) = lg (plK E k) (j * 2) := by
          unfold lg
          simp only [List.getD_eq_getElem?_getD]
          rw [List.getElem?_append_left (by omega)]
        rw [e]; exact ih hj
      · have hj2 : j = plN E k := by omega
        subst hj2
        have e : lg (plK E k ++ [E (k * 2), E (k * 2 + 1)]) (plN E k * 2) = E (k * 2) := by
          unfold lg
          simp only [List.getD_eq_getElem?_getD]
          rw [List.getElem?_append_right (by omega), hl, Nat.sub_self]; rfl
        rw [e]; simpa using q
/-- steps one by one -/
def stM (E : Nat → ByteArray) : Nat → Int
  | 0 => 0
  | k + 1 => msV (stM E k) (E (k * 2))
theorem fm_no {k : ByteArray} (h : fmB k = false) : ¬ k.toList = [102, 97, 105, 108] ∧ ¬ k.toList = [109, 101, 110, 100] := by
  unfold fmB at h
  simp only [Bool.or_eq_false_iff, beq_eq_false_iff_ne] at h
  exact h
theorem plain_F {E : Nat → ByteArray} {n : Nat} (h : ∀ j, j < n → fmB (E (j * 2)) = false) : ∀ k, k ≤ n → runF E k = []
  | 0, _ => rfl
  | k + 1, hk => by
    obtain ⟨h1, h2⟩ := fm_no (h k (by omega))
    unfold runF nxF
    rw [if_neg h1, if_neg h2, plain_F h k (by omega)]
theorem plain_M {E N : Nat → ByteArray} {n nn : Nat} (h : ∀ j, j < n → fmB (E (j * 2)) = false) : ∀ k, k ≤ n → runM N nn E k = stM E k
  | 0, _ => rfl
  | k + 1, hk => by
    obtain ⟨h1, h2⟩ := fm_no (h k (by omega))
    unfold runM stM nxM
    rw [if_neg h1, if_neg h2, plain_F h k (by omega), plain_M h k (by omega)]
    have : illB N nn [] = false := rfl
    rw [this]
    simp
set_option maxRecDepth 20000 in
set_option maxHeartbeats 4000000 in
theorem sPlain (a : Option Addr) (n c : Nat) (E : Nat → ByteArray) (w : World) (hn : n ≤ 1000) (hE : SL w a (n * 2) E) :
    Calls Try.prog 9 #[.slice a n c] w fun e w' => (∃ a2 c2, e = .returned (.slice a2 (plN E n) c2) ∧ OwE w' w.heap.size (.slice a2 (plN E n) c2) (plN E n) (plK E n)) ∧ Below w.heap.size w w' := by
  obtain ⟨i0, hi, hzz⟩ := Option.map_eq_some_iff.1 infoE
  simp only [Prod.mk.injEq] at hzz
  obtain ⟨hz0, hz1, hz2⟩ := hzz
  have HL : Hid (∀ k, plN E k ≤ k) := fun k => plN_le E k
  have HS1 : Hid (∀ k, fmB (E (k * 2)) = true → plK E (k + 1) = plK E k ∧ plN E (k + 1) = plN E k) := fun k h => ⟨if_pos h, if_pos h⟩
  have HS2 : Hid (∀ k, fmB (E (k * 2)) = false → plK E (k + 1) = plK E k ++ [E (k * 2), E (k * 2 + 1)] ∧ plN E (k + 1) = plN E k + 1) := fun k h => ⟨if_neg (by rw [h]; decide), if_neg (by rw [h]; decide)⟩
  go_enter Try.func9, Try.ntmps9
  go_wp2
  go_loopw [3, 8] (fun v i wr => ∃ (k m : Nat) (o : List ByteArray), k ≤ n ∧ v = v ∧ i = .int .i64 (k : Int) ∧ Hid (m = plN E k) ∧ Hid (o = plK E k) ∧ OwE wr w.heap.size v m o ∧ Below w.heap.size w wr) (fun _ i _ => n - (intOf i).toNat)
  case atStart => exact ⟨0, 0, [], Nat.zero_le _, rfl, rfl, (rfl : 0 = plN E 0), (rfl : [] = plK E 0), owe_nil _ _, Below.refl _ _⟩
  case round =>
    obtain ⟨k, m, o, hk, -, rfl, HM, HO, hO, hB⟩ := hrel
    obtain ⟨sa, sc, rfl⟩ := hO.shape
    have hol := hO.len
    have hm : m ≤ k := by rw [HM.out]; exact HL.out k
    by_cases hlt : k < n
    · obtain ⟨b1, o1, rfl, l1, y0, y1⟩ := sl_two (hE.below hB) hlt
      have j3 : (0 : Int) ≤ (k : Int) := by omega
      have j4 : (k : Int) < (n : Int) := by omega
      have K1 := HS1.out k
      have K2 := HS2.out k
      clear HS1 HS2 HL
      generalize E (k * 2) = kd at *
      generalize E (k * 2 + 1) = pt at *
      have hbt : Below wr.heap.size wr (wr.alloc (.cells #[.string kd, .string pt] 32)) := (Below.refl _ _).alloc (Nat.le_refl _) _
      have b3 := evb (w := wr) kd pt
      have z0 := b3.c0
      have z1 := b3.c1
      have hB3 := stepA hB hbt
      have hO3 := hO.below hbt
      have hl3 := b3.lt
      clear hbt b3 hO hB
      generalize hw3 : wr.alloc (.cells #[.string kd, .string pt] 32) = w3 at *
      by_cases ef : kd.toList = [102, 97, 105, 108]
      · have Q := K1 (by unfold fmB; rw [ef]; rfl)
        have HM2 : Hid (m = plN E (k + 1)) := by show _ = _; rw [Q.2]; exact HM.out
        have HO2 : Hid (o = plK E (k + 1)) := by show _ = _; rw [Q.1]; exact HO.out
        clear K1 K2 Q HM HO
        go_wp2
        exact ⟨⟨k + 1, m, o, by omega, trivial, by go_num, HM2, HO2, hO3, hB3⟩, by simp [intOf]; omega⟩
      by_cases em : kd.toList = [109, 101, 110, 100]
      · have Q := K1 (by unfold fmB; rw [em]; rfl)
        have HM2 : Hid (m = plN E (k + 1)) := by show _ = _; rw [Q.2]; exact HM.out
        have HO2 : Hid (o = plK E (k + 1)) := by show _ = _; rw [Q.1]; exact HO.out
        clear K1 K2 Q HM HO
        go_wp2
        exact ⟨⟨k + 1, m, o, by omega, trivial, by go_num, HM2, HO2, hO3, hB3⟩, by simp [intOf]; omega⟩
      · have f1 : (kd.toList == [102, 97, 105, 108]) = false := beq_eq_false_iff_ne.mpr ef
        have f2 : (kd.toList == [109, 101, 110, 100]) = false := beq_eq_false_iff_ne.mpr em
        have g1 : (kd.toList != [102, 97, 105, 108]) = true := by unfold bne; rw [f1]; rfl
        have g2 : (kd.toList != [109, 101, 110, 100]) = true := by unfold bne; rw [f2]; rfl
        have Q := K2 (by unfold fmB; rw [f1, f2]; rfl)
        have HM2 : Hid (m + 1 = plN E (k + 1)) := by show _ = _; rw [Q.2, HM.out]
        have HO2 : Hid (o ++ [kd, pt] = plK E (k + 1)) := by show _ = _; rw [Q.1, HO.out]
        clear K1 K2 Q HM HO
        go_upto_region 6 with fail
        clear hw3 y0 y1
        go_wp2_with (first | (at_builtin; refine wpList_append_own _ rfl _ _ 23 rfl w.heap.size 32 i0 (.agg #[.string ⟨#[]⟩, .string ⟨#[]⟩]) 2 32 Try.underlying23 hi hz0 hz1 hz2 rfl (by decide) _ _ _ rfl (hO3.below ((Below.refl _ _).alloc (Nat.le_refl _) _)) ⟨w3.heap.size, 0, none⟩ 1 1 [.string kd, .string pt] rfl rfl (cell_ev_new _ _ _ _) (fun y hy => by simp at hy; rcases hy with rfl | rfl <;> rfl) (by unfold maxLen; omega) (by omega) (by have := hB3.size; rw [size_al]; omega) ?_; intro v4 w4 hown4 hgrow4 _) | fail)
        have hB4 : Below w.heap.size w w4 := (hB3.alloc hB3.size _).grown hgrow4 (by rw [size_al]; have := hB3.size; omega) (fun q hq => (World.ownsRow.lt hO3 q hq).1)
        exact ⟨⟨k + 1, m + 1, o ++ [kd, pt], by omega, trivial, by go_num, HM2, HO2, owe_app (m := 1) (xs := [kd, pt]) hown4, hB4⟩, by simp [intOf]; omega⟩
    · have hke : k = n := by omega
      subst hke
      have e1 := HM.out
      have e2 := HO.out
      subst e1 e2
      clear HS1 HS2 HL HM HO
      go_wp2
      go_ret
      exact ⟨⟨sa, sc, rfl, hO⟩, hB⟩
set_option maxHeartbeats 2000000 in
theorem sSameL (a b : Option Addr) (n c d : Nat) (F : Nat → ByteArray) (w : World) (hn : n ≤ 1048576) (ha : SL w a n F) (hb : SL w b n F) :
    Calls Try.prog 31 #[.slice a n c, .slice b n d] w fun e w' => e = .returned (.bool true) ∧ Below w.heap.size w w' := by
  go_enter Try.func31, Try.ntmps31
  go_wp2
  go_loopw [13] (fun i wr => ∃ k : Nat, k ≤ n ∧ i = .int .i64 (k : Int) ∧ Below w.heap.size w wr) (fun i _ => n - (intOf i).toNat)
  case atStart => exact ⟨0, Nat.zero_le _, rfl, Below.refl _ _⟩
  case round =>
    obtain ⟨k, hk, rfl, hB⟩ := hrel
    by_cases hlt : k < n
    · obtain ⟨b1, o1, rfl, l1, hc1⟩ := (ha.below hB) (by omega)
      obtain ⟨b2, o2, rfl, l2, hc2⟩ := (hb.below hB) (by omega)
      have y1 := hc1 k hlt
      have y2 := hc2 k hlt
      have j0 : (0 : Int) ≤ (k : Int) := by omega
      have j1 : (k : Int) < (n : Int) := by omega
      have e1 := bl_same (F k)
      have e2 := bl_same' (F k)
      clear hc1 hc2
      generalize F k = X at *
      go_wp2_with fail
      go_quiet (fail)
      go_wp2
      exact ⟨⟨k + 1, by omega, by go_num, below_dr hB _⟩, by simp [intOf]; omega⟩
    · go_wp2
      go_ret
      exact ⟨rfl, hB⟩
set_option maxHeartbeats 1000000 in
theorem sTexts (a b : Option Addr) (n c d : Nat) (F : Nat → ByteArray) (w : World) (hn : n ≤ 1048576) (ha : SL w a n F) (hb : SL w b n F) :
    Calls Try.prog 8 #[.slice a n c, .slice b n d] w fun e w' => e = .returned (.bool true) ∧ Below w.heap.size w w' := by
  have k := sSameL a b n c d F w hn ha hb
  go_enter Try.func8, Try.ntmps8
  go_wp2_with fail
  refine k.mono ?_
  rintro e w2 ⟨rfl, hb2⟩
  go_wp2
  go_ret
  exact ⟨rfl, hb2⟩
end Go.Proofs.Ytoleblhidieheaa
