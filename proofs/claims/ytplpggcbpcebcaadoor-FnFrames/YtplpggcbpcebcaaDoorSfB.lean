/- Which texts are bits: both sides; a row of bytes of a call's own, told as a text. -/
import Derived.Test.YtplpggcbpcebcaaDoorSfM
import Derived.Test.YtplpggcbpcebcaaDoorWhVq
import Derived.Laws.IdiomStrings
namespace Go.Proofs.YtplpggcbpcebcaaDoor
open Go.RowKit
theorem infoB8 : (Tryd.prog.info? 5).map (fun i => (i.zero, i.size, i.bytes)) = some (some (.int .u8 0), 1, 1) := by kernel_rfl
set_option maxHeartbeats 2000000 in
theorem sBits (s : ByteArray) (w : World) (hs : s.size ≤ 1048576) :
    Calls Tryd.prog 40 #[.string s] w fun e w' => e = .returned (.bool (bitB s)) ∧ w' = w := by
  unfold bitB
  by_cases h3 : 300 < s.size
  · have j : (300 : Int) < (s.size : Int) := by omega
    rw [decide_eq_false (by omega)]
    go_enter Tryd.func40, Tryd.ntmps40
    go_wp2
    go_ret
    exact ⟨rfl, rfl⟩
  · have j : ¬ (300 : Int) < (s.size : Int) := by omega
    rw [decide_eq_true (by omega : s.size ≤ 300)]
    have HN : Hid (∀ k, k < s.size → (bt s k == 48) = false → (bt s k == 49) = false → btsB (bt s) s.size = false) := fun k hk h0 h1 => btsB_no hk (ne_of_beq_false h0) (ne_of_beq_false h1)
    have HY : Hid (∀ k, btsB (bt s) k = true → (bt s k == 48) = true ∨ (bt s k == 49) = true → btsB (bt s) (k + 1) = true) := fun k h1 h2 => by
      rw [btsB, h1]; rcases h2 with h | h <;> rw [h] <;> simp
    have hix := fun i hi w => ix_bt (P := Tryd.prog) Tryd.underlying9 s i hi w
    generalize hV : btsB (bt s) s.size = V at *
    have HV : Hid (btsB (bt s) s.size = V) := hV
    clear hV
    go_enter Tryd.func40, Tryd.ntmps40
    go_wp2
    go_loopw [3] (fun i wr => ∃ k : Nat, k ≤ s.size ∧ i = .int .i64 (k : Int) ∧ Hid (btsB (bt s) k = true) ∧ wr = w) (fun i _ => s.size - (intOf i).toNat)
    case atStart => exact ⟨0, Nat.zero_le _, rfl, (rfl : btsB (bt s) 0 = true), rfl⟩
    case round =>
      obtain ⟨k, hk, rfl, HE, hw⟩ := hrel
      have hw' := hw.symm
      clear hw
      subst hw'
      by_cases hlt : k < s.size
      · have x0 := hix k hlt
        have i1 : (k : Int) < (s.size : Int) := by omega
        have HN2 : Hid ((bt s k == 48) = false → (bt s k == 49) = false → V = false) := HN.out k hlt
        have HY2 : Hid ((bt s k == 48) = true ∨ (bt s k == 49) = true → btsB (bt s) (k + 1) = true) := HY.out k HE.out
        clear hix HN HY HE HV
        generalize bt s k = X at *
        cases h0 : (X == 48) with
        | true =>
          have HR : Hid (btsB (bt s) (k + 1) = true) := HY2.out (.inl h0)
          clear HN2 HY2
          obtain rfl : X = 48 := eq_of_beq h0
          go_wp2
          exact ⟨⟨k + 1, by omega, by go_num, HR, trivial⟩, by simp [intOf]; omega⟩
        | false =>
          cases h1 : (X == 49) with
          | true =>
            have HR : Hid (btsB (bt s) (k + 1) = true) := HY2.out (.inr h1)
            clear HN2 HY2
            obtain rfl : X = 49 := eq_of_beq h1
            go_wp2
            exact ⟨⟨k + 1, by omega, by go_num, HR, trivial⟩, by simp [intOf]; omega⟩
          | false =>
            have HR : Hid (V = false) := HN2.out h0 h1
            have g0 : (X != 48) = true := by rw [bne, h0]; rfl
            have g1 : (X != 49) = true := by rw [bne, h1]; rfl
            clear HN2 HY2
            go_wp2
            go_ret
            exact ⟨ret_bool (by rw [HR.out]; rfl), rfl⟩
      · have hke : k = s.size := by omega
        have HR : Hid (V = true) := by show V = true; rw [← HV.out, ← hke]; exact HE.out
        have i1 : ¬ (k : Int) < (s.size : Int) := by omega
        clear hix HN HY HE HV hke
        go_wp2
        go_ret
        exact ⟨ret_bool (by simp [HR.out]), rfl⟩
/-- a row of bytes of a call's own -/
def OwY (w : World) (base : Nat) (v : Value) (l : List Int) : Prop := w.ownsRow base 5 1 v l.length (l.map (Value.int .u8))
theorem OwY.shape {w : World} {base : Nat} {v : Value} {l : List Int} (h : OwY w base v l) : ∃ a cap, v = .slice a l.length cap := by
  obtain ⟨_, ⟨rfl, hl⟩ | ⟨g, cap, cur, rfl, _⟩⟩ := h
  · exact ⟨_, _, by rw [hl]⟩
  · exact ⟨_, _, rfl⟩
theorem OwY.app {w w3 : World} {base : Nat} {v v' : Value} {l : List Int} {x : Int} (_h : OwY w base v l) (ho : w3.ownsRow base 5 1 v' (l.length + 1) (l.map (Value.int .u8) ++ [.int .u8 x])) : OwY w3 base v' (l ++ [x]) := by
  unfold OwY
  rw [List.length_append, List.map_append]
  exact ho
theorem OwY.below {w w' : World} {base : Nat} {v : Value} {l : List Int} (h : OwY w base v l) (b : Below w.heap.size w w') : OwY w' base v l := by
  obtain ⟨hl, h⟩ := h
  refine ⟨hl, ?_⟩
  rcases h with h | ⟨g, cap, cur, h1, h2, h3, h4⟩
  · exact .inl h
  · have hg : g < w.heap.size := (Array.getElem?_eq_some_iff.1 h3).1
    exact .inr ⟨g, cap, cur, h1, h2, (b.block g hg).trans h3, h4⟩
theorem OwY.only {w w' : World} {base b : Nat} {v : Value} {l : List Int} (h : OwY w base v l) (o : Only b w w') (hb : ∀ q, v.ownBlock = some q → q ≠ b) : OwY w' base v l := by
  obtain ⟨hl, h⟩ := h
  refine ⟨hl, ?_⟩
  rcases h with h | ⟨g, cap, cur, h1, h2, h3, h4⟩
  · exact .inl h
  · exact .inr ⟨g, cap, cur, h1, h2, (o.block g (hb g (by rw [h1]; rfl))).trans h3, h4⟩
theorem owY_lit0 (w : World) (base : Nat) (h : base ≤ w.heap.size) : OwY (w.alloc (.cells #[] 5)) base (.slice (some ⟨w.heap.size, 0, none⟩) 0 0) [] :=
  World.ownsRow_made w #[] 0 h (by unfold maxLen; omega) rfl
/-- such a row told as a text -/
theorem OwY.text {w : World} {base : Nat} {a : Option Addr} {c : Nat} {l : List Int} (h : OwY w base (.slice a l.length c) l) :
    (convert 22 9 (.slice a l.length c)).run Tryd.prog w = .ok (.string (strOfNums l)) w := by
  cases l with
  | nil =>
    show (convert 22 9 (.slice a 0 c)).run Tryd.prog w = _
    rw [run_convert_bytes_string w 22 9 5 a 0 c Tryd.underlying22 Tryd.underlying5 Tryd.underlying9]
    cases a <;> simp [Conv.bytesToString, loadCells]
    all_goals rfl
  | cons x t =>
    obtain ⟨hl, ⟨h1, h2⟩ | ⟨g, cap, cur, h1, h2, h3, h4⟩⟩ := h
    · simp at h2
    · cases h1
      have h' : w.ownsRow base 5 1 (.slice (some ⟨g, 0, none⟩) (x :: t).length c) (x :: t).length ((x :: t).map (Value.int .u8)) := ⟨hl, .inr ⟨g, c, cur, rfl, h2, h3, h4⟩⟩
      refine run_convert_bytes_arg w 22 5 Tryd.underlying22 Tryd.underlying5 g 0 _ c (x :: t) rfl (fun i hi => ?_) 9 Tryd.underlying9
      rw [Nat.zero_add, World.ownsRow.cellAt h' i (by omega), List.getElem?_map, List.getElem?_eq_getElem hi]
      simp [List.getD, List.getElem?_eq_getElem hi]
end Go.Proofs.YtplpggcbpcebcaaDoor
