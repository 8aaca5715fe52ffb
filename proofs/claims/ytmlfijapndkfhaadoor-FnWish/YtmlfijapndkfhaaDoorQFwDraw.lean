/- What FnWish draws: a wish and a text. -/
import Derived.Test.YtmlfijapndkfhaaDoorQFwDw
import Derived.Test.YtmlfijapndkfhaaDoorQFwSp
import Derived.Test.YtmlfijapndkfhaaDoorQWhTxS
import Derived.Test.YtmlfijapndkfhaaDoorQFwWs
namespace Go.Proofs.YtmlfijapndkfhaaDoor
open Go.RowKit
/-- some wish -/
def AnsDw (w w' : World) (e : Ending) : Prop := ∃ (ra : Option Addr) (rn rc : Nat) (re : Nat → ByteArray) (aa : Option Addr) (an ac : Nat) (av : Nat → ByteArray), e = .returned (wsv ra rn rc aa an ac) ∧ (rn ≤ 100 ∧ an ≤ 100 ∧ rn ≤ rc ∧ an ≤ ac) ∧ ((∀ i, i < rn → (re i).size ≤ 1000) ∧ ∀ i, i < an → (av i).size ≤ 1000) ∧ SL w' ra rn re ∧ SL w' aa an av ∧ Below w.heap.size w w'
set_option maxRecDepth 20000 in
set_option maxHeartbeats 4000000 in
theorem drawWW (a : Option Addr) (len cap : Nat) (w : World) (hl : len ≤ 1048576) (hb : 0 < len → ∃ b off, a = some ⟨b, off, none⟩ ∧ b < w.heap.size ∧ ∀ i, i < len → ∃ v : Int, w.cell? ⟨b, off + i, none⟩ = some (.int .u8 v) ∧ 0 ≤ v ∧ v ≤ 255) :
    Calls Tryd.prog 5 #[.slice a len cap] w fun e w' => AnsDw w w' e := by
  have hb0 : Below w.heap.size w (w.alloc (wsO none 0 0 none 0 0 25)) := (Below.refl _ _).alloc (Nat.le_refl _) _
  have r0 := (bx_new (w := w) [.slice none 0 0, .slice none 0 0] 25 rfl).alloc (.cells #[.slice a len cap, .int .i64 0, .int .u64 0] 41)
  have hc0 := cur_new (w.alloc (wsO none 0 0 none 0 0 25)) a len cap hl (fun h => by
    obtain ⟨b, off, ha, hbw, hc⟩ := hb h
    refine ⟨b, off, ha, Nat.lt_of_lt_of_le hbw hb0.size, fun i hi => ?_⟩
    obtain ⟨v, hv, hv1⟩ := hc i hi
    exact ⟨v, (hb0.cell (p := ⟨b, _, none⟩) hbw).trans hv, hv1⟩)
  have hs0 : (w.alloc (wsO none 0 0 none 0 0 25)).heap.size = w.heap.size + 1 := by simp
  have hb1 := hb0.alloc hb0.size (.cells #[.slice a len cap, .int .i64 0, .int .u64 0] 41)
  have hs1 : ((w.alloc (wsO none 0 0 none 0 0 25)).alloc (.cells #[.slice a len cap, .int .i64 0, .int .u64 0] 41)).heap.size = w.heap.size + 2 := by simp
  rw [hs0] at hc0
  clear hb hb0 hs0
  go_enter Tryd.func5, Tryd.ntmps5
  go_wp2_with fail
  refine (wish_any (w.heap.size + 1) a len cap 0 _ hc0 (by omega)).mono ?_
  rintro e w1 ⟨ra, rn, rc, re, aa, an, ac, av, n', rfl, hbd, hsm, hS1, hS2, -, -, hT1, q1, q2⟩
  have hz1 := hT1.size
  have r1 := r0.turns hT1 (.inl (by omega))
  have hB1 := hb1.trans (hT1.below (by omega) hb1.size)
  clear hc0 r0 hT1 hb1
  have z0 := r1.c0
  have z1 := r1.c1
  have zf0 := r1.fz 0
  have zf1 := r1.fz 1
  have bE := (r1.set 0 (by simp) (.slice ra rn rc)).set 1 (by simp) (.slice aa an ac)
  have hBE := (hB1.setCell (p := ⟨w.heap.size, 0, none⟩) (Nat.le_refl _) (.slice ra rn rc)).setCell (p := ⟨w.heap.size, 1, none⟩) (Nat.le_refl _) (.slice aa an ac)
  have e1 := (hS1.far (b := w.heap.size) (k := 0) (.slice ra rn rc) (fun q hq => by have := q1 q hq; omega)).far (b := w.heap.size) (k := 1) (.slice aa an ac) (fun q hq => by have := q1 q hq; omega)
  have e2 := (hS2.far (b := w.heap.size) (k := 0) (.slice ra rn rc) (fun q hq => by have := q2 q hq; omega)).far (b := w.heap.size) (k := 1) (.slice aa an ac) (fun q hq => by have := q2 q hq; omega)
  clear hS1 hS2 hB1 r1
  go_wp2_with fail
  refine ret_wis Tryd.results5 rfl bE.c0 bE.c1 rfl ?_
  exact ⟨ra, rn, rc, re, aa, an, ac, av, rfl, hbd, hsm, e1, e2, hBE⟩
/-- some text -/
def AnsDr (w w' : World) (e : Ending) : Prop := ∃ s : ByteArray, e = .returned (.string s) ∧ s.size ≤ 1048576 ∧ Below w.heap.size w w'
theorem wrS_le (rn : Nat) (re : Nat → ByteArray) (an : Nat) (av : Nat → ByteArray) : (wrS rn re an av).size ≤ 200 := by
  unfold wrS
  split
  · rename_i h
    unfold wrB at h
    simp at h
    omega
  · exact Nat.zero_le _
set_option maxRecDepth 20000 in
set_option maxHeartbeats 4000000 in
theorem drawRW (a : Option Addr) (len cap : Nat) (w : World) (hl : len ≤ 1048576) (hb : 0 < len → ∃ b off, a = some ⟨b, off, none⟩ ∧ b < w.heap.size ∧ ∀ i, i < len → ∃ v : Int, w.cell? ⟨b, off + i, none⟩ = some (.int .u8 v) ∧ 0 ≤ v ∧ v ≤ 255) :
    Calls Tryd.prog 10 #[.slice a len cap] w fun e w' => AnsDr w w' e := by
  have hc0 := cur_new w a len cap hl hb
  have hB0 : Below w.heap.size w (w.alloc (.cells #[.slice a len cap, .int .i64 0, .int .u64 0] 41)) := (Below.refl _ _).alloc (Nat.le_refl _) _
  clear hb
  go_enter Tryd.func10, Tryd.ntmps10
  go_wp2_with fail
  refine (wish_any w.heap.size a len cap 0 _ hc0 (by omega)).mono ?_
  rintro e w1 ⟨ra, rn, rc, re, aa, an, ac, av, n1, rfl, ⟨g1, g2, g3, g4⟩, ⟨hre, hav⟩, hS1, hS2, hn1, hc1, hT1, -, -⟩
  have hB1 := hB0.trans (hT1.below (Nat.le_refl _) (by simp))
  clear hc0 hB0 hT1
  have kW := sWrite ra rn rc re aa an ac av w1 (by omega) (by omega) g3 g4 (fun i hi => by have := hre i hi; omega) (fun i hi => by have := hav i hi; omega) hS1 hS2
  have hsz := wrS_le rn re an av
  generalize wrS rn re an av = t at *
  generalize wrB rn re an av = fl at *
  clear hre hav hS1 hS2
  go_wp2_with fail
  refine kW.mono ?_
  rintro e w2 ⟨rfl, hb2⟩
  have hc2 := hc1.below hb2 hc1.lt
  have hB2 := stepA hB1 hb2
  clear kW hc1 hB1 hb2
  go_wp2_with fail
  refine (pick_any w.heap.size a len cap _ _ _ hc2 (by omega)).mono ?_
  rintro e w4 ⟨y, n4, rfl, hy0, -, -, hn4, hc4, hO4⟩
  have hB4 := hB2.trans hO4.below
  clear hc2 hB2 hO4
  by_cases ya : y = 0
  · have ja : (y == 0) = true := by simp [ya]
    clear ya
    go_wp2_with fail
    refine (spoilt_any w.heap.size a len cap n4 t ⟨#[32, 114, 101, 97, 99, 104, 118, 111, 105, 100, 195, 188, 255, 49]⟩ 200 w4 hc4 (by omega) hsz (by omega) (by decide) (by decide)).mono ?_
    rintro e w5 ⟨s, n5, rfl, hs5, hn5, hc5, hT5⟩
    have hB5 := hB4.trans (hT5.below (Nat.le_refl _) hB4.size)
    clear hc4 hB4 hT5 hc5
    go_wp2
    go_ret
    exact ⟨s, rfl, by omega, hB5⟩
  · have ja : (y == 0) = false := by simp [ya]
    by_cases yb : y = 1
    · have jb : (y == 1) = true := by simp [yb]
      clear ya yb
      have k1 := lit_of w.heap.size a len cap n4 w4 hc4 (by omega) [⟨#[114, 101, 97, 99, 104]⟩, ⟨#[97, 118, 111, 105, 100]⟩, ⟨#[114, 101, 97, 99, 104, 32, 97, 118, 111, 105, 100, 32, 97]⟩, ⟨#[97, 118, 111, 105, 100, 32, 97, 32, 114, 101, 97, 99, 104, 32, 98]⟩, ⟨#[114, 101, 97, 99, 104, 32, 97, 32, 114, 101, 97, 99, 104, 32, 98]⟩, ⟨#[97]⟩, ⟨#[32, 32, 114, 101, 97, 99, 104, 32, 32, 32, 97, 32, 32]⟩, ⟨#[114, 101, 97, 99, 104, 32, 97, 32, 97]⟩, ⟨#[114, 101, 97, 99, 104, 32, 97, 32, 97, 118, 111, 105, 100]⟩, ⟨#[114, 101, 97, 99, 104, 32, 97, 32, 97, 118, 111, 105, 100, 32, 97]⟩, ⟨#[97, 118, 111, 105, 100, 32, 98, 32, 97, 118, 111, 105, 100, 32, 99]⟩, ⟨#[114, 101, 97, 99, 104, 32, 97, 32, 98, 32, 99, 32, 100, 32, 101, 32, 102, 32, 103]⟩, ⟨#[114, 101, 97, 99, 104, 32, 97, 98, 99, 100, 101, 102, 103, 104, 105, 106, 107, 108, 109]⟩, ⟨#[114, 101, 97, 99, 104, 32, 206]⟩, ⟨#[114, 101, 97, 99, 104, 32, 97, 49]⟩, ⟨#[114, 101, 97, 99, 104, 32, 237, 160, 128]⟩, ⟨#[114, 101, 97, 99, 104, 32, 97, 32, 97, 118, 111, 105, 100, 32, 244, 143, 191, 191]⟩] (by decide) (by decide) (by decide)
      simp only [List.map_cons, List.map_nil, List.length_cons, List.length_nil, Nat.zero_add, Nat.reduceAdd] at k1
      go_wp2_with fail
      refine k1.mono ?_
      rintro e w5 ⟨s, n5, rfl, hs5, hn5, hc5, hT5⟩
      have hB5 := hB4.trans (hT5.below (Nat.le_refl _) hB4.size)
      clear hc4 hB4 hT5 hc5 k1
      go_wp2
      go_ret
      exact ⟨s, rfl, by omega, hB5⟩
    · have jb : (y == 1) = false := by simp [yb]
      clear ya yb
      by_cases yc : y = 2
      · have jc : (y == 2) = true := by simp [yc]
        clear yc
        go_wp2_with fail
        refine (pick_any w.heap.size a len cap _ _ _ hc4 (by omega)).mono ?_
        rintro e w5 ⟨z, n5, rfl, hz0, hz1, -, hn5, hc5, hO5⟩
        have hz3 := hz1 (by omega)
        have hB5 := hB4.trans hO5.below
        clear hc4 hB4 hO5 hc5 hz1
        obtain ⟨Z, rfl⟩ := Int.eq_ofNat_of_zero_le hz0
        go_wp2_with fail
        go_loopw [4] (fun s wr => ∃ (t' : ByteArray), s = .string t' ∧ t'.size ≤ 300 ∧ Below w.heap.size w wr) (fun s _ => match s with | .string b => 400 - b.size | _ => 0)
        case atStart => exact ⟨t, rfl, by omega, hB5⟩
        case round =>
          obtain ⟨t', rfl, hts, hB⟩ := hrel
          clear hB5
          by_cases h0 : t'.size < 199 + Z
          · have j0 : (t'.size : Int) < 199 + (Z : Int) := by omega
            have e1 : (t' ++ ⟨#[32]⟩).size = t'.size + 1 := by rw [ByteArray.size_append]; rfl
            have HN : Hid (t'.size < 199 + Z ∧ Z < 3) := ⟨h0, by omega⟩
            clear h0
            go_wp2
            have := HN.out
            exact ⟨⟨_, rfl, by omega, hB⟩, by simp only [e1]; omega⟩
          · have j0 : ¬ (t'.size : Int) < 199 + (Z : Int) := by omega
            clear h0
            go_wp2
            go_ret
            exact ⟨t', rfl, by omega, hB⟩
      · have jc : (y == 2) = false := by simp [yc]
        clear yc
        go_wp2
        go_ret
        exact ⟨t, rfl, by omega, hB4⟩
end Go.Proofs.YtmlfijapndkfhaaDoor
