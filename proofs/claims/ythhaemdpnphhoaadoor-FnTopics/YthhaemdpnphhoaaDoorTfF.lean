/- What FnTopics draws: a pattern and a name. -/
import Derived.Test.YthhaemdpnphhoaaDoorTfE
namespace Go.Proofs.YthhaemdpnphhoaaDoor
open Go.RowKit
theorem TA.turns {w w' : World} {b o C : Nat} {l : List ByteArray} (h : TA w b o l) (k : Turns C (C + 1) w w') (hn : b ≠ C) : TA w' b o l :=
  ⟨Nat.lt_of_lt_of_le h.1 k.size, fun i x hx => (cell_same (k.block b h.1 (by omega)) _).trans (h.2 i x hx)⟩
def sumK (L : List ByteArray) (k : Nat) : Nat := ((L.take k).map ByteArray.size).sum
theorem sum_snoc (L : List ByteArray) {k : Nat} (hk : k < L.length) : sumK L (k + 1) = sumK L k + L[k].size := by
  unfold sumK
  rw [← List.take_append_getElem hk, List.map_append, List.sum_append, List.map_cons, List.map_nil, List.sum_cons, List.sum_nil, Nat.add_zero]
set_option maxRecDepth 20000 in
set_option maxHeartbeats 8000000 in
theorem drawFit (a : Option Addr) (len cap : Nat) (w : World) (hl : len ≤ 1048576) (hb : 0 < len → ∃ b off, a = some ⟨b, off, none⟩ ∧ b < w.heap.size ∧ ∀ i, i < len → ∃ v : Int, w.cell? ⟨b, off + i, none⟩ = some (.int .u8 v) ∧ 0 ≤ v ∧ v ≤ 255) :
    Calls Tryd.prog 11 #[.slice a len cap] w fun e w' => AnsTw w w' e := by
  have hc0 := cur_new w a len cap hl hb
  have hB0 : Below w.heap.size w (w.alloc (.cells #[.slice a len cap, .int .i64 0, .int .u64 0] 32)) := (Below.refl _ _).alloc (Nat.le_refl _) _
  clear hb
  go_enter Tryd.func11, Tryd.ntmps11
  go_wp2_with fail
  refine (topic_any w.heap.size a len cap _ _ hc0 (by omega)).mono ?_
  rintro e w1 ⟨s, n1, rfl, hs1, hn1, hc1, hT1⟩
  have hB1 := hB0.trans (hT1.below (Nat.le_refl _) (by simp))
  clear hc0 hB0 hT1
  go_wp2_with fail
  refine (one_any w.heap.size a len cap _ _ _ hc1 (by omega)).mono ?_
  rintro e w2 ⟨b2, n2, rfl, hn2, hc2, hO2⟩
  have hB2 := hB1.trans hO2.below
  clear hc1 hB1 hO2
  cases b2 with
  | true =>
    go_wp2_with fail
    refine (topic_any w.heap.size a len cap _ _ hc2 (by omega)).mono ?_
    rintro e w3 ⟨t, n3, rfl, ht3, hn3, hc3, hT3⟩
    have hB3 := hB2.trans (hT3.below (Nat.le_refl _) hB2.size)
    clear hc2 hB2 hT3 hc3
    go_wp2
    go_ret2
    exact ⟨t, s, rfl, by omega, by omega, hB3⟩
  | false =>
    have hts := tp_sum s
    have hsp := fun w => sParts s w (by omega)
    have htl := tp_len (s := s)
    have hst := fun k => sum_take ((tpP s).map ByteArray.size) k
    generalize tpP s = L at *
    have HS : Hid (∀ k, sumK L k ≤ 4000) := fun k => by
      unfold sumK
      have := hst k
      rw [← List.map_take] at this
      omega
    clear hst hts
    go_wp2_with fail
    refine (hsp _).mono ?_
    rintro e w3 ⟨⟨pa, pc, rfl, hO3⟩, hb3⟩
    have hC2 := hc2.lt
    have hc3 := hc2.below hb3 hC2
    have hB3 := stepA hB2 hb3
    have hTL : L ≠ [] → ∃ g, pa = some ⟨g, 0, none⟩ ∧ w.heap.size < g ∧ TA w3 g 0 L := fun h0 => by
      have h' := hO3
      obtain ⟨_, ⟨_, h2⟩ | ⟨g, cap', cur, hv, hb', hg, h3, _⟩⟩ := hO3
      · exact absurd (List.length_eq_zero_iff.1 h2) h0
      · cases hv
        exact ⟨g, rfl, by omega, tl_ta h'.tl (Array.getElem?_eq_some_iff.1 hg).1⟩
    have HTL : Hid (L ≠ [] → ∃ g, pa = some ⟨g, 0, none⟩ ∧ w.heap.size < g ∧ TA w3 g 0 L) := hTL
    clear hTL hO3 hb3 hsp hc2 hB2 hC2
    go_wp2_with fail
    go_loopw [6, 22] (fun v i wr => ∃ (k n' : Nat) (p : ByteArray), k ≤ L.length ∧ i = .int .i64 (k : Int) ∧ v = .string p ∧ p.size ≤ sumK L k + 6 * k ∧ n' ≤ 100 + 4 * k ∧ Cur wr w.heap.size a len cap n' ∧ Turns w.heap.size (w.heap.size + 1) w3 wr) (fun _ i _ => L.length - (intOf i).toNat)
    case atStart => exact ⟨0, n2, ⟨#[]⟩, Nat.zero_le _, rfl, rfl, Nat.zero_le _, by omega, hc3, turns_of (Below.refl _ _)⟩
    case round =>
      obtain ⟨k, n', p, hk, rfl, rfl, hps, hn', hc, hT⟩ := hrel
      clear hc3
      by_cases hlt : k < L.length
      · obtain ⟨g, rfl, hgw, hTA⟩ := HTL.out (by intro e; rw [e] at hlt; simp at hlt)
        have hTA2 := hTA.turns hT (by omega)
        have hcell := hTA2.2 k _ (List.getElem?_eq_getElem hlt)
        have hgl := hTA2.1
        rw [Nat.zero_add] at hcell
        have hsn := sum_snoc L hlt
        have hs4 := HS.out k
        have hs5 := HS.out (k + 1)
        clear HTL hTA hTA2 HS
        have i1 : (k : Int) < (L.length : Int) := by omega
        generalize L[k] = x at *
        have HSN : Hid (sumK L (k + 1) = sumK L k + x.size) := hsn
        have hxs : x.size ≤ 4000 := by omega
        have hp2 : p.size ≤ 30000 := by omega
        clear hsn
        go_wp2_with fail
        refine (pick_any w.heap.size a len cap n' 6 wr hc (by omega)).mono ?_
        rintro e w4 ⟨y, n4, rfl, hy0, -, -, hn4, hc4, hO4⟩
        have hT4 := hT.trans (tn_only hO4)
        clear hc hT hO4 hcell
        have z1 : (⟨#[47]⟩ : ByteArray).size = 1 := rfl
        have z2 : (⟨#[42]⟩ : ByteArray).size = 1 := rfl
        have z3 : (⟨#[42, 42]⟩ : ByteArray).size = 2 := rfl
        have z4 : (⟨#[47, 42, 42]⟩ : ByteArray).size = 3 := rfl
        have HZ : Hid ((⟨#[47]⟩ : ByteArray).size = 1 ∧ (⟨#[42]⟩ : ByteArray).size = 1 ∧ (⟨#[42, 42]⟩ : ByteArray).size = 2 ∧ (⟨#[47, 42, 42]⟩ : ByteArray).size = 3) := ⟨z1, z2, z3, z4⟩
        clear z1 z2 z3 z4
        by_cases y0 : y = 0
        · have j0 : (y == 0) = true := by simp [y0]
          clear y0
          go_wp2
          exact ⟨⟨k + 1, n4, _, by omega, by go_num, rfl, by rw [ByteArray.size_append, ByteArray.size_append]; have := HZ.out; have := HSN.out; omega, by omega, hc4, hT4⟩, by simp [intOf]; omega⟩
        have j0 : (y == 0) = false := by simp [y0]
        by_cases y1 : y = 1
        · have j1 : (y == 1) = true := by simp [y1]
          clear y0 y1
          go_wp2
          exact ⟨⟨k + 1, n4, _, by omega, by go_num, rfl, by rw [ByteArray.size_append, ByteArray.size_append]; have := HZ.out; have := HSN.out; omega, by omega, hc4, hT4⟩, by simp [intOf]; omega⟩
        have j1 : (y == 1) = false := by simp [y1]
        by_cases y2 : y = 2
        · have j2 : (y == 2) = true := by simp [y2]
          clear y0 y1 y2
          go_wp2
          exact ⟨⟨k + 1, n4, _, by omega, by go_num, rfl, by rw [ByteArray.size_append, ByteArray.size_append, ByteArray.size_append]; have := HZ.out; have := HSN.out; omega, by omega, hc4, hT4⟩, by simp [intOf]; omega⟩
        have j2 : (y == 2) = false := by simp [y2]
        by_cases y3 : y = 3
        · have j3 : (y == 3) = true := by simp [y3]
          clear y0 y1 y2 y3
          go_wp2_with fail
          refine (one_any w.heap.size a len cap n4 3 w4 hc4 (by omega)).mono ?_
          rintro e w5 ⟨q, n5, rfl, hn5, hc5, hO5⟩
          have hT5 := hT4.trans (tn_only hO5)
          clear hc4 hT4 hO5
          cases q with
          | true =>
            go_wp2
            exact ⟨⟨k + 1, n5, p, by omega, by go_num, rfl, by have := HSN.out; omega, by omega, hc5, hT5⟩, by simp [intOf]; omega⟩
          | false =>
            go_wp2
            exact ⟨⟨k + 1, n5, _, by omega, by go_num, rfl, by rw [ByteArray.size_append, ByteArray.size_append]; have := HZ.out; have := HSN.out; omega, by omega, hc5, hT5⟩, by simp [intOf]; omega⟩
        · have j3 : (y == 3) = false := by simp [y3]
          clear y0 y1 y2 y3
          go_wp2
          exact ⟨⟨k + 1, n4, _, by omega, by go_num, rfl, by rw [ByteArray.size_append, ByteArray.size_append]; have := HZ.out; have := HSN.out; omega, by omega, hc4, hT4⟩, by simp [intOf]; omega⟩
      · have ek : k = L.length := by omega
        subst ek
        have i1 : ¬ (L.length : Int) < (L.length : Int) := by omega
        have hs4 := HS.out L.length
        have hB5 := hB3.trans (hT.below (Nat.le_refl _) hB3.size)
        clear HS HTL hc hT hB3
        go_wp2
        go_ret2
        exact ⟨p, s, rfl, by omega, by omega, hB5⟩
end Go.Proofs.YthhaemdpnphhoaaDoor
