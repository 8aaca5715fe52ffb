/- A pattern with its stars made plain, as the program does it. -/
import Derived.Test.YthhaemdpnphhoaaDoorTfI
namespace Go.Proofs.YthhaemdpnphhoaaDoor
open Go.RowKit
structure MxS (w : World) : Prop where
  out : Mx w
theorem ows_vp {w : World} {base : Nat} {v : Value} {l : List ByteArray} (h : OwS w base v l) (h0 : l ≠ []) : ∃ g c, v = .slice (some ⟨g, 0, none⟩) l.length c ∧ base ≤ g ∧ l.length ≤ c ∧ VP w g l.length (fun i => .string (l.getD i ⟨#[]⟩)) := by
  have h' := h
  obtain ⟨_, ⟨_, h2⟩ | ⟨g, cap, cur, hv, hb, hg, h3, _⟩⟩ := h
  · exact absurd (List.length_eq_zero_iff.1 h2) h0
  · subst hv
    have ht := h'.tl
    refine ⟨g, cap, rfl, hb, h3, (Array.getElem?_eq_some_iff.1 hg).1, fun i hi => ?_, fun j => World.ownsRow.frozenAt h' j⟩
    obtain ⟨b, off, e, _, hc⟩ := ht h0
    cases e
    have := hc i _ (List.getElem?_eq_getElem hi)
    rw [Nat.zero_add] at this
    rw [this]
    simp [List.getD, hi]
set_option maxRecDepth 20000 in
set_option maxHeartbeats 4000000 in
theorem iPlain (L : List ByteArray) (b c : Nat) (w : World) (hL : L ≠ []) (hl : L.length ≤ 1048577) (hT : TA w b 0 L) :
    Calls Tryd.prog 25 #[.slice (some ⟨b, 0, none⟩) L.length c] w fun e w' => (∃ g c', e = .returned (.slice (some ⟨g, 0, none⟩) (L.map plx).length c') ∧ (L.map plx).length ≤ c' ∧ TA w' g 0 (L.map plx)) ∧ Below w.heap.size w w' := by
  have hcl := Tryd.slices_Clone_string b 0 L.length c L w (Nat.le_refl _) (by omega) (fun j hj => by
    have := hT.2 j _ (List.getElem?_eq_getElem hj)
    rw [this]
    simp [List.getD, hj])
  rw [List.take_length] at hcl
  go_enter Tryd.func25, Tryd.ntmps25
  go_wp2_with fail
  refine hcl.mono ?_
  rintro e w1 ⟨v', rfl, hown, -, hB1⟩
  obtain ⟨g, c', rfl, hg, hgc, hV⟩ := ows_vp (show OwS w1 w.heap.size v' L from hown) hL
  clear hown hcl
  have hV0 : VP w1 g L.length (fun i => .string (if i < 0 then plx (L.getD i ⟨#[]⟩) else L.getD i ⟨#[]⟩)) := hV.cg fun i hi => by rw [if_neg (by omega)]
  clear hV
  go_wp2_with fail
  go_loopw [10] (fun i wr => ∃ k : Nat, k ≤ L.length ∧ i = .int .i64 (k : Int) ∧ VP wr g L.length (fun i => .string (if i < k then plx (L.getD i ⟨#[]⟩) else L.getD i ⟨#[]⟩)) ∧ Below w.heap.size w wr) (fun i _ => L.length - (intOf i).toNat)
  case atStart => exact ⟨0, Nat.zero_le _, rfl, hV0, hB1⟩
  case round =>
    obtain ⟨k, hk, rfl, hV, hB⟩ := hrel
    clear hV0 hB1
    by_cases hlt : k < L.length
    · have i1 : (k : Int) < (L.length : Int) := by omega
      have hc := (hB.cell (p := ⟨b, 0 + k, none⟩) hT.1).trans (hT.2 k L[k] (List.getElem?_eq_getElem hlt))
      rw [Nat.zero_add] at hc
      have hbs := hT.1
      have hbz := hB.size
      have v0 := hV.c k hlt
      have vf := hV.fz k
      have vl := hV.lt
      rw [if_neg (by omega)] at v0
      have hgd : L.getD k ⟨#[]⟩ = L[k] := by simp [List.getD, hlt]
      rw [hgd] at v0
      have HS : Hid (∀ w2, plx L[k] = L[k] → w2 = wr → VP w2 g L.length (fun i => .string (if i < k + 1 then plx (L.getD i ⟨#[]⟩) else L.getD i ⟨#[]⟩))) := fun w2 h e => by
        subst e
        refine hV.cg fun i hi => ?_
        by_cases e : i = k
        · subst e; rw [if_neg (by omega), if_pos (by omega), hgd, h]
        · by_cases e3 : i < k
          · rw [if_pos e3, if_pos (by omega)]
          · rw [if_neg e3, if_neg (by omega)]
      have hV2 := hV.set (k := k) hlt (.string ⟨#[97]⟩)
      have hB2 := hB.setCell (p := ⟨g, k, none⟩) hg (.string ⟨#[97]⟩)
      have HP : Hid (plx L[k] = ⟨#[97]⟩ → VP (wr.setCell ⟨g, k, none⟩ (.string ⟨#[97]⟩)) g L.length (fun i => .string (if i < k + 1 then plx (L.getD i ⟨#[]⟩) else L.getD i ⟨#[]⟩))) := fun h => hV2.cg fun i hi => by
        by_cases e : i = k
        · subst e; rw [if_pos rfl, if_pos (by omega), hgd, h]
        · by_cases e3 : i < k
          · rw [if_neg e, if_pos e3, if_pos (by omega)]
          · rw [if_neg e, if_neg e3, if_neg (by omega)]
      clear hV2 hV hgd
      generalize L[k] = x at *
      cases e1 : st1 x with
      | true =>
        have e1' : (x.toList == [42]) = true := e1
        have HQ : Hid (VP (wr.setCell ⟨g, k, none⟩ (.string ⟨#[97]⟩)) g L.length (fun i => .string (if i < k + 1 then plx (L.getD i ⟨#[]⟩) else L.getD i ⟨#[]⟩))) := HP.out (by unfold plx; rw [e1]; rfl)
        clear e1 HP HS
        go_wp2
        exact ⟨⟨k + 1, by omega, by go_num, HQ.out, hB2⟩, by simp [intOf]; omega⟩
      | false =>
        have e1' : (x.toList == [42]) = false := e1
        cases e2 : st2 x with
        | true =>
          have e2' : (x.toList == [42, 42]) = true := e2
          have HQ : Hid (VP (wr.setCell ⟨g, k, none⟩ (.string ⟨#[97]⟩)) g L.length (fun i => .string (if i < k + 1 then plx (L.getD i ⟨#[]⟩) else L.getD i ⟨#[]⟩))) := HP.out (by unfold plx; rw [e1, e2]; rfl)
          clear e1 e2 HP HS
          go_wp2
          exact ⟨⟨k + 1, by omega, by go_num, HQ.out, hB2⟩, by simp [intOf]; omega⟩
        | false =>
          have e2' : (x.toList == [42, 42]) = false := e2
          have HQ : Hid (VP wr g L.length (fun i => .string (if i < k + 1 then plx (L.getD i ⟨#[]⟩) else L.getD i ⟨#[]⟩))) := HS.out wr (by unfold plx; rw [e1, e2]; rfl) rfl
          clear e1 e2 HP HS hB2
          go_wp2
          exact ⟨⟨k + 1, by omega, by go_num, HQ.out, hB⟩, by simp [intOf]; omega⟩
    · have ek : k = L.length := by omega
      subst ek
      have i1 : ¬ (L.length : Int) < (L.length : Int) := by omega
      have HT : Hid (TA wr g 0 (L.map plx)) := ⟨hV.lt, fun i x hx => by
        have hi : i < L.length := by have := (List.getElem?_eq_some_iff.1 hx).1; simpa using this
        rw [Nat.zero_add, hV.c i hi, if_pos hi]
        rw [List.getElem?_map, List.getElem?_eq_getElem hi] at hx
        simp at hx
        rw [← hx]
        simp [List.getD, hi]⟩
      have HC : Hid (L.length ≤ c') := hgc
      clear hV hgc
      go_wp2
      go_ret
      exact ⟨⟨g, c', rfl, HC.out, HT.out⟩, hB⟩
end Go.Proofs.YthhaemdpnphhoaaDoor
