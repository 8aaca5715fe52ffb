/- TopicFits, as the model tells it. -/
import Derived.Test.YthhaemdpnphhoaaDoorTfP
import Derived.Test.YthhaemdpnphhoaaDoorTfS
namespace Go.Proofs.YthhaemdpnphhoaaDoor
open Go.RowKit
theorem ows_ta {w : World} {base : Nat} {a : Option Addr} {c : Nat} {l : List ByteArray} (h : OwS w base (.slice a l.length c) l) (h0 : l ≠ []) : ∃ g, a = some ⟨g, 0, none⟩ ∧ l.length ≤ c ∧ TA w g 0 l := by
  have h' := h
  obtain ⟨_, ⟨_, h2⟩ | ⟨g, cap, cur, hv, hb, hg, h3, _⟩⟩ := h
  · exact absurd (List.length_eq_zero_iff.1 h2) h0
  · cases hv
    exact ⟨g, rfl, h3, tl_ta h'.tl (Array.getElem?_eq_some_iff.1 hg).1⟩
set_option maxRecDepth 20000 in
set_option maxHeartbeats 8000000 in
theorem sTopicFits (s n : ByteArray) (w : World) (hs : s.size ≤ 1048576) (hn : n.size ≤ 1048576) :
    Calls Tryd.prog 13 #[.string s, .string n] w fun e w' => e = .returned (.bool (tfB s n)) ∧ Below w.heap.size w w' := by
  obtain ⟨i0, hi, hzz⟩ := Option.map_eq_some_iff.1 infoS
  simp only [Prod.mk.injEq] at hzz
  obtain ⟨hz0, hz1, hz2⟩ := hzz
  have hp := fun w => sParts s w hs
  have hg := fun w => sTopic n w hn
  have hsz : ∀ x ∈ tpP s, x.size ≤ 1048576 := tp_small hs
  have hlen := tp_len (s := s)
  have hall := plT_all s
  have htk := fun k => plT_take s k
  have hpl := fun w => sTopic (plT (tpP s)) w (by omega)
  have hpn := fun w => sParts n w hn
  have hln := tp_len (s := n)
  have hne : gtB n = true → tpP n ≠ [] := fun h => by
    unfold gtB at h
    simp only [Bool.and_eq_true, Bool.not_eq_true'] at h
    intro e
    rw [e] at h
    simp at h
  have hfb : fB (tpP s) (tpP n) = fB ((tpP s).foldl colS []) (tpP n) := by rw [← colK_fold, col_fB]
  unfold tfB
  rw [hfb]
  clear hfb
  generalize tpP s = L at *
  generalize tpP n = N at *
  cases eg : gtB n with
  | false =>
    rw [eg] at hg
    clear hne
    go_enter Tryd.func13, Tryd.ntmps13
    go_wp2_with fail
    refine (hp _).mono ?_
    rintro e w1 ⟨⟨a, c, rfl, hO⟩, hB1⟩
    go_wp2_with fail
    refine (hg _).mono ?_
    rintro e w2 ⟨rfl, hb2⟩
    go_wp2
    go_ret
    exact ⟨by simp, stepA hB1 hb2⟩
  | true =>
  rw [eg] at hg
  have hN0 := hne eg
  clear hne eg
  by_cases h0 : L = []
  · subst h0
    go_enter Tryd.func13, Tryd.ntmps13
    go_wp2_with fail
    refine (hp _).mono ?_
    rintro e w1 ⟨⟨a, c, rfl, hO⟩, hB1⟩
    go_wp2_with fail
    refine (hg _).mono ?_
    rintro e w2 ⟨rfl, hb2⟩
    go_wp2
    go_ret
    exact ⟨by simp, stepA hB1 hb2⟩
  have e0 : L.isEmpty = false := by cases L with | nil => exact absurd rfl h0 | cons a b => rfl
  rw [e0]
  have j2 : ((L.length : Int) == 0) = false := by simp; exact h0
  have HL0 : Hid (L ≠ []) := h0
  have HN0 : Hid (N ≠ []) := hN0
  have HZ : Hid (∀ x ∈ L, x.size ≤ 1048576) := hsz
  have HTK : Hid (∀ k, (plT (L.take k)).size ≤ s.size) := htk
  clear hsz h0 hN0 htk e0
  simp only [Bool.true_and, Bool.not_false]
  generalize hV : (gtB (plT L) && fB (L.foldl colS []) N) = V
  have HV : Hid ((gtB (plT L) && fB (L.foldl colS []) N) = V) := hV
  clear hV
  generalize gtB (plT L) = G at hpl HV
  go_enter Tryd.func13, Tryd.ntmps13
  go_wp2_with fail
  refine (hp _).mono ?_
  rintro e w1 ⟨⟨a, c, rfl, hO⟩, hB1⟩
  go_wp2_with fail
  refine (hg _).mono ?_
  rintro e w2 ⟨rfl, hb2⟩
  have hT2 := hO.tl.on hb2
  have hB2 := stepA hB1 hb2
  clear hp hg hO hB1 hb2
  go_wp2_with fail
  go_loopw [6, 24] (fun v i wr => ∃ k : Nat, k ≤ L.length ∧ i = .int .i64 (k : Int) ∧ v = .string (plT (L.take k)) ∧ wr = w2) (fun _ i _ => L.length - (intOf i).toNat)
  case atStart => exact ⟨0, Nat.zero_le _, rfl, rfl, rfl⟩
  case round =>
    obtain ⟨k, hk, rfl, rfl, hw⟩ := hrel
    have hw' := hw.symm
    clear hw
    subst hw'
    by_cases hlt : k < L.length
    · obtain ⟨b, off, rfl, hb, hc⟩ := tl_at hT2 hlt
      have i1 : (k : Int) < (L.length : Int) := by omega
      have hps := HTK.out k
      have hxs := HZ.out _ (List.getElem_mem hlt)
      have HP : Hid (plT (L.take (k + 1)) = plT (L.take k) ++ (⟨#[47]⟩ ++ plx L[k])) := by
        show _ = _
        rw [← List.take_append_getElem hlt, plT_snoc]
      clear HZ HTK
      generalize plT (L.take k) = Q at *
      generalize L[k] = x at *
      cases e1 : st1 x with
      | true =>
        have e1' : (x.toList == [42]) = true := e1
        have HQ : Hid (plx x = ⟨#[97]⟩) := by show _ = _; unfold plx; rw [e1]; rfl
        clear e1
        go_wp2
        exact ⟨⟨k + 1, by omega, by go_num, by rw [HP.out, HQ.out], trivial⟩, by simp [intOf]; omega⟩
      | false =>
        have e1' : (x.toList == [42]) = false := e1
        cases e2 : st2 x with
        | true =>
          have e2' : (x.toList == [42, 42]) = true := e2
          have HQ : Hid (plx x = ⟨#[97]⟩) := by show _ = _; unfold plx; rw [e1, e2]; rfl
          clear e1 e2
          go_wp2
          exact ⟨⟨k + 1, by omega, by go_num, by rw [HP.out, HQ.out], trivial⟩, by simp [intOf]; omega⟩
        | false =>
          have e2' : (x.toList == [42, 42]) = false := e2
          have HQ : Hid (plx x = x) := by show _ = _; unfold plx; rw [e1, e2]; rfl
          clear e1 e2
          go_wp2
          exact ⟨⟨k + 1, by omega, by go_num, by rw [HP.out, HQ.out], trivial⟩, by simp [intOf]; omega⟩
    · have e : k = L.length := by omega
      subst e
      have i1 : ¬ (L.length : Int) < (L.length : Int) := by omega
      rw [List.take_length]
      clear HTK hall
      cases G with
      | false =>
        obtain rfl : V = false := by rw [← HV.out]; rfl
        go_wp2_with fail
        refine (hpl _).mono ?_
        rintro e w3 ⟨rfl, hb3⟩
        go_wp2
        go_ret
        exact ⟨rfl, stepA hB2 hb3⟩
      | true =>
      have HF : Hid (V = fB (L.foldl colS []) N) := by show V = _; rw [← HV.out]; rfl
      clear HV
      go_wp2_with fail
      refine (hpl _).mono ?_
      rintro e w3 ⟨rfl, hb3⟩
      have hT3 := hT2.on hb3
      have hB3 := stepA hB2 hb3
      clear hT2 hB2 hb3 hpl
      go_wp2_with fail
      go_loopw [9, 44] (fun v i wr => ∃ k : Nat, k ≤ L.length ∧ i = .int .i64 (k : Int) ∧ OwS wr w3.heap.size v ((L.take k).foldl colS []) ∧ Below w3.heap.size w3 wr) (fun _ i _ => L.length - (intOf i).toNat)
      case atStart => exact ⟨0, Nat.zero_le _, rfl, ows_nil _ _, Below.refl _ _⟩
      case round =>
        obtain ⟨k, hk, rfl, hO, hB⟩ := hrel
        have hT := hT3.on hB
        obtain ⟨sa, sc, rfl⟩ := hO.shape
        by_cases hlt : k < L.length
        · obtain ⟨b, off, rfl, hb, hc⟩ := tl_at hT hlt
          have i1 : (k : Int) < (L.length : Int) := by omega
          have hol := col_len (L.take k) []
          rw [List.length_take] at hol
          have HC : Hid ((L.take (k + 1)).foldl colS [] = colS ((L.take k).foldl colS []) L[k]) := by
            show _ = _
            rw [← List.take_append_getElem hlt, List.foldl_append]
            rfl
          clear HZ
          generalize (L.take k).foldl colS [] = o at *
          generalize L[k] = x at *
          have hol2 : o.length ≤ 1048576 := by simp at hol; omega
          clear hol
          cases e2 : st2 x with
          | false =>
            have e2' : (x.toList == [42, 42]) = false := e2
            have HC2 : Hid ((L.take (k + 1)).foldl colS [] = o ++ [x]) := by show _ = _; rw [HC.out, colS, e2]; rfl
            clear HC e2
            go_wp2_with (first | (at_builtin; refine wpList_append_own _ rfl _ _ 39 rfl w3.heap.size 9 i0 (.string ⟨#[]⟩) 1 16 Tryd.underlying39 hi hz0 hz1 hz2 rfl (by decide) _ _ _ rfl (hO.below ((Below.refl _ _).alloc (Nat.le_refl _) _)) ⟨wr.heap.size, 0, none⟩ 1 1 [.string x] rfl rfl (cell_one_new _ _ _) (fun y hy => by simp at hy; subst hy; rfl) (by unfold maxLen; omega) (by omega) (by have := hB.size; rw [size_al]; omega) ?_; intro v2 w2' hown2 hgrow2 _) | fail)
            have hB2 : Below w3.heap.size w3 w2' := (hB.alloc hB.size _).grown hgrow2 (by rw [size_al]; have := hB.size; omega) (fun q hq => (World.ownsRow.lt hO q hq).1)
            exact ⟨⟨k + 1, by omega, by go_num, by rw [HC2.out]; exact ows_snoc hown2, hB2⟩, by simp [intOf]; omega⟩
          | true =>
            have e2' : (x.toList == [42, 42]) = true := e2
            rcases List.eq_nil_or_concat o with ho | ⟨q, y, ho⟩
            · have HC2 : Hid ((L.take (k + 1)).foldl colS [] = o ++ [x]) := by show _ = _; rw [HC.out, colS, ho]; simp [lst2]
              have j9 : ¬ (0 : Int) < (o.length : Int) := by rw [ho]; simp
              clear HC e2 ho
              go_wp2_with (first | (at_builtin; refine wpList_append_own _ rfl _ _ 39 rfl w3.heap.size 9 i0 (.string ⟨#[]⟩) 1 16 Tryd.underlying39 hi hz0 hz1 hz2 rfl (by decide) _ _ _ rfl (hO.below ((Below.refl _ _).alloc (Nat.le_refl _) _)) ⟨wr.heap.size, 0, none⟩ 1 1 [.string x] rfl rfl (cell_one_new _ _ _) (fun y hy => by simp at hy; subst hy; rfl) (by unfold maxLen; omega) (by omega) (by have := hB.size; rw [size_al]; omega) ?_; intro v2 w2' hown2 hgrow2 _) | fail)
              have hB2 : Below w3.heap.size w3 w2' := (hB.alloc hB.size _).grown hgrow2 (by rw [size_al]; have := hB.size; omega) (fun q hq => (World.ownsRow.lt hO q hq).1)
              exact ⟨⟨k + 1, by omega, by go_num, by rw [HC2.out]; exact ows_snoc hown2, hB2⟩, by simp [intOf]; omega⟩
            · have ho' : o = q ++ [y] := by rw [ho]; simp
              obtain ⟨g, e9, hgc, hTA⟩ := ows_ta hO (by rw [ho']; simp)
              subst e9
              have hcy := hTA.2 q.length y (by rw [ho']; simp)
              have hlo : o.length = q.length + 1 := by rw [ho']; simp
              have hl2 : lst2 o = st2 y := by rw [ho']; simp [lst2]
              have HLO : Hid (o.length = q.length + 1) := hlo
              have j9 : (0 : Int) < (o.length : Int) := by omega
              have j8 : (o.length : Int) - 1 = (q.length : Int) := by omega
              rw [Nat.zero_add] at hcy
              have hql : q.length < o.length := by omega
              cases e3 : st2 y with
              | false =>
                have e3' : (y.toList == [42, 42]) = false := e3
                have HC2 : Hid ((L.take (k + 1)).foldl colS [] = o ++ [x]) := by show _ = _; rw [HC.out, colS, hl2, e3]; simp
                clear HC e2 e3 ho ho' hl2 hlo hTA
                go_wp2_with (first | (at_builtin; refine wpList_append_own _ rfl _ _ 39 rfl w3.heap.size 9 i0 (.string ⟨#[]⟩) 1 16 Tryd.underlying39 hi hz0 hz1 hz2 rfl (by decide) _ _ _ rfl (hO.below ((Below.refl _ _).alloc (Nat.le_refl _) _)) ⟨wr.heap.size, 0, none⟩ 1 1 [.string x] rfl rfl (cell_one_new _ _ _) (fun y hy => by simp at hy; subst hy; rfl) (by unfold maxLen; omega) (by omega) (by have := hB.size; rw [size_al]; omega) ?_; intro v2 w2' hown2 hgrow2 _) | fail)
                have hB2 : Below w3.heap.size w3 w2' := (hB.alloc hB.size _).grown hgrow2 (by rw [size_al]; have := hB.size; omega) (fun q hq => (World.ownsRow.lt hO q hq).1)
                exact ⟨⟨k + 1, by omega, by go_num, by rw [HC2.out]; exact ows_snoc hown2, hB2⟩, by simp [intOf]; omega⟩
              | true =>
                have e3' : (y.toList == [42, 42]) = true := e3
                have HC2 : Hid ((L.take (k + 1)).foldl colS [] = o) := by show _ = _; rw [HC.out, colS, hl2, e3, e2]; simp
                clear HC e2 e3 ho ho' hl2 hlo hTA
                go_wp2
                exact ⟨⟨k + 1, by omega, by go_num, by rw [HC2.out]; exact hO, hB⟩, by simp [intOf]; omega⟩
        · have e : k = L.length := by omega
          subst e
          have i1 : ¬ (L.length : Int) < (L.length : Int) := by omega
          simp only [List.take_length] at hO ⊢
          obtain ⟨g, e9, hgc, hTA⟩ := ows_ta hO (col_ne (.inr HL0.out))
          have hcl := col_len L []
          simp only [List.length_nil, Nat.zero_add] at hcl
          subst e9
          have hB4 := stepA hB3 hB
          generalize L.foldl colS [] = o at *
          clear HZ HL0 hT hO hB hT3 hB3
          go_wp2_with fail
          refine (hpn _).mono ?_
          rintro e w4 ⟨⟨a5, c5, rfl, hO5⟩, hb4⟩
          obtain ⟨g5, e5, hgc5, hTA5⟩ := ows_ta hO5 HN0.out
          subst e5
          have hTA6 := hTA.on hb4
          have hB6 := stepA hB4 hb4
          clear hO5 hb4 hTA hB4 hpn HN0
          go_wp2_with fail
          refine (sFits o g 0 sc g5 0 c5 N w4 hgc hgc5 (by omega) (by omega) hTA6 hTA5).mono ?_
          rintro e w5 ⟨rfl, m, rfl⟩
          have hv := HF.out
          generalize fB o N = Y at *
          subst hv
          go_wp2
          go_ret
          exact ⟨rfl, below_dr hB6 m⟩
end Go.Proofs.YthhaemdpnphhoaaDoor
