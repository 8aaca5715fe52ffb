/- Topics, as the model looks at them. -/
import Derived.Test.YthhaemdpnphhoaaDoorTpQ
import Derived.Test.YthhaemdpnphhoaaDoorTpG
import Derived.Deep.Cut
namespace Go.Proofs.YthhaemdpnphhoaaDoor
open Go.RowKit
/-- the answer of a function that tells texts -/
def AnsTs (w w' : World) (e : Ending) (l : List ByteArray) : Prop := ∃ a c, e = .returned (.slice a l.length c) ∧ OwS w' w.heap.size (.slice a l.length c) l
set_option maxRecDepth 20000 in
set_option maxHeartbeats 4000000 in
theorem sParts (s : ByteArray) (w : World) (hs : s.size ≤ 1048576) :
    Calls Tryd.prog 23 #[.string s] w fun e w' => AnsTs w w' e (tpP s) ∧ Below w.heap.size w w' := by
  obtain ⟨i0, hi, hzz⟩ := Option.map_eq_some_iff.1 infoS
  simp only [Prod.mk.injEq] at hzz
  obtain ⟨hz0, hz1, hz2⟩ := hzz
  by_cases h0 : s.size = 0
  · have HA : Hid (AnsTs w w (.returned (.slice none 0 0)) (tpP s)) := by
      show AnsTs _ _ _ _
      rw [tp_none (.inl h0)]
      exact ⟨none, 0, rfl, ows_nil _ _⟩
    have j0 : ((s.size : Int) == 0) = true := by simp [h0]
    have HZ : Hid (s.size = 0) := h0
    clear h0
    go_enter Tryd.func23, Tryd.ntmps23
    go_wp2
    go_ret
    exact ⟨HA.out, Below.refl _ _⟩
  have j0 : ((s.size : Int) == 0) = false := by simp [h0]
  have x0 : ∀ w, (Instr.index 9 (.string s) (.int .i64 0)).run Tryd.prog w = .ok (.int .u8 (bt s 0)) w := fun w => ix_bt (P := Tryd.prog) Tryd.underlying9 s 0 (by omega) w
  by_cases h1 : bt s 0 = 47
  case neg =>
    have HA : Hid (AnsTs w w (.returned (.slice none 0 0)) (tpP s)) := by
      show AnsTs _ _ _ _
      rw [tp_none (.inr h1)]
      exact ⟨none, 0, rfl, ows_nil _ _⟩
    have j1 : (bt s 0 == 47) = false := by simpa using h1
    generalize bt s 0 = X at *
    clear h1
    go_enter Tryd.func23, Tryd.ntmps23
    go_wp2
    go_ret
    exact ⟨HA.out, Below.refl _ _⟩
  have H1 : Hid (bt s 0 = 47) := h1
  have H0 : Hid (0 < s.size) := by show 0 < s.size; omega
  rw [h1] at x0
  clear h1
  have hix := fun i hi w => ix_bt (P := Tryd.prog) Tryd.underlying9 s i hi w
  go_enter Tryd.func23, Tryd.ntmps23
  go_wp2
  clear x0
  go_loopw [3, 4, 5] (fun v a i wr => ∃ (k A : Nat) (o : List ByteArray), k ≤ s.size + 1 ∧ v = v ∧ a = .int .i64 (A : Int) ∧ i = .int .i64 (k : Int) ∧ Hid (StP s k A o) ∧ OwS wr w.heap.size v o ∧ Below w.heap.size w wr) (fun _ _ i _ => s.size + 1 - (intOf i).toNat)
  case atStart => exact ⟨1, 1, [], by omega, rfl, rfl, rfl, st_start H0.out, ows_nil _ _, Below.refl _ _⟩
  case round =>
    obtain ⟨k, A, o, hk, -, rfl, rfl, HS, hO, hB⟩ := hrel
    obtain ⟨sa, sc, rfl⟩ := hO.shape
    by_cases hlt : k ≤ s.size
    · have hol : o.length < k := HS.out.2.2
      obtain ⟨hA1, hA2, -, -⟩ := HS.out.1 hlt
      have i1 : (k : Int) ≤ (s.size : Int) := by omega
      have hB' := hB
      by_cases he : k = s.size
      · have HS2 : Hid (StP s (k + 1) (k + 1) (o ++ [s.extract A k])) := st_cut HS.out hlt (fun h => by omega)
        have e1 : ((k : Int) == (s.size : Int)) = true := by simp [he]
        clear HS hix he
        go_wp2_with (first | (at_builtin; refine wpList_append_own _ rfl _ _ 39 rfl w.heap.size 9 i0 (.string ⟨#[]⟩) 1 16 Tryd.underlying39 hi hz0 hz1 hz2 rfl (by decide) _ _ _ rfl (hO.below ((Below.refl _ _).alloc (Nat.le_refl _) _)) ⟨wr.heap.size, 0, none⟩ 1 1 [.string (s.extract A k)] rfl rfl (cell_one_new _ _ _) (fun y hy => by simp at hy; subst hy; rfl) (by unfold maxLen; omega) (by omega) (by have := hB.size; rw [size_al]; omega) ?_; intro v2 w2 hown2 hgrow2 _) | fail)
        have hB2 : Below w.heap.size w w2 := (hB.alloc hB.size _).grown hgrow2 (by rw [size_al]; have := hB.size; omega) (fun q hq => (World.ownsRow.lt hO q hq).1)
        exact ⟨⟨k + 1, k + 1, o ++ [s.extract A k], by omega, trivial, by go_num, by go_num, HS2, ows_snoc hown2, hB2⟩, by simp [intOf]; omega⟩
      · have hlt2 : k < s.size := by omega
        have x0 := hix k hlt2
        have e1 : ((k : Int) == (s.size : Int)) = false := by simp; omega
        have i2 : (k : Int) < (s.size : Int) := by omega
        by_cases hc : bt s k = 47
        · have HS2 : Hid (StP s (k + 1) (k + 1) (o ++ [s.extract A k])) := st_cut HS.out hlt (fun _ => hc)
          rw [hc] at x0
          clear HS hix he hc
          go_wp2_with (first | (at_builtin; refine wpList_append_own _ rfl _ _ 39 rfl w.heap.size 9 i0 (.string ⟨#[]⟩) 1 16 Tryd.underlying39 hi hz0 hz1 hz2 rfl (by decide) _ _ _ rfl (hO.below ((Below.refl _ _).alloc (Nat.le_refl _) _)) ⟨wr.heap.size, 0, none⟩ 1 1 [.string (s.extract A k)] rfl rfl (cell_one_new _ _ _) (fun y hy => by simp at hy; subst hy; rfl) (by unfold maxLen; omega) (by omega) (by have := hB.size; rw [size_al]; omega) ?_; intro v2 w2 hown2 hgrow2 _) | fail)
          have hB2 : Below w.heap.size w w2 := (hB.alloc hB.size _).grown hgrow2 (by rw [size_al]; have := hB.size; omega) (fun q hq => (World.ownsRow.lt hO q hq).1)
          exact ⟨⟨k + 1, k + 1, o ++ [s.extract A k], by omega, trivial, by go_num, by go_num, HS2, ows_snoc hown2, hB2⟩, by simp [intOf]; omega⟩
        · have HS2 : Hid (StP s (k + 1) A o) := st_skip HS.out hlt2 hc
          have c1 : (bt s k == 47) = false := by simpa using hc
          clear HS hix he hc
          generalize bt s k = X at *
          go_wp2
          exact ⟨⟨k + 1, A, o, by omega, trivial, rfl, by go_num, HS2, hO, hB⟩, by simp [intOf]; omega⟩
    · have e : k = s.size + 1 := by omega
      subst e
      have i1 : ¬ ((s.size + 1 : Nat) : Int) ≤ (s.size : Int) := by omega
      have ho : o = tpP s := st_end HS.out H0.out H1.out
      have HO : Hid (o = tpP s) := ho
      clear ho HS
      go_wp2
      go_ret
      refine ⟨?_, hB⟩
      rw [← HO.out]
      exact ⟨sa, sc, rfl, hO⟩
set_option maxRecDepth 20000 in
set_option maxHeartbeats 2000000 in
theorem sTopic (s : ByteArray) (w : World) (hs : s.size ≤ 1048576) :
    Calls Tryd.prog 14 #[.string s] w fun e w' => e = .returned (.bool (gtB s)) ∧ Below w.heap.size w w' := by
  have hp := fun w => sParts s w hs
  have hsz : ∀ x ∈ tpP s, x.size ≤ 1048576 := tp_small hs
  have hlen := tp_len (s := s)
  have hg : gtB s = (decide (s.size ≤ 60) && !(tpP s).isEmpty && (tpP s).all gpB) := rfl
  rw [hg]
  clear hg
  generalize tpP s = L at *
  by_cases h6 : 60 < s.size
  · rw [decide_eq_false (by omega : ¬ s.size ≤ 60)]
    have j : (60 : Int) < (s.size : Int) := by omega
    go_enter Tryd.func14, Tryd.ntmps14
    go_wp2_with (go_at_call 23; refine (hp _).mono ?_; rintro e w1 ⟨⟨a, c, rfl, hO⟩, hB⟩)
    go_ret
    exact ⟨by simp, hB⟩
  rw [decide_eq_true (by omega : s.size ≤ 60), Bool.true_and]
  have j : ¬ (60 : Int) < (s.size : Int) := by omega
  by_cases h0 : L = []
  · subst h0
    go_enter Tryd.func14, Tryd.ntmps14
    go_wp2_with (go_at_call 23; refine (hp _).mono ?_; rintro e w1 ⟨⟨a, c, rfl, hO⟩, hB⟩)
    go_ret
    exact ⟨by simp, hB⟩
  have hl : ¬ L.length = 0 := fun e => h0 (List.eq_nil_of_length_eq_zero e)
  have j2 : ((L.length : Int) == 0) = false := by simp; exact h0
  have e0 : L.isEmpty = false := by cases L with | nil => exact absurd rfl h0 | cons a b => rfl
  rw [e0]
  have HA : Hid ((!false && L.all gpB) = L.all gpB) := by show _ = _; simp
  have HF : Hid (∀ k, (hk : k < L.length) → gpB L[k] = false → L.all gpB = false) := fun k hk h => by
    cases e : L.all gpB with
    | false => rfl
    | true => rw [List.all_eq_true.1 e _ (List.getElem_mem hk)] at h; cases h
  have HT : Hid ((∀ k, (hk : k < L.length) → gpB L[k] = true) → L.all gpB = true) := fun h => List.all_eq_true.2 fun x hx => by
    obtain ⟨k, hk, rfl⟩ := List.mem_iff_getElem.1 hx
    exact h k hk
  have HZ : Hid (∀ x ∈ L, x.size ≤ 1048576) := hsz
  clear hsz h0 e0
  rw [HA.out]
  generalize hV : L.all gpB = V at *
  clear hV HA
  go_enter Tryd.func14, Tryd.ntmps14
  go_wp2_with (go_at_call 23; refine (hp _).mono ?_; rintro e w1 ⟨⟨a, c, rfl, hO⟩, hB1⟩)
  have hT1 := hO.tl
  clear hO hp
  go_loopw [18] (fun i wr => ∃ k : Nat, k ≤ L.length ∧ i = .int .i64 (k : Int) ∧ Hid (∀ j, (hj : j < L.length) → j < k → gpB L[j] = true) ∧ wr = w1) (fun i _ => L.length - (intOf i).toNat)
  case atStart => exact ⟨0, Nat.zero_le _, rfl, fun j _ h => by omega, rfl⟩
  case round =>
    obtain ⟨k, hk, rfl, HE, hw⟩ := hrel
    have hw' := hw.symm
    clear hw
    subst hw'
    by_cases hlt : k < L.length
    · obtain ⟨b, off, rfl, hb, hc⟩ := tl_at hT1 hlt
      have i1 : (k : Int) < (L.length : Int) := by omega
      have hsp := fun w => sPart L[k] w (HZ.out _ (List.getElem_mem hlt))
      have HF2 : Hid (gpB L[k] = false → V = false) := HF.out k hlt
      have HE2 : Hid (gpB L[k] = true → ∀ j, (hj : j < L.length) → j < k + 1 → gpB L[j] = true) := fun h j hj hjk => by
        rcases Nat.lt_or_eq_of_le (Nat.le_of_lt_succ hjk) with h1 | rfl
        · exact HE.out j hj h1
        · exact h
      clear HE HF HT HZ
      generalize L[k] = x at *
      cases hx : gpB x with
      | true =>
        have HE3 : Hid (∀ j, (hj : j < L.length) → j < k + 1 → gpB L[j] = true) := HE2.out hx
        rw [hx] at hsp
        clear HE2 HF2 hx
        go_wp2_with (go_at_call 28; refine (hsp _).mono ?_; rintro e w2 ⟨rfl, rfl⟩)
        exact ⟨⟨k + 1, by omega, by go_num, HE3, trivial⟩, by simp [intOf]; omega⟩
      | false =>
        have hv : V = false := HF2.out hx
        subst hv
        rw [hx] at hsp
        clear HE2 HF2 hx
        go_wp2_with (go_at_call 28; refine (hsp _).mono ?_; rintro e w2 ⟨rfl, rfl⟩)
        go_ret
        exact ⟨rfl, hB1⟩
    · have e : k = L.length := by omega
      subst e
      have i1 : ¬ (L.length : Int) < (L.length : Int) := by omega
      have hv : V = true := HT.out fun k hk => HE.out k hk hk
      subst hv
      go_wp2
      go_ret
      exact ⟨rfl, hB1⟩
end Go.Proofs.YthhaemdpnphhoaaDoor
