/- Failed parts, as the model keeps them. -/
import Derived.Test.YtoleblhidieheaaMoM
import Derived.Test.YtoleblhidieheaaTpOw
import Derived.Deep.Cut
import Derived.Laws.Cover1
namespace Go.Proofs.Ytoleblhidieheaa
open Go.RowKit
/-- a list as it is read -/
abbrev lg (l : List ByteArray) (i : Nat) : ByteArray := l.getD i ⟨#[]⟩
theorem ows_sl {w : World} {base : Nat} {a : Option Addr} {c : Nat} {l : List ByteArray} (h : OwS w base (.slice a l.length c) l) : SL w a l.length (lg l) := fun h0 => by
  have h' := h
  obtain ⟨_, ⟨_, h2⟩ | ⟨g, cap, cur, hv, hb, hg, _⟩⟩ := h
  · exact absurd h2 (by omega)
  · cases hv
    refine ⟨g, 0, rfl, (Array.getElem?_eq_some_iff.1 hg).1, fun i hi => ?_⟩
    rw [Nat.zero_add, World.ownsRow.cellAt h' i (by omega)]
    simp [lg, hi]
/-- what l26Add has laid behind k texts -/
def stA (p : ByteArray) (l : List ByteArray) (k : Nat) : List ByteArray := if hadB p (l.take k) = true then addL p (l.take k) else l.take k
theorem take_one {l : List ByteArray} {k : Nat} (h : k < l.length) : l.take (k + 1) = l.take k ++ [lg l k] := by
  rw [List.take_add_one]
  simp [lg, h]
theorem stA_zero (p : ByteArray) (l : List ByteArray) : stA p l 0 = [] := by simp [stA, hadB]
theorem had_zero (p : ByteArray) (l : List ByteArray) : hadB p (l.take 0) = false := by simp [hadB]
theorem st_had {p : ByteArray} {l : List ByteArray} {k : Nat} (hk : k < l.length) (h : hadB p (l.take k) = true) : hadB p (l.take (k + 1)) = true ∧ stA p l (k + 1) = stA p l k ++ [lg l k] := by
  have e : hadB p (l.take (k + 1)) = true := by rw [take_one hk, hadB_snoc, h]; rfl
  refine ⟨e, ?_⟩
  unfold stA
  rw [if_pos e, if_pos h, take_one hk, addL_had h]
theorem st_less {p : ByteArray} {l : List ByteArray} {k : Nat} (hk : k < l.length) (h : hadB p (l.take k) = false) (hx : lsB (lg l k) p = true) : hadB p (l.take (k + 1)) = false ∧ stA p l (k + 1) = stA p l k ++ [lg l k] := by
  have e : hadB p (l.take (k + 1)) = false := by rw [take_one hk, hadB_snoc, h, hx]; rfl
  refine ⟨e, ?_⟩
  unfold stA
  rw [if_neg (by rw [e]; decide), if_neg (by rw [h]; decide), take_one hk]
theorem st_same {p : ByteArray} {l : List ByteArray} {k : Nat} (hk : k < l.length) (h : hadB p (l.take k) = false) (hx : lsB (lg l k) p = false) (he : lg l k = p) : hadB p (l.take (k + 1)) = true ∧ stA p l (k + 1) = stA p l k ++ [lg l k] := by
  have e : hadB p (l.take (k + 1)) = true := by rw [take_one hk, hadB_snoc, h, hx]; rfl
  refine ⟨e, ?_⟩
  unfold stA
  rw [if_pos e, if_neg (by rw [h]; decide), take_one hk, addL_new h hx, if_pos he]; simp
theorem st_new {p : ByteArray} {l : List ByteArray} {k : Nat} (hk : k < l.length) (h : hadB p (l.take k) = false) (hx : lsB (lg l k) p = false) (he : ¬ lg l k = p) : hadB p (l.take (k + 1)) = true ∧ stA p l (k + 1) = stA p l k ++ [p] ++ [lg l k] := by
  have e : hadB p (l.take (k + 1)) = true := by rw [take_one hk, hadB_snoc, h, hx]; rfl
  refine ⟨e, ?_⟩
  unfold stA
  rw [if_pos e, if_neg (by rw [h]; decide), take_one hk, addL_new h hx, if_neg he]
theorem stA_end {p : ByteArray} {l : List ByteArray} : (hadB p (l.take l.length) = true → addL p l = stA p l l.length) ∧ (hadB p (l.take l.length) = false → addL p l = stA p l l.length ++ [p]) := by
  constructor
  · intro h; unfold stA; rw [if_pos h, List.take_length]
  · intro h; unfold stA; rw [if_neg (by rw [h]; decide), List.take_length]; rw [List.take_length] at h; exact addL_no h
theorem stA_len (p : ByteArray) (l : List ByteArray) (k : Nat) : (stA p l k).length ≤ k + 1 := by
  unfold stA
  have := addL_len p (l.take k)
  have h2 : (l.take k).length ≤ k := by simp; omega
  split <;> omega
set_option maxRecDepth 20000 in
set_option maxHeartbeats 4000000 in
theorem sAdd (a : Option Addr) (c : Nat) (l : List ByteArray) (p : ByteArray) (w : World) (hn : l.length ≤ 1000) (ha : SL w a l.length (lg l)) :
    Calls Try.prog 27 #[.slice a l.length c, .string p] w fun e w' => AnsTs w w' e (addL p l) ∧ Below w.heap.size w w' := by
  obtain ⟨i0, hi, hzz⟩ := Option.map_eq_some_iff.1 infoS
  simp only [Prod.mk.injEq] at hzz
  obtain ⟨hz0, hz1, hz2⟩ := hzz
  have HL : Hid (∀ k, (stA p l k).length ≤ k + 1) := fun k => stA_len p l k
  have HZ : Hid ([] = stA p l 0) := (stA_zero p l).symm
  have HZ2 : Hid (false = hadB p (l.take 0)) := (had_zero p l).symm
  have HT : Hid (hadB p (l.take l.length) = true → addL p l = stA p l l.length) := stA_end.1
  have HU : Hid (hadB p (l.take l.length) = false → addL p l = stA p l l.length ++ [p]) := stA_end.2
  have HS1 : Hid (∀ k, k < l.length → hadB p (l.take k) = true → hadB p (l.take (k + 1)) = true ∧ stA p l (k + 1) = stA p l k ++ [lg l k]) := fun k hk h => st_had hk h
  have HS2 : Hid (∀ k, k < l.length → hadB p (l.take k) = false → Op.bytesLess (lg l k).toList p.toList = true → hadB p (l.take (k + 1)) = false ∧ stA p l (k + 1) = stA p l k ++ [lg l k]) := fun k hk h hx => st_less hk h hx
  have HS3 : Hid (∀ k, k < l.length → hadB p (l.take k) = false → Op.bytesLess (lg l k).toList p.toList = false → lg l k = p → hadB p (l.take (k + 1)) = true ∧ stA p l (k + 1) = stA p l k ++ [lg l k]) := fun k hk h hx he => st_same hk h hx he
  have HS4 : Hid (∀ k, k < l.length → hadB p (l.take k) = false → Op.bytesLess (lg l k).toList p.toList = false → ¬ lg l k = p → hadB p (l.take (k + 1)) = true ∧ stA p l (k + 1) = stA p l k ++ [p] ++ [lg l k]) := fun k hk h hx he => st_new hk h hx he
  generalize addL p l = R at *
  generalize hN : l.length = n at *
  clear hN
  generalize lg l = F at *
  obtain ⟨H, hH⟩ : ∃ H : Nat → Bool, ∀ k, hadB p (l.take k) = H k := ⟨fun k => hadB p (l.take k), fun _ => rfl⟩
  simp only [hH] at HZ2 HT HU HS1 HS2 HS3 HS4
  generalize stA p l = G at *
  clear hH
  go_enter Try.func27, Try.ntmps27
  go_wp2
  go_loopw [5, 6, 11] (fun v h i wr => ∃ (k : Nat) (B : Bool) (o : List ByteArray), k ≤ n ∧ v = v ∧ h = .bool B ∧ i = .int .i64 (k : Int) ∧ Hid (B = H k) ∧ Hid (o = G k) ∧ OwS wr w.heap.size v o ∧ Below w.heap.size w wr) (fun _ _ i _ => n - (intOf i).toNat)
  case atStart => exact ⟨0, false, [], Nat.zero_le _, rfl, rfl, rfl, HZ2, HZ, ows_nil _ _, Below.refl _ _⟩
  case round =>
    obtain ⟨k, B, o, hk, -, rfl, rfl, HB, HO, hO, hB⟩ := hrel
    obtain ⟨sa, sc, rfl⟩ := hO.shape
    have hol : o.length ≤ 1001 := by rw [HO.out]; have := HL.out k; omega
    clear HZ HZ2
    by_cases hlt : k < n
    · obtain ⟨b1, o1, rfl, l1, hc1⟩ := ha (by omega)
      have y1 := (hB.cell (p := ⟨b1, o1 + k, none⟩) l1).trans (hc1 k hlt)
      have j0 : (0 : Int) ≤ (k : Int) := by omega
      have j1 : (k : Int) < (n : Int) := by omega
      have K1 := HS1.out k hlt
      have K2 := HS2.out k hlt
      have K3 := HS3.out k hlt
      have K4 := HS4.out k hlt
      clear HS1 HS2 HS3 HS4 HT HU hc1 ha HL
      have hbe := bl_eq (F k) p
      generalize F k = x at *
      cases B with
      | true =>
        have Q : Hid (true = H (k + 1) ∧ o ++ [x] = G (k + 1)) := by
          have := K1 HB.out.symm
          exact ⟨this.1.symm, by rw [this.2, HO.out]⟩
        clear K1 K2 K3 K4 HB HO hbe
        go_wp2_with (first | (at_builtin; refine wpList_append_own _ rfl _ _ 24 rfl w.heap.size 9 i0 (.string ⟨#[]⟩) 1 16 Try.underlying24 hi hz0 hz1 hz2 rfl (by decide) _ _ _ rfl (hO.below ((Below.refl _ _).alloc (Nat.le_refl _) _)) ⟨wr.heap.size, 0, none⟩ 1 1 [.string x] rfl rfl (cell_one_new _ _ _) (fun y hy => by simp at hy; subst hy; rfl) (by unfold maxLen; omega) (by omega) (by have := hB.size; rw [size_al]; omega) ?_; intro v2 w2 hown2 hgrow2 _) | fail)
        have hB2 : Below w.heap.size w w2 := (hB.alloc hB.size _).grown hgrow2 (by rw [size_al]; have := hB.size; omega) (fun q hq => (World.ownsRow.lt hO q hq).1)
        exact ⟨⟨k + 1, true, o ++ [x], by omega, trivial, rfl, by go_num, Q.out.1, Q.out.2, ows_snoc hown2, hB2⟩, by simp [intOf]; omega⟩
      | false =>
        cases hx : Op.bytesLess x.toList p.toList with
        | true =>
          have Q : Hid (false = H (k + 1) ∧ o ++ [x] = G (k + 1)) := by
            have := K2 HB.out.symm hx
            exact ⟨this.1.symm, by rw [this.2, HO.out]⟩
          clear K1 K2 K3 K4 HB HO hbe
          go_wp2_with (first | (at_builtin; refine wpList_append_own _ rfl _ _ 24 rfl w.heap.size 9 i0 (.string ⟨#[]⟩) 1 16 Try.underlying24 hi hz0 hz1 hz2 rfl (by decide) _ _ _ rfl (hO.below ((Below.refl _ _).alloc (Nat.le_refl _) _)) ⟨wr.heap.size, 0, none⟩ 1 1 [.string x] rfl rfl (cell_one_new _ _ _) (fun y hy => by simp at hy; subst hy; rfl) (by unfold maxLen; omega) (by omega) (by have := hB.size; rw [size_al]; omega) ?_; intro v2 w2 hown2 hgrow2 _) | fail)
          have hB2 : Below w.heap.size w w2 := (hB.alloc hB.size _).grown hgrow2 (by rw [size_al]; have := hB.size; omega) (fun q hq => (World.ownsRow.lt hO q hq).1)
          exact ⟨⟨k + 1, false, o ++ [x], by omega, trivial, rfl, by go_num, Q.out.1, Q.out.2, ows_snoc hown2, hB2⟩, by simp [intOf]; omega⟩
        | false =>
          by_cases he : x = p
          · have Q : Hid (true = H (k + 1) ∧ o ++ [x] = G (k + 1)) := by
              have := K3 HB.out.symm hx he
              exact ⟨this.1.symm, by rw [this.2, HO.out]⟩
            have e1 : (x.toList == p.toList) = true := by rw [hbe]; exact decide_eq_true he
            have e2 : (x.toList != p.toList) = false := by unfold bne; rw [e1]; rfl
            clear K1 K2 K3 K4 HB HO hbe he
            go_wp2_with (first | (at_builtin; refine wpList_append_own _ rfl _ _ 24 rfl w.heap.size 9 i0 (.string ⟨#[]⟩) 1 16 Try.underlying24 hi hz0 hz1 hz2 rfl (by decide) _ _ _ rfl (hO.below ((Below.refl _ _).alloc (Nat.le_refl _) _)) ⟨wr.heap.size, 0, none⟩ 1 1 [.string x] rfl rfl (cell_one_new _ _ _) (fun y hy => by simp at hy; subst hy; rfl) (by unfold maxLen; omega) (by omega) (by have := hB.size; rw [size_al]; omega) ?_; intro v2 w2 hown2 hgrow2 _) | fail)
            have hB2 : Below w.heap.size w w2 := (hB.alloc hB.size _).grown hgrow2 (by rw [size_al]; have := hB.size; omega) (fun q hq => (World.ownsRow.lt hO q hq).1)
            exact ⟨⟨k + 1, true, o ++ [x], by omega, trivial, rfl, by go_num, Q.out.1, Q.out.2, ows_snoc hown2, hB2⟩, by simp [intOf]; omega⟩
          · have Q : Hid (true = H (k + 1) ∧ o ++ [p] ++ [x] = G (k + 1)) := by
              have := K4 HB.out.symm hx he
              exact ⟨this.1.symm, by rw [this.2, HO.out]⟩
            have e1 : (x.toList == p.toList) = false := by rw [hbe]; exact decide_eq_false he
            have e2 : (x.toList != p.toList) = true := by unfold bne; rw [e1]; rfl
            clear K1 K2 K3 K4 HB HO hbe he
            go_upto_region 10 with (first | (at_builtin; refine wpList_append_own _ rfl _ _ 24 rfl w.heap.size 9 i0 (.string ⟨#[]⟩) 1 16 Try.underlying24 hi hz0 hz1 hz2 rfl (by decide) _ _ _ rfl (hO.below ((Below.refl _ _).alloc (Nat.le_refl _) _)) ⟨wr.heap.size, 0, none⟩ 1 1 [.string p] rfl rfl (cell_one_new _ _ _) (fun y hy => by simp at hy; subst hy; rfl) (by unfold maxLen; omega) (by omega) (by have := hB.size; rw [size_al]; omega) ?_; intro v3 w3 hown3 hgrow3 _) | fail)
            have hB3 : Below w.heap.size w w3 := (hB.alloc hB.size _).grown hgrow3 (by rw [size_al]; have := hB.size; omega) (fun q hq => (World.ownsRow.lt hO q hq).1)
            have hO3 := ows_snoc hown3
            obtain ⟨sa3, sc3, rfl⟩ := hO3.shape
            have hol3 : (o ++ [p]).length ≤ 1002 := by simp; omega
            clear hO hB hown3 hgrow3
            generalize o ++ [p] = o3 at *
            go_wp2_with (first | (at_builtin; refine wpList_append_own _ rfl _ _ 24 rfl w.heap.size 9 i0 (.string ⟨#[]⟩) 1 16 Try.underlying24 hi hz0 hz1 hz2 rfl (by decide) _ _ _ rfl (hO3.below ((Below.refl _ _).alloc (Nat.le_refl _) _)) ⟨w3.heap.size, 0, none⟩ 1 1 [.string x] rfl rfl (cell_one_new _ _ _) (fun y hy => by simp at hy; subst hy; rfl) (by unfold maxLen; omega) (by omega) (by have := hB3.size; rw [size_al]; omega) ?_; intro v4 w4 hown4 hgrow4 _) | fail)
            have hB4 : Below w.heap.size w w4 := (hB3.alloc hB3.size _).grown hgrow4 (by rw [size_al]; have := hB3.size; omega) (fun q hq => (World.ownsRow.lt hO3 q hq).1)
            exact ⟨⟨k + 1, true, o3 ++ [x], by omega, trivial, rfl, by go_num, Q.out.1, Q.out.2, ows_snoc hown4, hB4⟩, by simp [intOf]; omega⟩
    · have hke : k = n := by omega
      subst hke
      clear HS1 HS2 HS3 HS4 HL ha
      cases B with
      | true =>
        have Q : Hid (o = R) := by show o = R; rw [HT.out HB.out.symm, HO.out]
        clear HT HU HB HO
        go_wp2
        go_ret
        have := Q.out
        subst this
        exact ⟨⟨sa, sc, rfl, hO⟩, hB⟩
      | false =>
        have Q : Hid (o ++ [p] = R) := by show o ++ [p] = R; rw [HU.out HB.out.symm, HO.out]
        clear HT HU HB HO
        go_wp2_with (first | (at_builtin; refine wpList_append_own _ rfl _ _ 24 rfl w.heap.size 9 i0 (.string ⟨#[]⟩) 1 16 Try.underlying24 hi hz0 hz1 hz2 rfl (by decide) _ _ _ rfl (hO.below ((Below.refl _ _).alloc (Nat.le_refl _) _)) ⟨wr.heap.size, 0, none⟩ 1 1 [.string p] rfl rfl (cell_one_new _ _ _) (fun y hy => by simp at hy; subst hy; rfl) (by unfold maxLen; omega) (by omega) (by have := hB.size; rw [size_al]; omega) ?_; intro v2 w2 hown2 hgrow2 _) | fail)
        have hB2 : Below w.heap.size w w2 := (hB.alloc hB.size _).grown hgrow2 (by rw [size_al]; have := hB.size; omega) (fun q hq => (World.ownsRow.lt hO q hq).1)
        have hO2 := ows_snoc hown2
        obtain ⟨sa2, sc2, rfl⟩ := hO2.shape
        go_ret
        have := Q.out
        subst this
        exact ⟨⟨sa2, sc2, rfl, hO2⟩, hB2⟩
/-- what l26Less has laid behind k texts -/
def stD (p : ByteArray) (l : List ByteArray) (k : Nat) : List ByteArray := delL p (l.take k)
theorem stD_step {p : ByteArray} {l : List ByteArray} {k : Nat} (hk : k < l.length) : stD p l (k + 1) = if lg l k = p then stD p l k else stD p l k ++ [lg l k] := by
  unfold stD delL
  rw [take_one hk, List.filter_append]
  generalize lg l k = x
  by_cases e : x = p
  · rw [if_pos e, List.filter_cons_of_neg (by simp [e])]; simp
  · rw [if_neg e, List.filter_cons_of_pos (by simp [e])]; simp
theorem stD_len (p : ByteArray) (l : List ByteArray) (k : Nat) : (stD p l k).length ≤ k := by
  unfold stD
  have := delL_len p (l.take k)
  have h2 : (l.take k).length ≤ k := by simp; omega
  omega
set_option maxRecDepth 20000 in
set_option maxHeartbeats 4000000 in
theorem sLess (a : Option Addr) (c : Nat) (l : List ByteArray) (p : ByteArray) (w : World) (hn : l.length ≤ 1000) (ha : SL w a l.length (lg l)) :
    Calls Try.prog 28 #[.slice a l.length c, .string p] w fun e w' => AnsTs w w' e (delL p l) ∧ Below w.heap.size w w' := by
  obtain ⟨i0, hi, hzz⟩ := Option.map_eq_some_iff.1 infoS
  simp only [Prod.mk.injEq] at hzz
  obtain ⟨hz0, hz1, hz2⟩ := hzz
  have HL : Hid (∀ k, (stD p l k).length ≤ k) := fun k => stD_len p l k
  have HZ : Hid ([] = stD p l 0) := by show [] = stD p l 0; simp [stD, delL]
  have HT : Hid (stD p l l.length = delL p l) := by show stD p l l.length = delL p l; unfold stD; rw [List.take_length]
  have HS : Hid (∀ k, k < l.length → stD p l (k + 1) = if lg l k = p then stD p l k else stD p l k ++ [lg l k]) := fun k hk => stD_step hk
  generalize delL p l = R at *
  generalize hN : l.length = n at *
  clear hN
  generalize lg l = F at *
  generalize stD p l = G at *
  go_enter Try.func28, Try.ntmps28
  go_wp2
  go_loopw [5, 10] (fun v i wr => ∃ (k : Nat) (o : List ByteArray), k ≤ n ∧ v = v ∧ i = .int .i64 (k : Int) ∧ Hid (o = G k) ∧ OwS wr w.heap.size v o ∧ Below w.heap.size w wr) (fun _ i _ => n - (intOf i).toNat)
  case atStart => exact ⟨0, [], Nat.zero_le _, rfl, rfl, HZ, ows_nil _ _, Below.refl _ _⟩
  case round =>
    obtain ⟨k, o, hk, -, rfl, HO, hO, hB⟩ := hrel
    obtain ⟨sa, sc, rfl⟩ := hO.shape
    have hol : o.length ≤ 1001 := by rw [HO.out]; have := HL.out k; omega
    clear HZ
    by_cases hlt : k < n
    · obtain ⟨b1, o1, rfl, l1, hc1⟩ := ha (by omega)
      have y1 := (hB.cell (p := ⟨b1, o1 + k, none⟩) l1).trans (hc1 k hlt)
      have j0 : (0 : Int) ≤ (k : Int) := by omega
      have j1 : (k : Int) < (n : Int) := by omega
      have K1 := HS.out k hlt
      clear HS HT hc1 ha HL
      have hbe := bl_eq (F k) p
      generalize F k = x at *
      by_cases he : x = p
      · have Q : Hid (o = G (k + 1)) := by show o = G (k + 1); rw [K1, if_pos he, HO.out]
        have e1 : (x.toList == p.toList) = true := by rw [hbe]; exact decide_eq_true he
        have e2 : (x.toList != p.toList) = false := by unfold bne; rw [e1]; rfl
        clear K1 HO hbe he
        go_wp2
        exact ⟨⟨k + 1, o, by omega, trivial, by go_num, Q, hO, hB⟩, by simp [intOf]; omega⟩
      · have Q : Hid (o ++ [x] = G (k + 1)) := by show o ++ [x] = G (k + 1); rw [K1, if_neg he, HO.out]
        have e1 : (x.toList == p.toList) = false := by rw [hbe]; exact decide_eq_false he
        have e2 : (x.toList != p.toList) = true := by unfold bne; rw [e1]; rfl
        clear K1 HO hbe he
        go_wp2_with (first | (at_builtin; refine wpList_append_own _ rfl _ _ 24 rfl w.heap.size 9 i0 (.string ⟨#[]⟩) 1 16 Try.underlying24 hi hz0 hz1 hz2 rfl (by decide) _ _ _ rfl (hO.below ((Below.refl _ _).alloc (Nat.le_refl _) _)) ⟨wr.heap.size, 0, none⟩ 1 1 [.string x] rfl rfl (cell_one_new _ _ _) (fun y hy => by simp at hy; subst hy; rfl) (by unfold maxLen; omega) (by omega) (by have := hB.size; rw [size_al]; omega) ?_; intro v2 w2 hown2 hgrow2 _) | fail)
        have hB2 : Below w.heap.size w w2 := (hB.alloc hB.size _).grown hgrow2 (by rw [size_al]; have := hB.size; omega) (fun q hq => (World.ownsRow.lt hO q hq).1)
        exact ⟨⟨k + 1, o ++ [x], by omega, trivial, by go_num, Q, ows_snoc hown2, hB2⟩, by simp [intOf]; omega⟩
    · have hke : k = n := by omega
      subst hke
      have Q : Hid (o = R) := by show o = R; rw [← HT.out, HO.out]
      clear HS HL ha HT HO
      go_wp2
      go_ret
      have := Q.out
      subst this
      exact ⟨⟨sa, sc, rfl, hO⟩, hB⟩
set_option maxHeartbeats 2000000 in
theorem sIll (a b : Option Addr) (c d nn : Nat) (l : List ByteArray) (N : Nat → ByteArray) (w : World) (hn : l.length ≤ 1000) (hnn : nn ≤ 1048576) (ha : SL w a l.length (lg l)) (hb : SL w b nn N) :
    Calls Try.prog 29 #[.slice a l.length c, .slice b nn d] w fun e w' => e = .returned (.bool (illB N nn l)) ∧ w' = w := by
  have HZ : Hid (illB N nn (l.take 0) = false) := by show illB N nn (l.take 0) = false; simp [illB]
  have HS : Hid (∀ k, k < l.length → illB N nn (l.take (k + 1)) = (illB N nn (l.take k) || inS N (lg l k) nn)) := fun k hk => by
    rw [take_one hk]; simp [illB]
  have HT : Hid (illB N nn (l.take l.length) = illB N nn l) := by show illB N nn (l.take l.length) = illB N nn l; rw [List.take_length]
  have HY : Hid (∀ k, k < l.length → inS N (lg l k) nn = true → illB N nn l = true) := fun k hk h => by
    unfold illB; rw [List.any_eq_true]; exact ⟨lg l k, by simp [lg, hk], h⟩
  generalize illB N nn l = R at *
  generalize hN : l.length = n at *
  clear hN
  have kI := fun k => sIn b nn d N (lg l k) w hnn hb
  obtain ⟨J, hJ⟩ : ∃ J : Nat → Bool, ∀ k, inS N (lg l k) nn = J k := ⟨fun k => inS N (lg l k) nn, fun _ => rfl⟩
  simp only [hJ] at HS HY kI
  generalize lg l = F at *
  obtain ⟨H, hH⟩ : ∃ H : Nat → Bool, ∀ k, illB N nn (l.take k) = H k := ⟨fun k => illB N nn (l.take k), fun _ => rfl⟩
  simp only [hH] at HZ HS HT
  clear hJ hH hb
  go_enter Try.func29, Try.ntmps29
  go_wp2
  go_loopw [9] (fun i wr => ∃ k : Nat, k ≤ n ∧ i = .int .i64 (k : Int) ∧ Hid (H k = false) ∧ wr = w) (fun i _ => n - (intOf i).toNat)
  case atStart => exact ⟨0, Nat.zero_le _, rfl, HZ, rfl⟩
  case round =>
    obtain ⟨k, hk, rfl, HE, hw⟩ := hrel
    have hw' := hw.symm
    clear hw
    subst hw'
    by_cases hlt : k < n
    · obtain ⟨b1, o1, rfl, l1, hc1⟩ := ha (by omega)
      have y1 := hc1 k hlt
      have j0 : (0 : Int) ≤ (k : Int) := by omega
      have j1 : (k : Int) < (n : Int) := by omega
      have K1 := HS.out k hlt
      have K2 := HY.out k hlt
      have kK := kI k
      clear hc1 ha HS HY kI HT HZ
      generalize F k = x at *
      cases hj : J k with
      | true =>
        have HR : Hid (R = true) := K2 hj
        rw [hj] at kK
        clear K1 K2 HE hj
        go_wp2_with (first | (go_at_call 26; refine kK.mono ?_; rintro e w9 ⟨rfl, hw9⟩; have hs' := hw9.symm; clear hw9 kK; subst hs') | fail)
        go_ret
        exact ⟨by rw [HR.out]; rfl, rfl⟩
      | false =>
        have HR : Hid (H (k + 1) = false) := by show H (k + 1) = false; rw [K1, HE.out, hj]; rfl
        rw [hj] at kK
        clear K1 K2 HE hj
        go_wp2_with (first | (go_at_call 26; refine kK.mono ?_; rintro e w9 ⟨rfl, hw9⟩; have hs' := hw9.symm; clear hw9 kK; subst hs') | fail)
        exact ⟨⟨k + 1, by omega, by go_num, HR, by first | trivial | rfl⟩, by simp [intOf]; omega⟩
    · have hke : k = n := by omega
      subst hke
      have HR : Hid (R = false) := by show R = false; rw [← HT.out]; exact HE.out
      clear kI HS HY ha HT HZ HE
      go_wp2
      go_ret
      exact ⟨by rw [HR.out]; rfl, rfl⟩
end Go.Proofs.Ytoleblhidieheaa
