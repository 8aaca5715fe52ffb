/- Which names fit which patterns, as the program goes: a table of bools. -/
import Derived.Test.YthhaemdpnphhoaaDoorTfJ
import Derived.Test.YthhaemdpnphhoaaDoorTfS
import Derived.Test.YthhaemdpnphhoaaDoorTpI
import Derived.Test.YthhaemdpnphhoaaDoorTsShelf
import Derived.Test.YthhaemdpnphhoaaDoorJnShelf
import Derived.Test.YthhaemdpnphhoaaDoorWhVq
namespace Go.Proofs.YthhaemdpnphhoaaDoor
open Go.RowKit
theorem infoBool : (Tryd.prog.info? 4).map (fun i => (i.zero, i.size, i.bytes)) = some (some (.bool false), 1, 1) := by kernel_rfl
theorem VP.on {w w' : World} {b n : Nat} {f : Nat → Value} (h : VP w b n f) (k : Below w.heap.size w w') : VP w' b n f := h.of k.size (k.block b h.lt)
theorem VP.below {w w' : World} {B b n : Nat} {f : Nat → Value} (h : VP w b n f) (k : Below B w w') (hb : b < B) : VP w' b n f := h.of k.size (k.block b hb)
theorem VP.cg {w : World} {b n : Nat} {f g : Nat → Value} (h : VP w b n f) (e : ∀ i, i < n → f i = g i) : VP w b n g := ⟨h.lt, fun i hi => by rw [← e i hi]; exact h.c i hi, h.fz⟩
theorem TA.on2 {w w' : World} {b o : Nat} {l : List ByteArray} (h : TA w b o l) (k : Below w.heap.size w w') : TA w' b o l := h.on k
/-- the next row of the table -/
def nxG (x : ByteArray) (F : Nat → Bool) (s : List ByteArray) : Nat → Bool
  | 0 => F 0 && st2 x
  | i + 1 => if st2 x then F (i + 1) || nxG x F s i else F i && (st1 x || eqT x (s.getD i ⟨#[]⟩))
theorem nxG_ftt {x : ByteArray} {F : Nat → Bool} {s p : List ByteArray} (h : FtT s p F) : FtT s (p ++ [x]) (nxG x F s) := by
  cases e : st2 x with
  | true => exact ftt_star h e (by simp [nxG, e]) (fun i _ => by simp [nxG, e])
  | false => exact ftt_one h e (by simp [nxG, e]) (fun i hi => by simp [nxG, e, List.getD, hi])
set_option maxRecDepth 20000 in
set_option maxHeartbeats 4000000 in
theorem iNext (x : ByteArray) (F : Nat → Bool) (s : List ByteArray) (b o cs b2 cf : Nat) (w : World) (hs : s.length ≤ 1048576) (hS : TA w b o s) (hF : VP w b2 (s.length + 1) (fun i => .bool (F i))) :
    Calls Tryd.prog 43 #[.string x, .slice (some ⟨b, o, none⟩) s.length cs, .slice (some ⟨b2, 0, none⟩) (s.length + 1) cf] w fun e w' => e = .returned (.slice (some ⟨w.heap.size, 0, none⟩) (s.length + 1) (s.length + 1)) ∧ VP w' w.heap.size (s.length + 1) (fun i => .bool (nxG x F s i)) ∧ Below w.heap.size w w' := by
  have hmk0 := run_make_row' (P := Tryd.prog) 57 4 (.bool false) 1 Tryd.underlying57 infoBool rfl .i64 .i64 (s.length + 1) (by omega) (by omega)
  have hcast : ((s.length + 1 : Nat) : Int) = (s.length : Int) + 1 := by omega
  simp only [hcast] at hmk0
  clear hcast
  have hP0 : VP (w.alloc (.cells (madeCells #[.bool false] (s.length + 1)) 4)) w.heap.size (s.length + 1) (fun _ => .bool false) := vp_row (World.rowIs_made w (.bool false) (s.length + 1) 4)
  have hb0 : Below w.heap.size w (w.alloc (.cells (madeCells #[.bool false] (s.length + 1)) 4)) := (Below.refl _ _).alloc (Nat.le_refl _) _
  have hF0 := hF.on hb0
  have f0 := hF0.c 0 (by omega)
  have g0 := hP0.c 0 (by omega)
  have g1 := hP0.fz 0
  have gl := hP0.lt
  have bl2 := hF.lt
  have HG0 : Hid (nxG x F s 0 = (F 0 && st2 x)) := rfl
  have HGs : Hid (∀ i, nxG x F s (i + 1) = if st2 x then F (i + 1) || nxG x F s i else F i && (st1 x || eqT x (s.getD i ⟨#[]⟩))) := fun _ => rfl
  generalize nxG x F s = G at *
  -- by cases
  cases hf : F 0
  case false =>
    cases hx : st2 x
    case false =>
      have HF0 : Hid (F 0 = false) := hf
      rw [hf] at f0
      have e2 : (x.toList == [42, 42]) = false := hx
      have hG0 : G 0 = false := by rw [HG0.out, hf, hx]; rfl
      have hP1 := hP0.set (k := 0) (by omega) (.bool false)
      have hb1 := hb0.setCell (p := ⟨w.heap.size, 0, none⟩) (Nat.le_refl _) (.bool false)
      have hPk : VP ((w.alloc (.cells (madeCells #[.bool false] (s.length + 1)) 4)).setCell ⟨w.heap.size, 0, none⟩ (.bool false)) w.heap.size (s.length + 1) (fun i => .bool (if i ≤ 0 then G i else false)) := hP1.cg fun i hi => by
        by_cases e : i = 0
        · subst e; simp [hG0]
        · simp [e]
      have HGs2 : Hid (∀ i, G (i + 1) = (F i && (st1 x || eqT x (s.getD i ⟨#[]⟩)))) := fun i => by rw [HGs.out i, hx]; rfl
      rw [World.setCell_alloc_new] at hPk hb1
      clear hP1 hG0 hf hx HGs HG0
      go_enter Tryd.func43, Tryd.ntmps43
      go_upto_region 3 with fail
      clear f0 g0 g1 gl hP0 hb0 hF0 hmk0
      generalize w.alloc (.cells ((madeCells #[.bool false] (s.length + 1)).setIfInBounds 0 (.bool false)) 4) = w1 at *
      go_wp2_with fail
      go_loopw [24] (fun i wr => ∃ k : Nat, k ≤ s.length ∧ i = .int .i64 (k : Int) ∧ VP wr w.heap.size (s.length + 1) (fun i => .bool (if i ≤ k then G i else false)) ∧ Below w.heap.size w wr) (fun i _ => s.length - (intOf i).toNat)
      case atStart => exact ⟨0, Nat.zero_le _, rfl, hPk, hb1⟩
      case round =>
        obtain ⟨k, hk, rfl, hV, hB⟩ := hrel
        clear hPk hb1
        by_cases hlt : k < s.length
        · have i1 : (k : Int) < (s.length : Int) := by omega
          have hc := (hB.cell (p := ⟨b, o + k, none⟩) hS.1).trans (hS.2 k s[k] (List.getElem?_eq_getElem hlt))
          have hFr := hF.below hB hF.lt
          have v1 := hV.c (k + 1) (by omega)
          have v0 := hV.c k (by omega)
          have vf := hV.fz (k + 1)
          have vl := hV.lt
          have hbs := hS.1
          have hbz := hB.size
          rw [if_neg (by omega)] at v1
          rw [if_pos (Nat.le_refl _)] at v0
          have f1 := hFr.c k (by omega)
          have HR0 : Hid (G (k + 1) = (F k && (st1 x || eqT x s[k]))) := by show _ = _; rw [HGs2.out k]; simp [List.getD, hlt]
          generalize F k = p1 at *
          generalize s[k] = y at *
          cases p1 with
          | false =>
            have HR : Hid (G (k + 1) = false) := by show _ = _; rw [HR0.out]; rfl
            have hV2 := hV.set (k := k + 1) (by omega) (.bool false)
            have hB2 := hB.setCell (p := ⟨w.heap.size, k + 1, none⟩) (Nat.le_refl _) (.bool false)
            have HV3 : Hid (VP (wr.setCell ⟨w.heap.size, k + 1, none⟩ (.bool false)) w.heap.size (s.length + 1) (fun i => .bool (if i ≤ k + 1 then G i else false))) := hV2.cg fun i hi => by
              by_cases e : i = k + 1
              · subst e; simp [HR.out]
              · by_cases e3 : i ≤ k
                · rw [if_neg e, if_pos e3, if_pos (by omega)]
                · rw [if_neg e, if_neg e3, if_neg (by omega)]
            clear hV2 hV hFr
            go_wp2
            exact ⟨⟨k + 1, by omega, by go_num, HV3.out, hB2⟩, by simp [intOf]; omega⟩
          | true =>
            cases q1 : st1 x with
            | true =>
              have e1 : (x.toList == [42]) = true := q1
              have HR : Hid (G (k + 1) = true) := by show _ = _; rw [HR0.out, q1]; rfl
              clear q1
              have hV2 := hV.set (k := k + 1) (by omega) (.bool true)
              have hB2 := hB.setCell (p := ⟨w.heap.size, k + 1, none⟩) (Nat.le_refl _) (.bool true)
              have HV3 : Hid (VP (wr.setCell ⟨w.heap.size, k + 1, none⟩ (.bool true)) w.heap.size (s.length + 1) (fun i => .bool (if i ≤ k + 1 then G i else false))) := hV2.cg fun i hi => by
                by_cases e : i = k + 1
                · subst e; simp [HR.out]
                · by_cases e3 : i ≤ k
                  · rw [if_neg e, if_pos e3, if_pos (by omega)]
                  · rw [if_neg e, if_neg e3, if_neg (by omega)]
              clear hV2 hV hFr
              go_wp2
              exact ⟨⟨k + 1, by omega, by go_num, HV3.out, hB2⟩, by simp [intOf]; omega⟩
            | false =>
              have e1 : (x.toList == [42]) = false := q1
              cases q2 : eqT x y with
              | true =>
                have e3' : (x.toList == y.toList) = true := q2
                have HR : Hid (G (k + 1) = true) := by show _ = _; rw [HR0.out, q1, q2]; rfl
                clear q1 q2
                have hV2 := hV.set (k := k + 1) (by omega) (.bool true)
                have hB2 := hB.setCell (p := ⟨w.heap.size, k + 1, none⟩) (Nat.le_refl _) (.bool true)
                have HV3 : Hid (VP (wr.setCell ⟨w.heap.size, k + 1, none⟩ (.bool true)) w.heap.size (s.length + 1) (fun i => .bool (if i ≤ k + 1 then G i else false))) := hV2.cg fun i hi => by
                  by_cases e : i = k + 1
                  · subst e; simp [HR.out]
                  · by_cases e3 : i ≤ k
                    · rw [if_neg e, if_pos e3, if_pos (by omega)]
                    · rw [if_neg e, if_neg e3, if_neg (by omega)]
                clear hV2 hV hFr
                go_wp2
                exact ⟨⟨k + 1, by omega, by go_num, HV3.out, hB2⟩, by simp [intOf]; omega⟩
              | false =>
                have e3' : (x.toList == y.toList) = false := q2
                have HR : Hid (G (k + 1) = false) := by show _ = _; rw [HR0.out, q1, q2]; rfl
                clear q1 q2
                have hV2 := hV.set (k := k + 1) (by omega) (.bool false)
                have hB2 := hB.setCell (p := ⟨w.heap.size, k + 1, none⟩) (Nat.le_refl _) (.bool false)
                have HV3 : Hid (VP (wr.setCell ⟨w.heap.size, k + 1, none⟩ (.bool false)) w.heap.size (s.length + 1) (fun i => .bool (if i ≤ k + 1 then G i else false))) := hV2.cg fun i hi => by
                  by_cases e : i = k + 1
                  · subst e; simp [HR.out]
                  · by_cases e3 : i ≤ k
                    · rw [if_neg e, if_pos e3, if_pos (by omega)]
                    · rw [if_neg e, if_neg e3, if_neg (by omega)]
                clear hV2 hV hFr
                go_wp2
                exact ⟨⟨k + 1, by omega, by go_num, HV3.out, hB2⟩, by simp [intOf]; omega⟩
        · have ek : k = s.length := by omega
          subst ek
          have i1 : ¬ (s.length : Int) < (s.length : Int) := by omega
          have HV2 : Hid (VP wr w.heap.size (s.length + 1) (fun i => .bool (G i))) := hV.cg fun i hi => by rw [if_pos (by omega)]
          clear hV
          go_wp2
          go_ret
          exact ⟨rfl, HV2.out, hB⟩
    case true =>
      have HF0 : Hid (F 0 = false) := hf
      rw [hf] at f0
      have e2 : (x.toList == [42, 42]) = true := hx
      have hG0 : G 0 = false := by rw [HG0.out, hf, hx]; rfl
      have hP1 := hP0.set (k := 0) (by omega) (.bool false)
      have hb1 := hb0.setCell (p := ⟨w.heap.size, 0, none⟩) (Nat.le_refl _) (.bool false)
      have hPk : VP ((w.alloc (.cells (madeCells #[.bool false] (s.length + 1)) 4)).setCell ⟨w.heap.size, 0, none⟩ (.bool false)) w.heap.size (s.length + 1) (fun i => .bool (if i ≤ 0 then G i else false)) := hP1.cg fun i hi => by
        by_cases e : i = 0
        · subst e; simp [hG0]
        · simp [e]
      have HGs2 : Hid (∀ i, G (i + 1) = (F (i + 1) || G i)) := fun i => by rw [HGs.out i, hx]; rfl
      rw [World.setCell_alloc_new] at hPk hb1
      clear hP1 hG0 hf hx HGs HG0
      go_enter Tryd.func43, Tryd.ntmps43
      go_upto_region 3 with fail
      clear f0 g0 g1 gl hP0 hb0 hF0 hmk0
      generalize w.alloc (.cells ((madeCells #[.bool false] (s.length + 1)).setIfInBounds 0 (.bool false)) 4) = w1 at *
      go_wp2_with fail
      go_loopw [24] (fun i wr => ∃ k : Nat, k ≤ s.length ∧ i = .int .i64 (k : Int) ∧ VP wr w.heap.size (s.length + 1) (fun i => .bool (if i ≤ k then G i else false)) ∧ Below w.heap.size w wr) (fun i _ => s.length - (intOf i).toNat)
      case atStart => exact ⟨0, Nat.zero_le _, rfl, hPk, hb1⟩
      case round =>
        obtain ⟨k, hk, rfl, hV, hB⟩ := hrel
        clear hPk hb1
        by_cases hlt : k < s.length
        · have i1 : (k : Int) < (s.length : Int) := by omega
          have hc := (hB.cell (p := ⟨b, o + k, none⟩) hS.1).trans (hS.2 k s[k] (List.getElem?_eq_getElem hlt))
          have hFr := hF.below hB hF.lt
          have v1 := hV.c (k + 1) (by omega)
          have v0 := hV.c k (by omega)
          have vf := hV.fz (k + 1)
          have vl := hV.lt
          have hbs := hS.1
          have hbz := hB.size
          rw [if_neg (by omega)] at v1
          rw [if_pos (Nat.le_refl _)] at v0
          have f1 := hFr.c (k + 1) (by omega)
          have HR0 : Hid (G (k + 1) = (F (k + 1) || G k)) := HGs2.out k
          generalize F (k + 1) = p1 at *
          generalize hgk : G k = p2 at v0 HR0
          clear hgk
          cases p1 with
          | true =>
            have HR : Hid (G (k + 1) = true) := by show _ = _; rw [HR0.out]; rfl
            have hV2 := hV.set (k := k + 1) (by omega) (.bool true)
            have hB2 := hB.setCell (p := ⟨w.heap.size, k + 1, none⟩) (Nat.le_refl _) (.bool true)
            have HV3 : Hid (VP (wr.setCell ⟨w.heap.size, k + 1, none⟩ (.bool true)) w.heap.size (s.length + 1) (fun i => .bool (if i ≤ k + 1 then G i else false))) := hV2.cg fun i hi => by
              by_cases e : i = k + 1
              · subst e; simp [HR.out]
              · by_cases e3 : i ≤ k
                · rw [if_neg e, if_pos e3, if_pos (by omega)]
                · rw [if_neg e, if_neg e3, if_neg (by omega)]
            clear hV2 hV hFr
            go_wp2
            exact ⟨⟨k + 1, by omega, by go_num, HV3.out, hB2⟩, by simp [intOf]; omega⟩
          | false =>
            cases p2 with
            | true =>
              have HR : Hid (G (k + 1) = true) := by show _ = _; rw [HR0.out]; rfl
              have hV2 := hV.set (k := k + 1) (by omega) (.bool true)
              have hB2 := hB.setCell (p := ⟨w.heap.size, k + 1, none⟩) (Nat.le_refl _) (.bool true)
              have HV3 : Hid (VP (wr.setCell ⟨w.heap.size, k + 1, none⟩ (.bool true)) w.heap.size (s.length + 1) (fun i => .bool (if i ≤ k + 1 then G i else false))) := hV2.cg fun i hi => by
                by_cases e : i = k + 1
                · subst e; simp [HR.out]
                · by_cases e3 : i ≤ k
                  · rw [if_neg e, if_pos e3, if_pos (by omega)]
                  · rw [if_neg e, if_neg e3, if_neg (by omega)]
              clear hV2 hV hFr
              go_wp2
              exact ⟨⟨k + 1, by omega, by go_num, HV3.out, hB2⟩, by simp [intOf]; omega⟩
            | false =>
              have HR : Hid (G (k + 1) = false) := by show _ = _; rw [HR0.out]; rfl
              have hV2 := hV.set (k := k + 1) (by omega) (.bool false)
              have hB2 := hB.setCell (p := ⟨w.heap.size, k + 1, none⟩) (Nat.le_refl _) (.bool false)
              have HV3 : Hid (VP (wr.setCell ⟨w.heap.size, k + 1, none⟩ (.bool false)) w.heap.size (s.length + 1) (fun i => .bool (if i ≤ k + 1 then G i else false))) := hV2.cg fun i hi => by
                by_cases e : i = k + 1
                · subst e; simp [HR.out]
                · by_cases e3 : i ≤ k
                  · rw [if_neg e, if_pos e3, if_pos (by omega)]
                  · rw [if_neg e, if_neg e3, if_neg (by omega)]
              clear hV2 hV hFr
              go_wp2
              exact ⟨⟨k + 1, by omega, by go_num, HV3.out, hB2⟩, by simp [intOf]; omega⟩
        · have ek : k = s.length := by omega
          subst ek
          have i1 : ¬ (s.length : Int) < (s.length : Int) := by omega
          have HV2 : Hid (VP wr w.heap.size (s.length + 1) (fun i => .bool (G i))) := hV.cg fun i hi => by rw [if_pos (by omega)]
          clear hV
          go_wp2
          go_ret
          exact ⟨rfl, HV2.out, hB⟩
  case true =>
    cases hx : st2 x
    case false =>
      have HF0 : Hid (F 0 = true) := hf
      rw [hf] at f0
      have e2 : (x.toList == [42, 42]) = false := hx
      have hG0 : G 0 = false := by rw [HG0.out, hf, hx]; rfl
      have hP1 := hP0.set (k := 0) (by omega) (.bool false)
      have hb1 := hb0.setCell (p := ⟨w.heap.size, 0, none⟩) (Nat.le_refl _) (.bool false)
      have hPk : VP ((w.alloc (.cells (madeCells #[.bool false] (s.length + 1)) 4)).setCell ⟨w.heap.size, 0, none⟩ (.bool false)) w.heap.size (s.length + 1) (fun i => .bool (if i ≤ 0 then G i else false)) := hP1.cg fun i hi => by
        by_cases e : i = 0
        · subst e; simp [hG0]
        · simp [e]
      have HGs2 : Hid (∀ i, G (i + 1) = (F i && (st1 x || eqT x (s.getD i ⟨#[]⟩)))) := fun i => by rw [HGs.out i, hx]; rfl
      rw [World.setCell_alloc_new] at hPk hb1
      clear hP1 hG0 hf hx HGs HG0
      go_enter Tryd.func43, Tryd.ntmps43
      go_upto_region 3 with fail
      clear f0 g0 g1 gl hP0 hb0 hF0 hmk0
      generalize w.alloc (.cells ((madeCells #[.bool false] (s.length + 1)).setIfInBounds 0 (.bool false)) 4) = w1 at *
      go_wp2_with fail
      go_loopw [24] (fun i wr => ∃ k : Nat, k ≤ s.length ∧ i = .int .i64 (k : Int) ∧ VP wr w.heap.size (s.length + 1) (fun i => .bool (if i ≤ k then G i else false)) ∧ Below w.heap.size w wr) (fun i _ => s.length - (intOf i).toNat)
      case atStart => exact ⟨0, Nat.zero_le _, rfl, hPk, hb1⟩
      case round =>
        obtain ⟨k, hk, rfl, hV, hB⟩ := hrel
        clear hPk hb1
        by_cases hlt : k < s.length
        · have i1 : (k : Int) < (s.length : Int) := by omega
          have hc := (hB.cell (p := ⟨b, o + k, none⟩) hS.1).trans (hS.2 k s[k] (List.getElem?_eq_getElem hlt))
          have hFr := hF.below hB hF.lt
          have v1 := hV.c (k + 1) (by omega)
          have v0 := hV.c k (by omega)
          have vf := hV.fz (k + 1)
          have vl := hV.lt
          have hbs := hS.1
          have hbz := hB.size
          rw [if_neg (by omega)] at v1
          rw [if_pos (Nat.le_refl _)] at v0
          have f1 := hFr.c k (by omega)
          have HR0 : Hid (G (k + 1) = (F k && (st1 x || eqT x s[k]))) := by show _ = _; rw [HGs2.out k]; simp [List.getD, hlt]
          generalize F k = p1 at *
          generalize s[k] = y at *
          cases p1 with
          | false =>
            have HR : Hid (G (k + 1) = false) := by show _ = _; rw [HR0.out]; rfl
            have hV2 := hV.set (k := k + 1) (by omega) (.bool false)
            have hB2 := hB.setCell (p := ⟨w.heap.size, k + 1, none⟩) (Nat.le_refl _) (.bool false)
            have HV3 : Hid (VP (wr.setCell ⟨w.heap.size, k + 1, none⟩ (.bool false)) w.heap.size (s.length + 1) (fun i => .bool (if i ≤ k + 1 then G i else false))) := hV2.cg fun i hi => by
              by_cases e : i = k + 1
              · subst e; simp [HR.out]
              · by_cases e3 : i ≤ k
                · rw [if_neg e, if_pos e3, if_pos (by omega)]
                · rw [if_neg e, if_neg e3, if_neg (by omega)]
            clear hV2 hV hFr
            go_wp2
            exact ⟨⟨k + 1, by omega, by go_num, HV3.out, hB2⟩, by simp [intOf]; omega⟩
          | true =>
            cases q1 : st1 x with
            | true =>
              have e1 : (x.toList == [42]) = true := q1
              have HR : Hid (G (k + 1) = true) := by show _ = _; rw [HR0.out, q1]; rfl
              clear q1
              have hV2 := hV.set (k := k + 1) (by omega) (.bool true)
              have hB2 := hB.setCell (p := ⟨w.heap.size, k + 1, none⟩) (Nat.le_refl _) (.bool true)
              have HV3 : Hid (VP (wr.setCell ⟨w.heap.size, k + 1, none⟩ (.bool true)) w.heap.size (s.length + 1) (fun i => .bool (if i ≤ k + 1 then G i else false))) := hV2.cg fun i hi => by
                by_cases e : i = k + 1
                · subst e; simp [HR.out]
                · by_cases e3 : i ≤ k
                  · rw [if_neg e, if_pos e3, if_pos (by omega)]
                  · rw [if_neg e, if_neg e3, if_neg (by omega)]
              clear hV2 hV hFr
              go_wp2
              exact ⟨⟨k + 1, by omega, by go_num, HV3.out, hB2⟩, by simp [intOf]; omega⟩
            | false =>
              have e1 : (x.toList == [42]) = false := q1
              cases q2 : eqT x y with
              | true =>
                have e3' : (x.toList == y.toList) = true := q2
                have HR : Hid (G (k + 1) = true) := by show _ = _; rw [HR0.out, q1, q2]; rfl
                clear q1 q2
                have hV2 := hV.set (k := k + 1) (by omega) (.bool true)
                have hB2 := hB.setCell (p := ⟨w.heap.size, k + 1, none⟩) (Nat.le_refl _) (.bool true)
                have HV3 : Hid (VP (wr.setCell ⟨w.heap.size, k + 1, none⟩ (.bool true)) w.heap.size (s.length + 1) (fun i => .bool (if i ≤ k + 1 then G i else false))) := hV2.cg fun i hi => by
                  by_cases e : i = k + 1
                  · subst e; simp [HR.out]
                  · by_cases e3 : i ≤ k
                    · rw [if_neg e, if_pos e3, if_pos (by omega)]
                    · rw [if_neg e, if_neg e3, if_neg (by omega)]
                clear hV2 hV hFr
                go_wp2
                exact ⟨⟨k + 1, by omega, by go_num, HV3.out, hB2⟩, by simp [intOf]; omega⟩
              | false =>
                have e3' : (x.toList == y.toList) = false := q2
                have HR : Hid (G (k + 1) = false) := by show _ = _; rw [HR0.out, q1, q2]; rfl
                clear q1 q2
                have hV2 := hV.set (k := k + 1) (by omega) (.bool false)
                have hB2 := hB.setCell (p := ⟨w.heap.size, k + 1, none⟩) (Nat.le_refl _) (.bool false)
                have HV3 : Hid (VP (wr.setCell ⟨w.heap.size, k + 1, none⟩ (.bool false)) w.heap.size (s.length + 1) (fun i => .bool (if i ≤ k + 1 then G i else false))) := hV2.cg fun i hi => by
                  by_cases e : i = k + 1
                  · subst e; simp [HR.out]
                  · by_cases e3 : i ≤ k
                    · rw [if_neg e, if_pos e3, if_pos (by omega)]
                    · rw [if_neg e, if_neg e3, if_neg (by omega)]
                clear hV2 hV hFr
                go_wp2
                exact ⟨⟨k + 1, by omega, by go_num, HV3.out, hB2⟩, by simp [intOf]; omega⟩
        · have ek : k = s.length := by omega
          subst ek
          have i1 : ¬ (s.length : Int) < (s.length : Int) := by omega
          have HV2 : Hid (VP wr w.heap.size (s.length + 1) (fun i => .bool (G i))) := hV.cg fun i hi => by rw [if_pos (by omega)]
          clear hV
          go_wp2
          go_ret
          exact ⟨rfl, HV2.out, hB⟩
    case true =>
      have HF0 : Hid (F 0 = true) := hf
      rw [hf] at f0
      have e2 : (x.toList == [42, 42]) = true := hx
      have hG0 : G 0 = true := by rw [HG0.out, hf, hx]; rfl
      have hP1 := hP0.set (k := 0) (by omega) (.bool true)
      have hb1 := hb0.setCell (p := ⟨w.heap.size, 0, none⟩) (Nat.le_refl _) (.bool true)
      have hPk : VP ((w.alloc (.cells (madeCells #[.bool false] (s.length + 1)) 4)).setCell ⟨w.heap.size, 0, none⟩ (.bool true)) w.heap.size (s.length + 1) (fun i => .bool (if i ≤ 0 then G i else false)) := hP1.cg fun i hi => by
        by_cases e : i = 0
        · subst e; simp [hG0]
        · simp [e]
      have HGs2 : Hid (∀ i, G (i + 1) = (F (i + 1) || G i)) := fun i => by rw [HGs.out i, hx]; rfl
      rw [World.setCell_alloc_new] at hPk hb1
      clear hP1 hG0 hf hx HGs HG0
      go_enter Tryd.func43, Tryd.ntmps43
      go_upto_region 3 with fail
      clear f0 g0 g1 gl hP0 hb0 hF0 hmk0
      generalize w.alloc (.cells ((madeCells #[.bool false] (s.length + 1)).setIfInBounds 0 (.bool true)) 4) = w1 at *
      go_wp2_with fail
      go_loopw [24] (fun i wr => ∃ k : Nat, k ≤ s.length ∧ i = .int .i64 (k : Int) ∧ VP wr w.heap.size (s.length + 1) (fun i => .bool (if i ≤ k then G i else false)) ∧ Below w.heap.size w wr) (fun i _ => s.length - (intOf i).toNat)
      case atStart => exact ⟨0, Nat.zero_le _, rfl, hPk, hb1⟩
      case round =>
        obtain ⟨k, hk, rfl, hV, hB⟩ := hrel
        clear hPk hb1
        by_cases hlt : k < s.length
        · have i1 : (k : Int) < (s.length : Int) := by omega
          have hc := (hB.cell (p := ⟨b, o + k, none⟩) hS.1).trans (hS.2 k s[k] (List.getElem?_eq_getElem hlt))
          have hFr := hF.below hB hF.lt
          have v1 := hV.c (k + 1) (by omega)
          have v0 := hV.c k (by omega)
          have vf := hV.fz (k + 1)
          have vl := hV.lt
          have hbs := hS.1
          have hbz := hB.size
          rw [if_neg (by omega)] at v1
          rw [if_pos (Nat.le_refl _)] at v0
          have f1 := hFr.c (k + 1) (by omega)
          have HR0 : Hid (G (k + 1) = (F (k + 1) || G k)) := HGs2.out k
          generalize F (k + 1) = p1 at *
          generalize hgk : G k = p2 at v0 HR0
          clear hgk
          cases p1 with
          | true =>
            have HR : Hid (G (k + 1) = true) := by show _ = _; rw [HR0.out]; rfl
            have hV2 := hV.set (k := k + 1) (by omega) (.bool true)
            have hB2 := hB.setCell (p := ⟨w.heap.size, k + 1, none⟩) (Nat.le_refl _) (.bool true)
            have HV3 : Hid (VP (wr.setCell ⟨w.heap.size, k + 1, none⟩ (.bool true)) w.heap.size (s.length + 1) (fun i => .bool (if i ≤ k + 1 then G i else false))) := hV2.cg fun i hi => by
              by_cases e : i = k + 1
              · subst e; simp [HR.out]
              · by_cases e3 : i ≤ k
                · rw [if_neg e, if_pos e3, if_pos (by omega)]
                · rw [if_neg e, if_neg e3, if_neg (by omega)]
            clear hV2 hV hFr
            go_wp2
            exact ⟨⟨k + 1, by omega, by go_num, HV3.out, hB2⟩, by simp [intOf]; omega⟩
          | false =>
            cases p2 with
            | true =>
              have HR : Hid (G (k + 1) = true) := by show _ = _; rw [HR0.out]; rfl
              have hV2 := hV.set (k := k + 1) (by omega) (.bool true)
              have hB2 := hB.setCell (p := ⟨w.heap.size, k + 1, none⟩) (Nat.le_refl _) (.bool true)
              have HV3 : Hid (VP (wr.setCell ⟨w.heap.size, k + 1, none⟩ (.bool true)) w.heap.size (s.length + 1) (fun i => .bool (if i ≤ k + 1 then G i else false))) := hV2.cg fun i hi => by
                by_cases e : i = k + 1
                · subst e; simp [HR.out]
                · by_cases e3 : i ≤ k
                  · rw [if_neg e, if_pos e3, if_pos (by omega)]
                  · rw [if_neg e, if_neg e3, if_neg (by omega)]
              clear hV2 hV hFr
              go_wp2
              exact ⟨⟨k + 1, by omega, by go_num, HV3.out, hB2⟩, by simp [intOf]; omega⟩
            | false =>
              have HR : Hid (G (k + 1) = false) := by show _ = _; rw [HR0.out]; rfl
              have hV2 := hV.set (k := k + 1) (by omega) (.bool false)
              have hB2 := hB.setCell (p := ⟨w.heap.size, k + 1, none⟩) (Nat.le_refl _) (.bool false)
              have HV3 : Hid (VP (wr.setCell ⟨w.heap.size, k + 1, none⟩ (.bool false)) w.heap.size (s.length + 1) (fun i => .bool (if i ≤ k + 1 then G i else false))) := hV2.cg fun i hi => by
                by_cases e : i = k + 1
                · subst e; simp [HR.out]
                · by_cases e3 : i ≤ k
                  · rw [if_neg e, if_pos e3, if_pos (by omega)]
                  · rw [if_neg e, if_neg e3, if_neg (by omega)]
              clear hV2 hV hFr
              go_wp2
              exact ⟨⟨k + 1, by omega, by go_num, HV3.out, hB2⟩, by simp [intOf]; omega⟩
        · have ek : k = s.length := by omega
          subst ek
          have i1 : ¬ (s.length : Int) < (s.length : Int) := by omega
          have HV2 : Hid (VP wr w.heap.size (s.length + 1) (fun i => .bool (G i))) := hV.cg fun i hi => by rw [if_pos (by omega)]
          clear hV
          go_wp2
          go_ret
          exact ⟨rfl, HV2.out, hB⟩
set_option maxRecDepth 20000 in
set_option maxHeartbeats 4000000 in
theorem iFits (p s : List ByteArray) (b o cp b2 o2 cs : Nat) (w : World) (hp : p.length ≤ 1048576) (hs : s.length ≤ 1048576) (hP : TA w b o p) (hS : TA w b2 o2 s) :
    Calls Tryd.prog 26 #[.slice (some ⟨b, o, none⟩) p.length cp, .slice (some ⟨b2, o2, none⟩) s.length cs] w fun e w' => e = .returned (.bool (fB p s)) ∧ Below w.heap.size w w' := by
  have hmk0 := run_make_row' (P := Tryd.prog) 57 4 (.bool false) 1 Tryd.underlying57 infoBool rfl .i64 .i64 (s.length + 1) (by omega) (by omega)
  have hcast : ((s.length + 1 : Nat) : Int) = (s.length : Int) + 1 := by omega
  simp only [hcast] at hmk0
  clear hcast
  have hP0 : VP (w.alloc (.cells (madeCells #[.bool false] (s.length + 1)) 4)) w.heap.size (s.length + 1) (fun _ => .bool false) := vp_row (World.rowIs_made w (.bool false) (s.length + 1) 4)
  have hb0 : Below w.heap.size w (w.alloc (.cells (madeCells #[.bool false] (s.length + 1)) 4)) := (Below.refl _ _).alloc (Nat.le_refl _) _
  have g0 := hP0.c 0 (by omega)
  have g1 := hP0.fz 0
  have gl := hP0.lt
  have hP1 := hP0.set (k := 0) (by omega) (.bool true)
  have hb1 := hb0.setCell (p := ⟨w.heap.size, 0, none⟩) (Nat.le_refl _) (.bool true)
  have hPk : VP ((w.alloc (.cells (madeCells #[.bool false] (s.length + 1)) 4)).setCell ⟨w.heap.size, 0, none⟩ (.bool true)) w.heap.size (s.length + 1) (fun i => .bool (decide (i = 0))) := hP1.cg fun i hi => by
    by_cases e : i = 0
    · subst e; simp
    · simp [e]
  clear hP1
  rw [World.setCell_alloc_new] at hPk hb1
  go_enter Tryd.func26, Tryd.ntmps26
  go_upto_region 3 with fail
  clear g0 g1 gl hP0 hb0 hmk0
  generalize w.alloc (.cells ((madeCells #[.bool false] (s.length + 1)).setIfInBounds 0 (.bool true)) 4) = w1 at *
  go_wp2_with fail
  go_loopw [5, 16] (fun v i wr => ∃ (k g : Nat) (F : Nat → Bool), k ≤ p.length ∧ i = .int .i64 (k : Int) ∧ v = .slice (some ⟨g, 0, none⟩) (s.length + 1) (s.length + 1) ∧ VP wr g (s.length + 1) (fun i => .bool (F i)) ∧ Hid (FtT s (p.take k) F) ∧ Below w.heap.size w wr) (fun _ i _ => p.length - (intOf i).toNat)
  case atStart => exact ⟨0, w.heap.size, _, Nat.zero_le _, rfl, rfl, hPk, ftt_nil s, hb1⟩
  case round =>
    obtain ⟨k, g, F, hk, rfl, rfl, hV, HF, hB⟩ := hrel
    clear hPk hb1
    by_cases hlt : k < p.length
    · have i1 : (k : Int) < (p.length : Int) := by omega
      have hc := (hB.cell (p := ⟨b, o + k, none⟩) hP.1).trans (hP.2 k p[k] (List.getElem?_eq_getElem hlt))
      have hbs := hP.1
      have hbz := hB.size
      have HF2 : Hid (FtT s (p.take (k + 1)) (nxG p[k] F s)) := by
        show FtT _ _ _
        rw [← List.take_append_getElem hlt]
        exact nxG_ftt HF.out
      have kn := iNext p[k] F s b2 o2 cs g (s.length + 1) wr hs (hS.on2 hB) hV
      clear HF
      generalize p[k] = x at *
      go_wp2_with fail
      refine kn.mono ?_
      rintro e w2 ⟨rfl, hV2, hb2⟩
      have hB2 := stepA hB hb2
      clear kn hV hb2 hB
      go_wp2
      exact ⟨⟨k + 1, wr.heap.size, _, by omega, by go_num, rfl, hV2, HF2, hB2⟩, by simp [intOf]; omega⟩
    · have ek : k = p.length := by omega
      subst ek
      have i1 : ¬ (p.length : Int) < (p.length : Int) := by omega
      have HE : Hid (F s.length = fB p s) := by
        have := HF.out
        rw [List.take_length] at this
        exact ftt_end this
      have v0 := hV.c s.length (by omega)
      clear HF
      generalize F s.length = y at *
      clear hV
      go_wp2
      go_ret
      exact ⟨by rw [← HE.out]; rfl, hB⟩
end Go.Proofs.YthhaemdpnphhoaaDoor
