/- A tick is given, as the program gives it (tools/gen_pn6.py). -/
import Derived.Test.YtnadedncjbibhaaPnCho
import Derived.Deep.CutRange
namespace Go.Proofs.Ytnadedncjbibhaa
open Go.RowKit
theorem run_great (x y : Int) (ts : Array TypeId) (t : TypeId) (w : World) : (Builtin.max_ ts t #[.int .i64 x, .int .i64 y]).run Try.prog w = .ok (.int .i64 (max x y)) w := by
  by_cases h : x ≤ y
  · rw [Int.max_eq_right h]
    simp [Builtin.max_, Builtin.max2]
    intro h2; omega
  · rw [Int.max_eq_left (by omega)]
    simp [Builtin.max_, Builtin.max2]
    intro h2; omega
theorem Bx.c3 {w : World} {b : Nat} {s t u v : Value} {l : List Value} (h : Bx w b (s :: t :: u :: v :: l)) : w.cell? ⟨b, 3, none⟩ = some v := h.c 3 (by simp)
/-- what comes of a tick among the slices -/
def AnsAd (Pb m : Nat) (A Jv Lv : Value) (G : Nat → Int) (t j : Int) (w w' : World) (e : Ending) : Prop :=
  e = .returned (.tuple #[]) ∧ ∃ v', Bx w' Pb [A, Jv, v', Lv] ∧ SlN w' (Pb + 1) v' m G t j ∧ Below Pb w w'
set_option maxRecDepth 20000 in
set_option maxHeartbeats 4000000 in
theorem iAdd (Pb m t j : Nat) (A Jv Lv v : Value) (G : Nat → Int) (w : World) (hB : Bx w Pb [A, Jv, v, Lv]) (hO : OwnL w (Pb + 1) v m G) (hm : m ≤ 2000) (ht : t ≤ 2000) :
    Calls Try.prog 54 #[.pointer (some ⟨Pb, 0, none⟩), .int .i64 (t : Int), .int .i64 (j : Int)] w fun e w' => AnsAd Pb m A Jv Lv G (t : Int) (j : Int) w w' e := by
  obtain ⟨i0', hi, hz0, hz1, hz2⟩ := infoSl
  have hPl := hB.lt
  obtain ⟨sa, sc, rfl⟩ := hO.shape
  have c2 := hB.c2
  by_cases hm0 : m = 0
  · have HX : Hid (sxB m G (t : Int) (j : Int) = false) := sx_zero hm0
    have jw : IntKind.i64.wrap ((m : Int) - 1) = -1 := by rw [IntWalk.i64_in _ ⟨by omega, by omega⟩]; omega
    clear hm0
    go_enter Try.func54, Try.ntmps54
    go_wp2_with (at_builtin; refine wpList_append_own _ rfl _ _ 27 rfl (Pb + 1) 66 i0' (scv 0 0 0) 3 24 Try.underlying27 hi hz0 hz1 hz2 rfl (by decide) _ _ _ rfl (World.ownsRow.alloc hO _) ⟨w.heap.size, 0, none⟩ 1 1 [.int .i64 (t : Int), .int .i64 ((t : Int) + 1), .int .i64 (j : Int)] rfl rfl (new3 _ _ _ _ _) (fun x hx => by simp at hx; rcases hx with rfl | rfl | rfl <;> rfl) (by unfold maxLen; omega) (by omega) (by simp; omega) ?_; intro v' w12 hown' hgrow3 _; have hb12 : Below (Pb + 1) w w12 := ((Below.refl _ _).alloc (by omega) _).grown hgrow3 (by simp; omega) (fun q hq => (World.ownsRow.lt hO q hq).1); have bx12 := hB.below hb12 (Nat.lt_succ_self _); have q2 := bx12.c2; have qf := bx12.fz 2; have hS12 := sln_more HX.out hown'; obtain ⟨a', c', rfl⟩ := OwnL.shape hS12)
    first | go_end0 | refine bodyPost_ret (results_none rfl _ _ _) rfl ?_
    exact ⟨rfl, _, bx12.set 2 (by simp) _, OwnL.only hS12 ((Only.refl Pb w12).set 2 _) (Nat.lt_succ_self _), (hb12.mono (Nat.le_succ _)).setCell (p := ⟨Pb, 2, none⟩) (Nat.le_refl _) _⟩
  · obtain ⟨m0, hm1⟩ : ∃ m0, m = m0 + 1 := ⟨m - 1, by omega⟩
    have jw : IntKind.i64.wrap ((m : Int) - 1) = (m0 : Int) := by rw [IntWalk.i64_in _ ⟨by omega, by omega⟩]; omega
    have j0 : (0 : Int) ≤ (m0 : Int) := by omega
    have j1 : (m0 : Int) < (m : Int) := by omega
    obtain ⟨g, cc, eg, hg, hcap, hPg⟩ := OwnL.at_ hO (by omega)
    cases eg
    have q1 := hPg.c (m0 * 3 + 1) (by omega)
    have q3 := hPg.c (m0 * 3 + 2) (by omega)
    have fz1 := hPg.fz (m0 * 3 + 1)
    have gl_ := hPg.lt
    cases ew : (G (m0 * 3 + 2) == (j : Int)) with
    | false =>
      have HX : Hid (sxB m G (t : Int) (j : Int) = false) := by rw [hm1]; exact sx_who ew
      clear hPg hm0 hm1
      generalize hA1 : G (m0 * 3 + 1) = A1 at q1
      generalize hA2 : G (m0 * 3 + 2) = A2 at q3 ew
      clear hA1 hA2
      go_enter Try.func54, Try.ntmps54
      go_wp2_with (at_builtin; refine wpList_append_own _ rfl _ _ 27 rfl (Pb + 1) 66 i0' (scv 0 0 0) 3 24 Try.underlying27 hi hz0 hz1 hz2 rfl (by decide) _ _ _ rfl (World.ownsRow.alloc hO _) ⟨w.heap.size, 0, none⟩ 1 1 [.int .i64 (t : Int), .int .i64 ((t : Int) + 1), .int .i64 (j : Int)] rfl rfl (new3 _ _ _ _ _) (fun x hx => by simp at hx; rcases hx with rfl | rfl | rfl <;> rfl) (by unfold maxLen; omega) (by omega) (by simp; omega) ?_; intro v' w12 hown' hgrow3 _; have hb12 : Below (Pb + 1) w w12 := ((Below.refl _ _).alloc (by omega) _).grown hgrow3 (by simp; omega) (fun q hq => (World.ownsRow.lt hO q hq).1); have bx12 := hB.below hb12 (Nat.lt_succ_self _); have q2 := bx12.c2; have qf := bx12.fz 2; have hS12 := sln_more HX.out hown'; obtain ⟨a', c', rfl⟩ := OwnL.shape hS12)
      first | go_end0 | refine bodyPost_ret (results_none rfl _ _ _) rfl ?_
      exact ⟨rfl, _, bx12.set 2 (by simp) _, OwnL.only hS12 ((Only.refl Pb w12).set 2 _) (Nat.lt_succ_self _), (hb12.mono (Nat.le_succ _)).setCell (p := ⟨Pb, 2, none⟩) (Nat.le_refl _) _⟩
    | true =>
      cases et : (G (m0 * 3 + 1) == (t : Int)) with
      | false =>
        have HX : Hid (sxB m G (t : Int) (j : Int) = false) := by rw [hm1]; exact sx_to et
        clear hPg hm0 hm1
        generalize hA1 : G (m0 * 3 + 1) = A1 at q1 et
        generalize hA2 : G (m0 * 3 + 2) = A2 at q3 ew
        clear hA1 hA2
        go_enter Try.func54, Try.ntmps54
        go_wp2_with (at_builtin; refine wpList_append_own _ rfl _ _ 27 rfl (Pb + 1) 66 i0' (scv 0 0 0) 3 24 Try.underlying27 hi hz0 hz1 hz2 rfl (by decide) _ _ _ rfl (World.ownsRow.alloc hO _) ⟨w.heap.size, 0, none⟩ 1 1 [.int .i64 (t : Int), .int .i64 ((t : Int) + 1), .int .i64 (j : Int)] rfl rfl (new3 _ _ _ _ _) (fun x hx => by simp at hx; rcases hx with rfl | rfl | rfl <;> rfl) (by unfold maxLen; omega) (by omega) (by simp; omega) ?_; intro v' w12 hown' hgrow3 _; have hb12 : Below (Pb + 1) w w12 := ((Below.refl _ _).alloc (by omega) _).grown hgrow3 (by simp; omega) (fun q hq => (World.ownsRow.lt hO q hq).1); have bx12 := hB.below hb12 (Nat.lt_succ_self _); have q2 := bx12.c2; have qf := bx12.fz 2; have hS12 := sln_more HX.out hown'; obtain ⟨a', c', rfl⟩ := OwnL.shape hS12)
        first | go_end0 | refine bodyPost_ret (results_none rfl _ _ _) rfl ?_
        exact ⟨rfl, _, bx12.set 2 (by simp) _, OwnL.only hS12 ((Only.refl Pb w12).set 2 _) (Nat.lt_succ_self _), (hb12.mono (Nat.le_succ _)).setCell (p := ⟨Pb, 2, none⟩) (Nat.le_refl _) _⟩
      | true =>
        have HX : Hid (sxB m G (t : Int) (j : Int) = true) := by rw [hm1]; exact sx_yes ew et
        have HO : Hid (OwnL w (Pb + 1) (.slice (some ⟨g, 0, none⟩) m sc) m G) := hO
        have HM0 : Hid (m = m0 + 1) := hm1
        clear hPg hm0 hm1 hO
        generalize hA1 : G (m0 * 3 + 1) = A1 at q1 et
        generalize hA2 : G (m0 * 3 + 2) = A2 at q3 ew
        clear hA1 hA2
        have hb12 : Below (Pb + 1) w (w.setCell ⟨g, m0 * 3 + 1, none⟩ (.int .i64 ((t : Int) + 1))) := (Below.refl _ _).setCell (p := ⟨g, _, none⟩) hg _
        go_enter Try.func54, Try.ntmps54
        go_wp2
        first | go_end0 | refine bodyPost_ret (results_none rfl _ _ _) rfl ?_
        exact ⟨rfl, _, hB.below hb12 (Nat.lt_succ_self _), sln_long HM0.out HX.out HO.out, hb12.mono (Nat.le_succ _)⟩
end Go.Proofs.Ytnadedncjbibhaa
