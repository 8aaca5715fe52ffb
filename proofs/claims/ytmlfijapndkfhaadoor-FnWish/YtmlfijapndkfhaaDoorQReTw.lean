/- A word, taken (tools/gen_retw.py). -/
import Derived.Test.YtmlfijapndkfhaaDoorQReOs
namespace Go.Proofs.YtmlfijapndkfhaaDoor
open Go.RowKit
def AnsW (w w' : World) (e : Ending) (a : Nat → Addr) (B b0 : Nat) (s : WS) (nx : Nat) (ra : Option Addr) (rc : Nat) (aa : Option Addr) (ac : Nat) : Prop :=
  ((nx ≤ s.p ∨ s.many = 0) ∧ e = .returned (snt (a 1)) ∧ w' = w) ∨ (¬ (nx ≤ s.p ∨ s.many = 0) ∧ e = .returned .nilIface ∧ Rd w' B b0 { s with p := nx } ra rc aa ac)
set_option maxHeartbeats 2000000 in
theorem iWord1 (w : World) (B b0 : Nat) (s : WS) (ra : Option Addr) (rc : Nat) (aa : Option Addr) (ac : Nat) (a : Nat → Addr) (hS : Se w a) (hp : s.p ≤ 2) (h : Rd w B b0 s ra rc aa ac) :
    Calls Tryd.prog 66 #[.pointer (some ⟨B, 0, none⟩), .string wdR] w fun e w' => AnsW w w' e a B b0 s 1 ra rc aa ac ∧ Kb B b0 w w' := by
  obtain ⟨p, R, A⟩ := s
  match p, hp with
  | 0, _ =>
    have z : w.cell? ⟨B, 2, none⟩ = some (.string (⟨#[]⟩ : ByteArray)) := h.bx.c2
    have zl := h.bx.lt
    have zf := h.bx.fz 2
    have ge := hS.c1
    have e1 : ((⟨#[]⟩ : ByteArray).toList == wdR.toList) = false := by simp [ByteArray.toList_eq, wdR]
    have e2 : ((⟨#[]⟩ : ByteArray).toList == [97, 118, 111, 105, 100]) = false := by simp [ByteArray.toList_eq]
    have e3 : ¬ (⟨#[]⟩ : ByteArray).toList = wdR.toList := by simp [ByteArray.toList_eq, wdR]
    have e4 : ¬ (⟨#[]⟩ : ByteArray).toList = [97, 118, 111, 105, 100] := by simp [ByteArray.toList_eq]
    have e5 : ([] == wdR.toList) = false := by simp [ByteArray.toList_eq, wdR]
    have e6 : ¬ [] = wdR.toList := by simp [ByteArray.toList_eq, wdR]
    have e7 : wdR.toList.isEmpty = false := by simp [ByteArray.toList_eq, wdR]
    have e8 : ¬ wdR.toList = [] := by simp [ByteArray.toList_eq, wdR]
    have kL := iLacks w B ⟨0, R, A⟩ ra rc aa ac (by simp) h.bx
    have hO := (Only.refl B w).set 2 (.string wdR)
    have hR2 : Rd (w.setCell ⟨B, 2, none⟩ (.string wdR)) B b0 ⟨1, R, A⟩ ra rc aa ac := ⟨⟨h.lb.1, by rw [size_set]; exact h.lb.2⟩, h.bx.set 2 (by simp) (.string wdR), h.r.same (fun q hq => hO.block q (by have := (World.ownsRow.lt h.r q hq).1; have := h.lb.1; omega)), h.a.same (fun q hq => hO.block q (by have := (World.ownsRow.lt h.a q hq).1; have := h.lb.1; omega)), h.ne⟩
    cases hm : decide (WS.many ⟨0, R, A⟩ = 0) with
    | true =>
      rw [hm] at kL
      clear hR2 hO
      go_enter Tryd.func66, Tryd.ntmps66
      go_wp2_with fail
      refine kL.mono ?_
      rintro e w2 ⟨rfl, hw⟩
      have hs := hw.symm
      clear hw kL
      subst hs
      go_wp2
      go_ret
      exact ⟨.inl ⟨.inr (of_decide_eq_true hm), rfl, rfl⟩, Kb.refl _ _ _⟩
    | false =>
      rw [hm] at kL
      have hB := (Kb.refl B b0 w).set hO
      go_enter Tryd.func66, Tryd.ntmps66
      go_wp2_with fail
      refine kL.mono ?_
      rintro e w2 ⟨rfl, hw⟩
      have hs := hw.symm
      clear hw kL
      subst hs
      go_wp2
      go_ret
      exact ⟨.inr ⟨by rintro (h1 | h1); exact absurd h1 (by simp); exact of_decide_eq_false hm h1, rfl, hR2⟩, hB⟩
  | 1, _ =>
    have z : w.cell? ⟨B, 2, none⟩ = some (.string wdR) := h.bx.c2
    have zl := h.bx.lt
    have zf := h.bx.fz 2
    have ge := hS.c1
    have e1 : (wdR.toList == wdR.toList) = true := by simp [ByteArray.toList_eq]
    have e2 : (wdR.toList == [97, 118, 111, 105, 100]) = false := by simp [ByteArray.toList_eq, wdR]
    have e4 : ¬ wdR.toList = [97, 118, 111, 105, 100] := by simp [ByteArray.toList_eq, wdR]
    go_enter Tryd.func66, Tryd.ntmps66
    go_wp2
    go_ret
    exact ⟨.inl ⟨.inl (by simp), rfl, rfl⟩, Kb.refl _ _ _⟩
  | 2, _ =>
    have z : w.cell? ⟨B, 2, none⟩ = some (.string wdA) := h.bx.c2
    have zl := h.bx.lt
    have zf := h.bx.fz 2
    have ge := hS.c1
    have e1 : (wdA.toList == wdR.toList) = false := by simp [ByteArray.toList_eq, wdR, wdA]
    have e2 : (wdA.toList == [97, 118, 111, 105, 100]) = true := by simp [ByteArray.toList_eq, wdA]
    have e3 : ¬ wdA.toList = wdR.toList := by simp [ByteArray.toList_eq, wdR, wdA]
    go_enter Tryd.func66, Tryd.ntmps66
    go_wp2
    go_ret
    exact ⟨.inl ⟨.inl (by simp), rfl, rfl⟩, Kb.refl _ _ _⟩
set_option maxHeartbeats 2000000 in
theorem iWord2 (w : World) (B b0 : Nat) (s : WS) (ra : Option Addr) (rc : Nat) (aa : Option Addr) (ac : Nat) (a : Nat → Addr) (hS : Se w a) (hp : s.p ≤ 2) (h : Rd w B b0 s ra rc aa ac) :
    Calls Tryd.prog 66 #[.pointer (some ⟨B, 0, none⟩), .string wdA] w fun e w' => AnsW w w' e a B b0 s 2 ra rc aa ac ∧ Kb B b0 w w' := by
  obtain ⟨p, R, A⟩ := s
  match p, hp with
  | 0, _ =>
    have z : w.cell? ⟨B, 2, none⟩ = some (.string (⟨#[]⟩ : ByteArray)) := h.bx.c2
    have zl := h.bx.lt
    have zf := h.bx.fz 2
    have ge := hS.c1
    have e1 : ((⟨#[]⟩ : ByteArray).toList == wdA.toList) = false := by simp [ByteArray.toList_eq, wdA]
    have e2 : ((⟨#[]⟩ : ByteArray).toList == [97, 118, 111, 105, 100]) = false := by simp [ByteArray.toList_eq]
    have e3 : ¬ (⟨#[]⟩ : ByteArray).toList = wdA.toList := by simp [ByteArray.toList_eq, wdA]
    have e4 : ¬ (⟨#[]⟩ : ByteArray).toList = [97, 118, 111, 105, 100] := by simp [ByteArray.toList_eq]
    have e5 : ([] == wdA.toList) = false := by simp [ByteArray.toList_eq, wdA]
    have e6 : ¬ [] = wdA.toList := by simp [ByteArray.toList_eq, wdA]
    have e7 : wdA.toList.isEmpty = false := by simp [ByteArray.toList_eq, wdA]
    have e8 : ¬ wdA.toList = [] := by simp [ByteArray.toList_eq, wdA]
    have kL := iLacks w B ⟨0, R, A⟩ ra rc aa ac (by simp) h.bx
    have hO := (Only.refl B w).set 2 (.string wdA)
    have hR2 : Rd (w.setCell ⟨B, 2, none⟩ (.string wdA)) B b0 ⟨2, R, A⟩ ra rc aa ac := ⟨⟨h.lb.1, by rw [size_set]; exact h.lb.2⟩, h.bx.set 2 (by simp) (.string wdA), h.r.same (fun q hq => hO.block q (by have := (World.ownsRow.lt h.r q hq).1; have := h.lb.1; omega)), h.a.same (fun q hq => hO.block q (by have := (World.ownsRow.lt h.a q hq).1; have := h.lb.1; omega)), h.ne⟩
    cases hm : decide (WS.many ⟨0, R, A⟩ = 0) with
    | true =>
      rw [hm] at kL
      clear hR2 hO
      go_enter Tryd.func66, Tryd.ntmps66
      go_wp2_with fail
      refine kL.mono ?_
      rintro e w2 ⟨rfl, hw⟩
      have hs := hw.symm
      clear hw kL
      subst hs
      go_wp2
      go_ret
      exact ⟨.inl ⟨.inr (of_decide_eq_true hm), rfl, rfl⟩, Kb.refl _ _ _⟩
    | false =>
      rw [hm] at kL
      have hB := (Kb.refl B b0 w).set hO
      go_enter Tryd.func66, Tryd.ntmps66
      go_wp2_with fail
      refine kL.mono ?_
      rintro e w2 ⟨rfl, hw⟩
      have hs := hw.symm
      clear hw kL
      subst hs
      go_wp2
      go_ret
      exact ⟨.inr ⟨by rintro (h1 | h1); exact absurd h1 (by simp); exact of_decide_eq_false hm h1, rfl, hR2⟩, hB⟩
  | 1, _ =>
    have z : w.cell? ⟨B, 2, none⟩ = some (.string wdR) := h.bx.c2
    have zl := h.bx.lt
    have zf := h.bx.fz 2
    have ge := hS.c1
    have e1 : (wdR.toList == wdA.toList) = false := by simp [ByteArray.toList_eq, wdR, wdA]
    have e2 : (wdR.toList == [97, 118, 111, 105, 100]) = false := by simp [ByteArray.toList_eq, wdR]
    have e3 : ¬ wdR.toList = wdA.toList := by simp [ByteArray.toList_eq, wdR, wdA]
    have e4 : ¬ wdR.toList = [97, 118, 111, 105, 100] := by simp [ByteArray.toList_eq, wdR]
    have kL := iLacks w B ⟨1, R, A⟩ ra rc aa ac (by simp) h.bx
    have hO := (Only.refl B w).set 2 (.string wdA)
    have hR2 : Rd (w.setCell ⟨B, 2, none⟩ (.string wdA)) B b0 ⟨2, R, A⟩ ra rc aa ac := ⟨⟨h.lb.1, by rw [size_set]; exact h.lb.2⟩, h.bx.set 2 (by simp) (.string wdA), h.r.same (fun q hq => hO.block q (by have := (World.ownsRow.lt h.r q hq).1; have := h.lb.1; omega)), h.a.same (fun q hq => hO.block q (by have := (World.ownsRow.lt h.a q hq).1; have := h.lb.1; omega)), h.ne⟩
    cases hm : decide (WS.many ⟨1, R, A⟩ = 0) with
    | true =>
      rw [hm] at kL
      clear hR2 hO
      go_enter Tryd.func66, Tryd.ntmps66
      go_wp2_with fail
      refine kL.mono ?_
      rintro e w2 ⟨rfl, hw⟩
      have hs := hw.symm
      clear hw kL
      subst hs
      go_wp2
      go_ret
      exact ⟨.inl ⟨.inr (of_decide_eq_true hm), rfl, rfl⟩, Kb.refl _ _ _⟩
    | false =>
      rw [hm] at kL
      have hB := (Kb.refl B b0 w).set hO
      go_enter Tryd.func66, Tryd.ntmps66
      go_wp2_with fail
      refine kL.mono ?_
      rintro e w2 ⟨rfl, hw⟩
      have hs := hw.symm
      clear hw kL
      subst hs
      go_wp2
      go_ret
      exact ⟨.inr ⟨by rintro (h1 | h1); exact absurd h1 (by simp); exact of_decide_eq_false hm h1, rfl, hR2⟩, hB⟩
  | 2, _ =>
    have z : w.cell? ⟨B, 2, none⟩ = some (.string wdA) := h.bx.c2
    have zl := h.bx.lt
    have zf := h.bx.fz 2
    have ge := hS.c1
    have e1 : (wdA.toList == wdA.toList) = true := by simp [ByteArray.toList_eq]
    have e2 : (wdA.toList == [97, 118, 111, 105, 100]) = true := by simp [ByteArray.toList_eq, wdA]
    go_enter Tryd.func66, Tryd.ntmps66
    go_wp2
    go_ret
    exact ⟨.inl ⟨.inl (by simp), rfl, rfl⟩, Kb.refl _ _ _⟩
end Go.Proofs.YtmlfijapndkfhaaDoor
