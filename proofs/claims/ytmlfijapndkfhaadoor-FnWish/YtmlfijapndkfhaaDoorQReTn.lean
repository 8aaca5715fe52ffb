/- A name, taken (tools/gen_retn.py). -/
import Derived.Test.YtmlfijapndkfhaaDoorQReTw
import Derived.Test.YtmlfijapndkfhaaDoorQU8Shelf
import Derived.Test.YtmlfijapndkfhaaDoorQWhStr
import Derived.Test.YtmlfijapndkfhaaDoorQTcShelf
import Derived.Deep.Cut
import Derived.Deep.RegionHeld3
namespace Go.Proofs.YtmlfijapndkfhaaDoor
open Go.RowKit
theorem held_app {P : Program} {o : Oper} {a : Act} {w w' : World} {K : Act → World → Prop} {Q : Exit → Act → World → Prop} {b : Prop} [Decidable b] (hb : b) (s x : Operand) (t : TypeId) (ho : o.op = .call { callee := .builtin .append, args := #[s, x], argTypes := #[t, t] }) {v vx v' : Value} (hs : a.eval s = v) (hx : a.eval x = vx) (hr : (Builtin.append_ #[t, t] o.type #[v, vx]).run P w = .ok v' w') (h : K (a.put o.dst v') w') : if b then Oper.wp P o a w K Q else K (a.put o.dst undef) w := by
  rw [if_pos hb]
  unfold Oper.wp execOp
  simp only [ho, resolve, invoke, builtin, Sem.run_bind, Sem.run_pure, Result.andThen_ok, List.map_toArray, List.map_cons, List.map_nil, hs, hx, hr]
  exact h
theorem iClone (t : ByteArray) (w : World) (ht : t.size ≤ 200) : Calls Tryd.prog 81 #[.string t] w fun e w' => e = .returned (.string t) ∧ Below w.heap.size w w' := by
  have k := Tryd.stringslite_Clone t w (by omega)
  go_enter Tryd.func81, Tryd.ntmps81
  go_wp2_with fail
  refine k.mono ?_
  rintro e w2 ⟨rfl, hb⟩
  clear k
  go_wp2
  go_ret
  exact ⟨rfl, hb⟩
theorem run_count (t : ByteArray) (ho : (oddU (bt t) t.size 0 0).1 < 0) : (oddU (bt t) t.size 0 0).2 = ((Lib.runeCount t : Nat) : Int) := by
  have := odd_count t t.size 0 0 t.size (by omega) (by omega) ho
  rw [this]
  unfold Lib.runeCount
  simp
section
variable {w5 w6 : World} {o : Obj} {B b0 : Nat} {s : WS} {ra aa : Option Addr} {rc ac : Nat} {v6 : Value} {t : ByteArray}
theorem bx_grown {b : Nat} {row : Option Nat} {vs : List Value} (h : Bx w5 b vs) (hg : (w5.alloc o).grownBy w6 row) (hne : ∀ q, row = some q → q ≠ b) : Bx w6 b vs := by
  have e := (hg.block b (by simp; have := h.lt; omega) (fun e => hne b e.symm rfl)).trans (((Below.refl w5.heap.size w5).alloc (Nat.le_refl _) o).block b h.lt)
  exact ⟨by have := hg.size; simp at this; have := h.lt; omega, fun i hi => (cell_same e i).trans (h.c i hi), fun j => (frozen_same e j).trans (h.fz j)⟩
theorem ors_grown {base : Nat} {v : Value} {l : List ByteArray} {row : Option Nat} (h : OrS w5 base v l) (hg : (w5.alloc o).grownBy w6 row) (hne : ∀ q, v.ownBlock = some q → row ≠ some q) : OrS w6 base v l :=
  h.same fun q hq => (hg.block q (by have := (World.ownsRow.lt h q hq).2; simp; omega) (fun e => hne q hq e.symm)).trans (((Below.refl w5.heap.size w5).alloc (Nat.le_refl _) o).block q (World.ownsRow.lt h q hq).2)
theorem Rd.app1 (h : Rd w5 B b0 s ra rc aa ac) (hp : s.p = 1) (ho : w6.ownsRow b0 9 1 v6 (s.R.length + 1) (s.R.map Value.string ++ [.string t])) (hg : (w5.alloc o).grownBy w6 (Value.slice ra s.R.length rc).ownBlock) (hat : v6.ownBlock = (Value.slice ra s.R.length rc).ownBlock ∨ v6.ownBlock = some (w5.alloc o).heap.size) :
    ∃ ya yc, v6 = .slice ya (s.R.length + 1) yc ∧ Bx w6 B [.slice ra s.R.length rc, .slice aa s.A.length ac, .string (wdP s.p)] ∧ ∃ ra' rc' aa' ac', Rd (w6.setCell ⟨B, 0, none⟩ v6) B b0 (addW s t) ra' rc' aa' ac' := by
  obtain ⟨p, R, A⟩ := s
  simp only at hp ho hg hat ⊢
  subst hp
  have ho6 : OrS w6 b0 v6 (R ++ [t]) := by unfold OrS; rw [List.length_append, List.map_append]; exact ho
  obtain ⟨ya, yc, rfl⟩ := ho6.shape
  have hlen : (R ++ [t]).length = R.length + 1 := by simp
  rw [hlen] at ho6 ho hat
  have hbx := bx_grown h.bx hg (fun q hq => by have := (World.ownsRow.lt h.r q hq).1; have := h.lb.1; omega)
  have hoth := ors_grown h.a hg (fun q hq e => h.ne q e hq)
  have hO := (Only.refl B w6).set 0 (.slice ya (R.length + 1) yc)
  refine ⟨ya, yc, by rw [hlen], hbx, ya, yc, aa, ac, ?_⟩
  rw [hlen]
  have hne : ∀ q, (Value.slice ya (R.length + 1) yc).ownBlock = some q → (Value.slice aa A.length ac).ownBlock ≠ some q := fun q hq e => by
    rcases hat with h1 | h1
    · exact h.ne q (h1.symm.trans hq) e
    · rw [h1] at hq
      have h2 := Option.some.inj hq
      have := (World.ownsRow.lt h.a q e).2
      simp only [size_al] at h2
      omega
  have hn6 : OrS (w6.setCell ⟨B, 0, none⟩ (.slice ya (R.length + 1) yc)) b0 (.slice ya (R ++ [t]).length yc) (R ++ [t]) := by
    rw [hlen]
    exact ho6.same (fun q hq => hO.block q (by have := (World.ownsRow.lt ho6 q hq).1; have := h.lb.1; omega))
  have ho2 : OrS (w6.setCell ⟨B, 0, none⟩ (.slice ya (R.length + 1) yc)) b0 (.slice aa A.length ac) A := hoth.same (fun q hq => hO.block q (by have := (World.ownsRow.lt hoth q hq).1; have := h.lb.1; omega))
  have hlb : B < b0 ∧ b0 ≤ (w6.setCell ⟨B, 0, none⟩ (.slice ya (R.length + 1) yc)).heap.size := ⟨h.lb.1, by rw [size_set]; have := hg.size; have := h.lb.2; simp only [size_al] at *; omega⟩
  have hb2 := hbx.set 0 (by simp) (.slice ya (R.length + 1) yc)
  have hb3 : Bx (w6.setCell ⟨B, 0, none⟩ (.slice ya (R.length + 1) yc)) B [.slice ya (R ++ [t]).length yc, .slice aa A.length ac, .string (wdP 1)] := by rw [hlen]; exact hb2
  exact ⟨hlb, hb3, hn6, ho2, fun q hq => hne q (by rw [← hlen]; exact hq)⟩
theorem Rd.app2 (h : Rd w5 B b0 s ra rc aa ac) (hp : s.p = 2) (ho : w6.ownsRow b0 9 1 v6 (s.A.length + 1) (s.A.map Value.string ++ [.string t])) (hg : (w5.alloc o).grownBy w6 (Value.slice aa s.A.length ac).ownBlock) (hat : v6.ownBlock = (Value.slice aa s.A.length ac).ownBlock ∨ v6.ownBlock = some (w5.alloc o).heap.size) :
    ∃ ya yc, v6 = .slice ya (s.A.length + 1) yc ∧ Bx w6 B [.slice ra s.R.length rc, .slice aa s.A.length ac, .string (wdP s.p)] ∧ ∃ ra' rc' aa' ac', Rd (w6.setCell ⟨B, 1, none⟩ v6) B b0 (addW s t) ra' rc' aa' ac' := by
  obtain ⟨p, R, A⟩ := s
  simp only at hp ho hg hat ⊢
  subst hp
  have ho6 : OrS w6 b0 v6 (A ++ [t]) := by unfold OrS; rw [List.length_append, List.map_append]; exact ho
  obtain ⟨ya, yc, rfl⟩ := ho6.shape
  have hlen : (A ++ [t]).length = A.length + 1 := by simp
  rw [hlen] at ho6 ho hat
  have hbx := bx_grown h.bx hg (fun q hq => by have := (World.ownsRow.lt h.a q hq).1; have := h.lb.1; omega)
  have hoth := ors_grown h.r hg (fun q hq e => h.ne q hq e)
  have hO := (Only.refl B w6).set 1 (.slice ya (A.length + 1) yc)
  refine ⟨ya, yc, by rw [hlen], hbx, ra, rc, ya, yc, ?_⟩
  rw [hlen]
  have hne : ∀ q, (Value.slice ya (A.length + 1) yc).ownBlock = some q → (Value.slice ra R.length rc).ownBlock ≠ some q := fun q hq e => by
    rcases hat with h1 | h1
    · exact h.ne q e (h1.symm.trans hq)
    · rw [h1] at hq
      have h2 := Option.some.inj hq
      have := (World.ownsRow.lt h.r q e).2
      simp only [size_al] at h2
      omega
  have hn6 : OrS (w6.setCell ⟨B, 1, none⟩ (.slice ya (A.length + 1) yc)) b0 (.slice ya (A ++ [t]).length yc) (A ++ [t]) := by
    rw [hlen]
    exact ho6.same (fun q hq => hO.block q (by have := (World.ownsRow.lt ho6 q hq).1; have := h.lb.1; omega))
  have ho2 : OrS (w6.setCell ⟨B, 1, none⟩ (.slice ya (A.length + 1) yc)) b0 (.slice ra R.length rc) R := hoth.same (fun q hq => hO.block q (by have := (World.ownsRow.lt hoth q hq).1; have := h.lb.1; omega))
  have hlb : B < b0 ∧ b0 ≤ (w6.setCell ⟨B, 1, none⟩ (.slice ya (A.length + 1) yc)).heap.size := ⟨h.lb.1, by rw [size_set]; have := hg.size; have := h.lb.2; simp only [size_al] at *; omega⟩
  have hb2 := hbx.set 1 (by simp) (.slice ya (A.length + 1) yc)
  have hb3 : Bx (w6.setCell ⟨B, 1, none⟩ (.slice ya (A.length + 1) yc)) B [.slice ra R.length rc, .slice ya (A ++ [t]).length yc, .string (wdP 2)] := by rw [hlen]; exact hb2
  exact ⟨hlb, hb3, ho2, hn6, fun q hq e => hne q (by rw [← hlen]; exact e) hq⟩
end
/-- what takeName tells where a text may stand -/
def wsN (t : ByteArray) (s : WS) : Nat :=
  if s.p = 0 then 1 else if 12 < (oddU (bt t) t.size 0 0).2 ∨ s.many = 6 then 2 else if inS (gS s.cur) t s.cur.length = true then 4 else 0
def AnsNm (w w' : World) (e : Ending) (a : Nat → Addr) (B b0 : Nat) (s : WS) (t : ByteArray) (k : Nat) : Prop :=
  match k with
  | 0 => e = .returned .nilIface ∧ ∃ ra rc aa ac, Rd w' B b0 (addW s t) ra rc aa ac
  | k + 1 => e = .returned (snt (a (k + 1))) ∧ Below w.heap.size w w'
theorem iName0 (w : World) (B b0 : Nat) (R A : List ByteArray) (ra : Option Addr) (rc : Nat) (aa : Option Addr) (ac : Nat) (a : Nat → Addr) (t : ByteArray) (hS : Se w a) (h : Rd w B b0 ⟨0, R, A⟩ ra rc aa ac) :
    Calls Tryd.prog 67 #[.pointer (some ⟨B, 0, none⟩), .string t] w fun e w' => AnsNm w w' e a B b0 ⟨0, R, A⟩ t (wsN t ⟨0, R, A⟩) ∧ Kb B b0 w w' := by
  have z := h.bx.c2
  change w.cell? ⟨B, 2, none⟩ = some (.string ⟨#[]⟩) at z
  have zl := h.bx.lt
  have ge := hS.c1
  go_enter Tryd.func67, Tryd.ntmps67
  go_wp2
  go_ret
  exact ⟨⟨rfl, Below.refl _ _⟩, Kb.refl _ _ _⟩
set_option maxRecDepth 20000 in
set_option maxHeartbeats 4000000 in
theorem iName1 (w : World) (B b0 : Nat) (R A : List ByteArray) (ra : Option Addr) (rc : Nat) (aa : Option Addr) (ac : Nat) (a : Nat → Addr) (t : ByteArray) (hS : Se w a) (hok : WsOk ⟨1, R, A⟩) (h : Rd w B b0 ⟨1, R, A⟩ ra rc aa ac) (ht : t.size ≤ 200) (ho : (oddU (bt t) t.size 0 0).1 < 0) :
    Calls Tryd.prog 67 #[.pointer (some ⟨B, 0, none⟩), .string t] w fun e w' => AnsNm w w' e a B b0 ⟨1, R, A⟩ t (wsN t ⟨1, R, A⟩) ∧ Kb B b0 w w' := by
  obtain ⟨i0, hi, hzz⟩ := Option.map_eq_some_iff.1 infoSt
  simp only [Prod.mk.injEq] at hzz
  obtain ⟨hz0, hz1, hz2⟩ := hzz
  have z := h.bx.c2
  change w.cell? ⟨B, 2, none⟩ = some (.string wdR) at z
  have zl := h.bx.lt
  have y0 := h.bx.c0
  change w.cell? ⟨B, 0, none⟩ = some (.slice ra R.length rc) at y0
  have e1 : (wdR.toList == (⟨#[]⟩ : ByteArray).toList) = false := by simp [ByteArray.toList_eq, wdR]
  have e2 : (wdR.toList == []) = false := by simp [ByteArray.toList_eq, wdR]
  have e3 : wdR.toList.isEmpty = false := by simp [ByteArray.toList_eq, wdR]
  have e4 : ¬ wdR.toList = [] := by simp [ByteArray.toList_eq, wdR]
  have kN := iNamesP w B 1 _ _ (by omega) h.bx
  have kC := u8_count t w (by omega)
  have hrc : (oddU (bt t) t.size 0 0).2 = ((Lib.runeCount t : Nat) : Int) := run_count t ho
  have hBw : b0 ≤ w.heap.size := h.lb.2
  have hln : R.length ≤ 6 := hok.r
  have hS1 := hS.on (Below.refl w.heap.size w)
  unfold AnsNm wsN
  rw [hrc, if_neg (by simp)]
  have hm : WS.many ⟨1, R, A⟩ = R.length := rfl
  have hcu : WS.cur ⟨1, R, A⟩ = R := rfl
  rw [hm, hcu]
  clear ho hS1
  obtain ⟨RC, hRC⟩ : ∃ RC, Lib.runeCount t = RC := ⟨_, rfl⟩
  rw [hRC] at kC ⊢
  clear hRC hrc
  by_cases c1 : 12 < (RC : Int)
  · rw [if_pos (.inl c1)]
    go_enter Tryd.func67, Tryd.ntmps67
    go_wp2_with fail
    refine kN.mono ?_
    rintro e w1 ⟨rfl, hw⟩
    have hs := hw.symm
    clear hw kN
    subst hs
    go_wp2_with fail
    refine kC.mono ?_
    rintro e w3 ⟨rfl, hb3⟩
    have hR3 := h.on hb3
    have hS3 := hS.on hb3
    clear kC z y0 zl
    have zl := hR3.bx.lt
    have y0 := hR3.bx.c0
    change w3.cell? ⟨B, 0, none⟩ = some (.slice ra R.length rc) at y0
    have ge := hS3.c2
    go_wp2
    go_ret
    exact ⟨⟨rfl, hb3⟩, Kb.of (hb3.mono hBw)⟩
  · by_cases c2 : R.length = 6
    · rw [if_pos (.inr c2)]
      have c3 : ((R.length : Int) == 6) = true := by simp [c2]
      have c4 : (R.length : Int) = 6 := by omega
      go_enter Tryd.func67, Tryd.ntmps67
      go_wp2_with fail
      refine kN.mono ?_
      rintro e w1 ⟨rfl, hw⟩
      have hs := hw.symm
      clear hw kN
      subst hs
      go_wp2_with fail
      refine kC.mono ?_
      rintro e w3 ⟨rfl, hb3⟩
      have hR3 := h.on hb3
      have hS3 := hS.on hb3
      clear kC z y0 zl
      have zl := hR3.bx.lt
      have y0 := hR3.bx.c0
      change w3.cell? ⟨B, 0, none⟩ = some (.slice ra R.length rc) at y0
      clear c2
      have ge := hS3.c2
      go_wp2
      go_ret
      exact ⟨⟨rfl, hb3⟩, Kb.of (hb3.mono hBw)⟩
    · rw [if_neg (by rintro (h1 | h1); exact c1 h1; exact c2 h1)]
      have c3 : ((R.length : Int) == 6) = false := beq_eq_false_iff_ne.2 (by omega)
      have c4 : ¬ (R.length : Int) = 6 := by omega
      have kI := fun w2 (hb : Below w.heap.size w w2) => iContS ra R.length rc (gS R) t w2 (by omega) (h.r.on hb).sl
      cases hi9 : inS (gS R) t R.length with
      | true =>
        rw [hi9] at kI
        rw [if_pos rfl]
        go_enter Tryd.func67, Tryd.ntmps67
        go_wp2_with fail
        refine kN.mono ?_
        rintro e w1 ⟨rfl, hw⟩
        have hs := hw.symm
        clear hw kN
        subst hs
        go_wp2_with fail
        refine kC.mono ?_
        rintro e w3 ⟨rfl, hb3⟩
        have hR3 := h.on hb3
        have hS3 := hS.on hb3
        clear kC z y0 zl
        have zl := hR3.bx.lt
        have y0 := hR3.bx.c0
        change w3.cell? ⟨B, 0, none⟩ = some (.slice ra R.length rc) at y0
        go_wp2_with fail
        refine (kI w3 hb3).mono ?_
        rintro e w4 ⟨rfl, hw⟩
        have hs := hw.symm
        clear hw kI
        subst hs
        have ge := hS3.c4
        go_wp2
        go_ret
        exact ⟨⟨rfl, hb3⟩, Kb.of (hb3.mono hBw)⟩
      | false =>
        rw [hi9] at kI
        rw [if_neg (by simp)]
        go_enter Tryd.func67, Tryd.ntmps67
        go_wp2_with fail
        refine kN.mono ?_
        rintro e w1 ⟨rfl, hw⟩
        have hs := hw.symm
        clear hw kN
        subst hs
        go_wp2_with fail
        refine kC.mono ?_
        rintro e w3 ⟨rfl, hb3⟩
        have hR3 := h.on hb3
        have hS3 := hS.on hb3
        clear kC z y0 zl
        have zl := hR3.bx.lt
        have y0 := hR3.bx.c0
        change w3.cell? ⟨B, 0, none⟩ = some (.slice ra R.length rc) at y0
        go_wp2_with fail
        refine (kI w3 hb3).mono ?_
        rintro e w4 ⟨rfl, hw⟩
        have hs := hw.symm
        clear hw kI
        subst hs
        clear y0 zl
        go_upto_region 8 with fail
        have hRd := hR3.on (Below.refl w3.heap.size w3).drew
        refine wp_region_held (S := (fun _ => True)) (by kernel_rfl) ?_
        change wpAnyH _ _ _ _ _ _ _ _ (World.drew _)
        have hSw : True := trivial
        refine wpAnyH_take (i := 0) (v := .pointer (some ⟨B, 0, none⟩)) rfl (by kernel_rfl) (by kernel_rfl) (by kernel_rfl) (fun _ _ _ h => h) (Or.inl ⟨by rfl, ?_⟩) hSw ?_
        · intro wz _
          go_simp
        try simp [Act.put]
        refine wpAnyH_take (i := 1) (v := .pointer (some ⟨B, 0, none⟩)) rfl (by kernel_rfl) (by kernel_rfl) (by kernel_rfl) (fun _ _ _ h => h) (Or.inl ⟨by rfl, ?_⟩) hSw ?_
        · intro wz _
          go_simp
        try simp [Act.put]
        refine wpAnyH_take (i := 2) (v := .pointer (some ⟨B, 0, none⟩)) rfl (by kernel_rfl) (by kernel_rfl) (by kernel_rfl) (fun _ _ _ h => h) (Or.inl ⟨by rfl, ?_⟩) hSw ?_
        · intro wz _
          go_simp
        try simp [Act.put]
        refine wpAnyH_take (i := 4) (v := .string t) rfl (by kernel_rfl) (by kernel_rfl) (by kernel_rfl) (fun _ _ _ h => h) (Or.inl ⟨by rfl, ?_⟩) hSw ?_
        · intro wz _
          go_simp
        try simp [Act.put]
        refine wpAnyH_ready (rs := [3, 5]) (by kernel_rfl) (by simp) ?_
        refine AllReadyH.cons rfl (fun K9 hK => ?_) (AllReadyH.cons rfl (fun K9 hK => ?_) AllReadyH.nil)
        · have y8 := hRd.bx.c0
          have y9 := hRd.bx.lt
          go_simp
          refine hK.out _ _ trivial (fun hSn => ?_)
          clear hK K9 hSw
          have hSw := hSn
          clear hSn
          try simp [Act.put]
          clear y8 y9
          refine wpAnyH_ready (rs := [5]) (by kernel_rfl) (by simp) ?_
          refine AllReadyH.cons rfl (fun K9 hK => ?_) AllReadyH.nil
          go_simp
          go_at_call 81
          refine (iClone t _ ht).mono ?_
          rintro e9 w5 ⟨rfl, hb5⟩
          have h5 := hRd.on hb5
          refine hK.out _ _ trivial (fun hSn => ?_)
          clear hK K9 hSw
          have hSw := hSn
          clear hSn
          try simp [Act.put]
          refine wpAnyH_ready (rs := [6]) (by kernel_rfl) (by simp) ?_
          refine AllReadyH.cons rfl (fun K9 hK => ?_) AllReadyH.nil
          have hal := (Below.refl w5.heap.size w5).alloc (Nat.le_refl _) (.cells #[.string t] 9)
          have h6 := h5.on hal
          go_simp
          refine hK.out _ _ trivial (fun hSn => ?_)
          clear hK K9 hSw
          have hSw := hSn
          clear hSn
          try simp [Act.put]
          refine wpAnyH_ready (rs := [7]) (by kernel_rfl) (by simp) ?_
          refine AllReadyH.cons rfl (fun K9 hK => ?_) AllReadyH.nil
          have hBl := h5.lb.2
          obtain ⟨v6, w6, hrun6, hown6, hgr6, -, hat6⟩ := run_append_own_at (P := Tryd.prog) (w5.alloc (.cells #[.string t] 9)) b0 23 23 9 i0 (.string ⟨#[]⟩) 1 16 Tryd.underlying23 hi hz0 hz1 hz2 rfl (by decide) (.slice ra R.length rc) R.length (R.map Value.string) (World.ownsRow.alloc h5.r _) ⟨w5.heap.size, 0, none⟩ 1 1 [.string t] rfl (cell_one_new _ _ _) (fun u hu => by simp at hu; subst hu; rfl) (by unfold maxLen; omega) (by omega) (by simp only [size_al]; omega)
          obtain ⟨ya, yc, rfl, hbx6, hfin⟩ := h5.app1 (t := t) (by simp) hown6 hgr6 hat6
          have hBf : Kb B b0 w (w6.setCell ⟨B, 0, none⟩ (.slice ya (R.length + 1) yc)) := (Kb.of ((hb3.mono hBw).drew.trans ((hb5.mono (by have := hb3.size; show b0 ≤ w3.heap.size; omega)).trans (((Below.refl b0 w5).alloc h5.lb.2 _).grown hgr6 (by simp only [size_al]; have := h5.lb.2; omega) (fun q hq => (World.ownsRow.lt h5.r q hq).1))))).set ((Only.refl B w6).set 0 _)
          refine held_app (by kernel_rfl) (.tmp 34) (.tmp 37) 23 rfl rfl rfl hrun6 ?_
          refine hK.out _ _ trivial (fun hSn => ?_)
          clear hK K9 hSw
          have hSw := hSn
          clear hSn
          try simp [Act.put]
          refine wpAnyH_ready (rs := [8]) (by kernel_rfl) (by simp) ?_
          refine AllReadyH.cons rfl (fun K9 hK => ?_) AllReadyH.nil
          go_simp
          refine hK.out _ _ trivial (fun hSn => ?_)
          clear hK K9 hSw
          have hSw := hSn
          clear hSn
          try simp [Act.put]
          refine wpAnyH_ready (rs := [9]) (by kernel_rfl) (by simp) ?_
          refine AllReadyH.cons rfl (fun K9 hK => ?_) AllReadyH.nil
          have y8 := hbx6.c0
          have y9 := hbx6.lt
          have y10 := hbx6.fz 0
          go_simp
          refine hK.out _ _ trivial (fun hSn => ?_)
          clear hK K9 hSw
          have hSw := hSn
          clear hSn
          try simp [Act.put]
          clear y8 y9 y10
          refine wpAnyH_done (by kernel_rfl) ?_ _
          clear hSw
          go_wp2
          go_ret
          exact ⟨⟨rfl, hfin⟩, hBf⟩
        · go_simp
          go_at_call 81
          refine (iClone t _ ht).mono ?_
          rintro e9 w5 ⟨rfl, hb5⟩
          have h5 := hRd.on hb5
          refine hK.out _ _ trivial (fun hSn => ?_)
          clear hK K9 hSw
          have hSw := hSn
          clear hSn
          try simp [Act.put]
          refine wpAnyH_ready (rs := [3, 6]) (by kernel_rfl) (by simp) ?_
          refine AllReadyH.cons rfl (fun K9 hK => ?_) (AllReadyH.cons rfl (fun K9 hK => ?_) AllReadyH.nil)
          · have y8 := h5.bx.c0
            have y9 := h5.bx.lt
            go_simp
            refine hK.out _ _ trivial (fun hSn => ?_)
            clear hK K9 hSw
            have hSw := hSn
            clear hSn
            try simp [Act.put]
            clear y8 y9
            refine wpAnyH_ready (rs := [6]) (by kernel_rfl) (by simp) ?_
            refine AllReadyH.cons rfl (fun K9 hK => ?_) AllReadyH.nil
            have hal := (Below.refl w5.heap.size w5).alloc (Nat.le_refl _) (.cells #[.string t] 9)
            have h6 := h5.on hal
            go_simp
            refine hK.out _ _ trivial (fun hSn => ?_)
            clear hK K9 hSw
            have hSw := hSn
            clear hSn
            try simp [Act.put]
            refine wpAnyH_ready (rs := [7]) (by kernel_rfl) (by simp) ?_
            refine AllReadyH.cons rfl (fun K9 hK => ?_) AllReadyH.nil
            have hBl := h5.lb.2
            obtain ⟨v6, w6, hrun6, hown6, hgr6, -, hat6⟩ := run_append_own_at (P := Tryd.prog) (w5.alloc (.cells #[.string t] 9)) b0 23 23 9 i0 (.string ⟨#[]⟩) 1 16 Tryd.underlying23 hi hz0 hz1 hz2 rfl (by decide) (.slice ra R.length rc) R.length (R.map Value.string) (World.ownsRow.alloc h5.r _) ⟨w5.heap.size, 0, none⟩ 1 1 [.string t] rfl (cell_one_new _ _ _) (fun u hu => by simp at hu; subst hu; rfl) (by unfold maxLen; omega) (by omega) (by simp only [size_al]; omega)
            obtain ⟨ya, yc, rfl, hbx6, hfin⟩ := h5.app1 (t := t) (by simp) hown6 hgr6 hat6
            have hBf : Kb B b0 w (w6.setCell ⟨B, 0, none⟩ (.slice ya (R.length + 1) yc)) := (Kb.of ((hb3.mono hBw).drew.trans ((hb5.mono (by have := hb3.size; show b0 ≤ w3.heap.size; omega)).trans (((Below.refl b0 w5).alloc h5.lb.2 _).grown hgr6 (by simp only [size_al]; have := h5.lb.2; omega) (fun q hq => (World.ownsRow.lt h5.r q hq).1))))).set ((Only.refl B w6).set 0 _)
            refine held_app (by kernel_rfl) (.tmp 34) (.tmp 37) 23 rfl rfl rfl hrun6 ?_
            refine hK.out _ _ trivial (fun hSn => ?_)
            clear hK K9 hSw
            have hSw := hSn
            clear hSn
            try simp [Act.put]
            refine wpAnyH_ready (rs := [8]) (by kernel_rfl) (by simp) ?_
            refine AllReadyH.cons rfl (fun K9 hK => ?_) AllReadyH.nil
            go_simp
            refine hK.out _ _ trivial (fun hSn => ?_)
            clear hK K9 hSw
            have hSw := hSn
            clear hSn
            try simp [Act.put]
            refine wpAnyH_ready (rs := [9]) (by kernel_rfl) (by simp) ?_
            refine AllReadyH.cons rfl (fun K9 hK => ?_) AllReadyH.nil
            have y8 := hbx6.c0
            have y9 := hbx6.lt
            have y10 := hbx6.fz 0
            go_simp
            refine hK.out _ _ trivial (fun hSn => ?_)
            clear hK K9 hSw
            have hSw := hSn
            clear hSn
            try simp [Act.put]
            clear y8 y9 y10
            refine wpAnyH_done (by kernel_rfl) ?_ _
            clear hSw
            go_wp2
            go_ret
            exact ⟨⟨rfl, hfin⟩, hBf⟩
          · have hal := (Below.refl w5.heap.size w5).alloc (Nat.le_refl _) (.cells #[.string t] 9)
            have h6 := h5.on hal
            go_simp
            refine hK.out _ _ trivial (fun hSn => ?_)
            clear hK K9 hSw
            have hSw := hSn
            clear hSn
            try simp [Act.put]
            refine wpAnyH_ready (rs := [3]) (by kernel_rfl) (by simp) ?_
            refine AllReadyH.cons rfl (fun K9 hK => ?_) AllReadyH.nil
            have y8 := h6.bx.c0
            have y9 := h6.bx.lt
            go_simp
            refine hK.out _ _ trivial (fun hSn => ?_)
            clear hK K9 hSw
            have hSw := hSn
            clear hSn
            try simp [Act.put]
            clear y8 y9
            refine wpAnyH_ready (rs := [7]) (by kernel_rfl) (by simp) ?_
            refine AllReadyH.cons rfl (fun K9 hK => ?_) AllReadyH.nil
            have hBl := h5.lb.2
            obtain ⟨v6, w6, hrun6, hown6, hgr6, -, hat6⟩ := run_append_own_at (P := Tryd.prog) (w5.alloc (.cells #[.string t] 9)) b0 23 23 9 i0 (.string ⟨#[]⟩) 1 16 Tryd.underlying23 hi hz0 hz1 hz2 rfl (by decide) (.slice ra R.length rc) R.length (R.map Value.string) (World.ownsRow.alloc h5.r _) ⟨w5.heap.size, 0, none⟩ 1 1 [.string t] rfl (cell_one_new _ _ _) (fun u hu => by simp at hu; subst hu; rfl) (by unfold maxLen; omega) (by omega) (by simp only [size_al]; omega)
            obtain ⟨ya, yc, rfl, hbx6, hfin⟩ := h5.app1 (t := t) (by simp) hown6 hgr6 hat6
            have hBf : Kb B b0 w (w6.setCell ⟨B, 0, none⟩ (.slice ya (R.length + 1) yc)) := (Kb.of ((hb3.mono hBw).drew.trans ((hb5.mono (by have := hb3.size; show b0 ≤ w3.heap.size; omega)).trans (((Below.refl b0 w5).alloc h5.lb.2 _).grown hgr6 (by simp only [size_al]; have := h5.lb.2; omega) (fun q hq => (World.ownsRow.lt h5.r q hq).1))))).set ((Only.refl B w6).set 0 _)
            refine held_app (by kernel_rfl) (.tmp 34) (.tmp 37) 23 rfl rfl rfl hrun6 ?_
            refine hK.out _ _ trivial (fun hSn => ?_)
            clear hK K9 hSw
            have hSw := hSn
            clear hSn
            try simp [Act.put]
            refine wpAnyH_ready (rs := [8]) (by kernel_rfl) (by simp) ?_
            refine AllReadyH.cons rfl (fun K9 hK => ?_) AllReadyH.nil
            go_simp
            refine hK.out _ _ trivial (fun hSn => ?_)
            clear hK K9 hSw
            have hSw := hSn
            clear hSn
            try simp [Act.put]
            refine wpAnyH_ready (rs := [9]) (by kernel_rfl) (by simp) ?_
            refine AllReadyH.cons rfl (fun K9 hK => ?_) AllReadyH.nil
            have y8 := hbx6.c0
            have y9 := hbx6.lt
            have y10 := hbx6.fz 0
            go_simp
            refine hK.out _ _ trivial (fun hSn => ?_)
            clear hK K9 hSw
            have hSw := hSn
            clear hSn
            try simp [Act.put]
            clear y8 y9 y10
            refine wpAnyH_done (by kernel_rfl) ?_ _
            clear hSw
            go_wp2
            go_ret
            exact ⟨⟨rfl, hfin⟩, hBf⟩
set_option maxRecDepth 20000 in
set_option maxHeartbeats 4000000 in
theorem iName2 (w : World) (B b0 : Nat) (R A : List ByteArray) (ra : Option Addr) (rc : Nat) (aa : Option Addr) (ac : Nat) (a : Nat → Addr) (t : ByteArray) (hS : Se w a) (hok : WsOk ⟨2, R, A⟩) (h : Rd w B b0 ⟨2, R, A⟩ ra rc aa ac) (ht : t.size ≤ 200) (ho : (oddU (bt t) t.size 0 0).1 < 0) :
    Calls Tryd.prog 67 #[.pointer (some ⟨B, 0, none⟩), .string t] w fun e w' => AnsNm w w' e a B b0 ⟨2, R, A⟩ t (wsN t ⟨2, R, A⟩) ∧ Kb B b0 w w' := by
  obtain ⟨i0, hi, hzz⟩ := Option.map_eq_some_iff.1 infoSt
  simp only [Prod.mk.injEq] at hzz
  obtain ⟨hz0, hz1, hz2⟩ := hzz
  have z := h.bx.c2
  change w.cell? ⟨B, 2, none⟩ = some (.string wdA) at z
  have zl := h.bx.lt
  have y0 := h.bx.c1
  change w.cell? ⟨B, 1, none⟩ = some (.slice aa A.length ac) at y0
  have e1 : (wdA.toList == (⟨#[]⟩ : ByteArray).toList) = false := by simp [ByteArray.toList_eq, wdA]
  have e2 : (wdA.toList == []) = false := by simp [ByteArray.toList_eq, wdA]
  have e3 : wdA.toList.isEmpty = false := by simp [ByteArray.toList_eq, wdA]
  have e4 : ¬ wdA.toList = [] := by simp [ByteArray.toList_eq, wdA]
  have kN := iNamesP w B 2 _ _ (by omega) h.bx
  have kC := u8_count t w (by omega)
  have hrc : (oddU (bt t) t.size 0 0).2 = ((Lib.runeCount t : Nat) : Int) := run_count t ho
  have hBw : b0 ≤ w.heap.size := h.lb.2
  have hln : A.length ≤ 6 := hok.a
  have hS1 := hS.on (Below.refl w.heap.size w)
  unfold AnsNm wsN
  rw [hrc, if_neg (by simp)]
  have hm : WS.many ⟨2, R, A⟩ = A.length := rfl
  have hcu : WS.cur ⟨2, R, A⟩ = A := rfl
  rw [hm, hcu]
  clear ho hS1
  obtain ⟨RC, hRC⟩ : ∃ RC, Lib.runeCount t = RC := ⟨_, rfl⟩
  rw [hRC] at kC ⊢
  clear hRC hrc
  by_cases c1 : 12 < (RC : Int)
  · rw [if_pos (.inl c1)]
    go_enter Tryd.func67, Tryd.ntmps67
    go_wp2_with fail
    refine kN.mono ?_
    rintro e w1 ⟨rfl, hw⟩
    have hs := hw.symm
    clear hw kN
    subst hs
    go_wp2_with fail
    refine kC.mono ?_
    rintro e w3 ⟨rfl, hb3⟩
    have hR3 := h.on hb3
    have hS3 := hS.on hb3
    clear kC z y0 zl
    have zl := hR3.bx.lt
    have y0 := hR3.bx.c1
    change w3.cell? ⟨B, 1, none⟩ = some (.slice aa A.length ac) at y0
    have ge := hS3.c2
    go_wp2
    go_ret
    exact ⟨⟨rfl, hb3⟩, Kb.of (hb3.mono hBw)⟩
  · by_cases c2 : A.length = 6
    · rw [if_pos (.inr c2)]
      have c3 : ((A.length : Int) == 6) = true := by simp [c2]
      have c4 : (A.length : Int) = 6 := by omega
      go_enter Tryd.func67, Tryd.ntmps67
      go_wp2_with fail
      refine kN.mono ?_
      rintro e w1 ⟨rfl, hw⟩
      have hs := hw.symm
      clear hw kN
      subst hs
      go_wp2_with fail
      refine kC.mono ?_
      rintro e w3 ⟨rfl, hb3⟩
      have hR3 := h.on hb3
      have hS3 := hS.on hb3
      clear kC z y0 zl
      have zl := hR3.bx.lt
      have y0 := hR3.bx.c1
      change w3.cell? ⟨B, 1, none⟩ = some (.slice aa A.length ac) at y0
      clear c2
      have ge := hS3.c2
      go_wp2
      go_ret
      exact ⟨⟨rfl, hb3⟩, Kb.of (hb3.mono hBw)⟩
    · rw [if_neg (by rintro (h1 | h1); exact c1 h1; exact c2 h1)]
      have c3 : ((A.length : Int) == 6) = false := beq_eq_false_iff_ne.2 (by omega)
      have c4 : ¬ (A.length : Int) = 6 := by omega
      have kI := fun w2 (hb : Below w.heap.size w w2) => iContS aa A.length ac (gS A) t w2 (by omega) (h.a.on hb).sl
      cases hi9 : inS (gS A) t A.length with
      | true =>
        rw [hi9] at kI
        rw [if_pos rfl]
        go_enter Tryd.func67, Tryd.ntmps67
        go_wp2_with fail
        refine kN.mono ?_
        rintro e w1 ⟨rfl, hw⟩
        have hs := hw.symm
        clear hw kN
        subst hs
        go_wp2_with fail
        refine kC.mono ?_
        rintro e w3 ⟨rfl, hb3⟩
        have hR3 := h.on hb3
        have hS3 := hS.on hb3
        clear kC z y0 zl
        have zl := hR3.bx.lt
        have y0 := hR3.bx.c1
        change w3.cell? ⟨B, 1, none⟩ = some (.slice aa A.length ac) at y0
        go_wp2_with fail
        refine (kI w3 hb3).mono ?_
        rintro e w4 ⟨rfl, hw⟩
        have hs := hw.symm
        clear hw kI
        subst hs
        have ge := hS3.c4
        go_wp2
        go_ret
        exact ⟨⟨rfl, hb3⟩, Kb.of (hb3.mono hBw)⟩
      | false =>
        rw [hi9] at kI
        rw [if_neg (by simp)]
        go_enter Tryd.func67, Tryd.ntmps67
        go_wp2_with fail
        refine kN.mono ?_
        rintro e w1 ⟨rfl, hw⟩
        have hs := hw.symm
        clear hw kN
        subst hs
        go_wp2_with fail
        refine kC.mono ?_
        rintro e w3 ⟨rfl, hb3⟩
        have hR3 := h.on hb3
        have hS3 := hS.on hb3
        clear kC z y0 zl
        have zl := hR3.bx.lt
        have y0 := hR3.bx.c1
        change w3.cell? ⟨B, 1, none⟩ = some (.slice aa A.length ac) at y0
        go_wp2_with fail
        refine (kI w3 hb3).mono ?_
        rintro e w4 ⟨rfl, hw⟩
        have hs := hw.symm
        clear hw kI
        subst hs
        clear y0 zl
        go_upto_region 8 with fail
        have hRd := hR3.on (Below.refl w3.heap.size w3).drew
        refine wp_region_held (S := (fun _ => True)) (by kernel_rfl) ?_
        change wpAnyH _ _ _ _ _ _ _ _ (World.drew _)
        have hSw : True := trivial
        refine wpAnyH_take (i := 0) (v := .pointer (some ⟨B, 1, none⟩)) rfl (by kernel_rfl) (by kernel_rfl) (by kernel_rfl) (fun _ _ _ h => h) (Or.inl ⟨by rfl, ?_⟩) hSw ?_
        · intro wz _
          go_simp
        try simp [Act.put]
        refine wpAnyH_take (i := 1) (v := .pointer (some ⟨B, 1, none⟩)) rfl (by kernel_rfl) (by kernel_rfl) (by kernel_rfl) (fun _ _ _ h => h) (Or.inl ⟨by rfl, ?_⟩) hSw ?_
        · intro wz _
          go_simp
        try simp [Act.put]
        refine wpAnyH_take (i := 2) (v := .pointer (some ⟨B, 1, none⟩)) rfl (by kernel_rfl) (by kernel_rfl) (by kernel_rfl) (fun _ _ _ h => h) (Or.inl ⟨by rfl, ?_⟩) hSw ?_
        · intro wz _
          go_simp
        try simp [Act.put]
        refine wpAnyH_take (i := 4) (v := .string t) rfl (by kernel_rfl) (by kernel_rfl) (by kernel_rfl) (fun _ _ _ h => h) (Or.inl ⟨by rfl, ?_⟩) hSw ?_
        · intro wz _
          go_simp
        try simp [Act.put]
        refine wpAnyH_ready (rs := [3, 5]) (by kernel_rfl) (by simp) ?_
        refine AllReadyH.cons rfl (fun K9 hK => ?_) (AllReadyH.cons rfl (fun K9 hK => ?_) AllReadyH.nil)
        · have y8 := hRd.bx.c1
          have y9 := hRd.bx.lt
          go_simp
          refine hK.out _ _ trivial (fun hSn => ?_)
          clear hK K9 hSw
          have hSw := hSn
          clear hSn
          try simp [Act.put]
          clear y8 y9
          refine wpAnyH_ready (rs := [5]) (by kernel_rfl) (by simp) ?_
          refine AllReadyH.cons rfl (fun K9 hK => ?_) AllReadyH.nil
          go_simp
          go_at_call 81
          refine (iClone t _ ht).mono ?_
          rintro e9 w5 ⟨rfl, hb5⟩
          have h5 := hRd.on hb5
          refine hK.out _ _ trivial (fun hSn => ?_)
          clear hK K9 hSw
          have hSw := hSn
          clear hSn
          try simp [Act.put]
          refine wpAnyH_ready (rs := [6]) (by kernel_rfl) (by simp) ?_
          refine AllReadyH.cons rfl (fun K9 hK => ?_) AllReadyH.nil
          have hal := (Below.refl w5.heap.size w5).alloc (Nat.le_refl _) (.cells #[.string t] 9)
          have h6 := h5.on hal
          go_simp
          refine hK.out _ _ trivial (fun hSn => ?_)
          clear hK K9 hSw
          have hSw := hSn
          clear hSn
          try simp [Act.put]
          refine wpAnyH_ready (rs := [7]) (by kernel_rfl) (by simp) ?_
          refine AllReadyH.cons rfl (fun K9 hK => ?_) AllReadyH.nil
          have hBl := h5.lb.2
          obtain ⟨v6, w6, hrun6, hown6, hgr6, -, hat6⟩ := run_append_own_at (P := Tryd.prog) (w5.alloc (.cells #[.string t] 9)) b0 23 23 9 i0 (.string ⟨#[]⟩) 1 16 Tryd.underlying23 hi hz0 hz1 hz2 rfl (by decide) (.slice aa A.length ac) A.length (A.map Value.string) (World.ownsRow.alloc h5.a _) ⟨w5.heap.size, 0, none⟩ 1 1 [.string t] rfl (cell_one_new _ _ _) (fun u hu => by simp at hu; subst hu; rfl) (by unfold maxLen; omega) (by omega) (by simp only [size_al]; omega)
          obtain ⟨ya, yc, rfl, hbx6, hfin⟩ := h5.app2 (t := t) (by simp) hown6 hgr6 hat6
          have hBf : Kb B b0 w (w6.setCell ⟨B, 1, none⟩ (.slice ya (A.length + 1) yc)) := (Kb.of ((hb3.mono hBw).drew.trans ((hb5.mono (by have := hb3.size; show b0 ≤ w3.heap.size; omega)).trans (((Below.refl b0 w5).alloc h5.lb.2 _).grown hgr6 (by simp only [size_al]; have := h5.lb.2; omega) (fun q hq => (World.ownsRow.lt h5.a q hq).1))))).set ((Only.refl B w6).set 1 _)
          refine held_app (by kernel_rfl) (.tmp 34) (.tmp 37) 23 rfl rfl rfl hrun6 ?_
          refine hK.out _ _ trivial (fun hSn => ?_)
          clear hK K9 hSw
          have hSw := hSn
          clear hSn
          try simp [Act.put]
          refine wpAnyH_ready (rs := [8]) (by kernel_rfl) (by simp) ?_
          refine AllReadyH.cons rfl (fun K9 hK => ?_) AllReadyH.nil
          go_simp
          refine hK.out _ _ trivial (fun hSn => ?_)
          clear hK K9 hSw
          have hSw := hSn
          clear hSn
          try simp [Act.put]
          refine wpAnyH_ready (rs := [9]) (by kernel_rfl) (by simp) ?_
          refine AllReadyH.cons rfl (fun K9 hK => ?_) AllReadyH.nil
          have y8 := hbx6.c1
          have y9 := hbx6.lt
          have y10 := hbx6.fz 1
          go_simp
          refine hK.out _ _ trivial (fun hSn => ?_)
          clear hK K9 hSw
          have hSw := hSn
          clear hSn
          try simp [Act.put]
          clear y8 y9 y10
          refine wpAnyH_done (by kernel_rfl) ?_ _
          clear hSw
          go_wp2
          go_ret
          exact ⟨⟨rfl, hfin⟩, hBf⟩
        · go_simp
          go_at_call 81
          refine (iClone t _ ht).mono ?_
          rintro e9 w5 ⟨rfl, hb5⟩
          have h5 := hRd.on hb5
          refine hK.out _ _ trivial (fun hSn => ?_)
          clear hK K9 hSw
          have hSw := hSn
          clear hSn
          try simp [Act.put]
          refine wpAnyH_ready (rs := [3, 6]) (by kernel_rfl) (by simp) ?_
          refine AllReadyH.cons rfl (fun K9 hK => ?_) (AllReadyH.cons rfl (fun K9 hK => ?_) AllReadyH.nil)
          · have y8 := h5.bx.c1
            have y9 := h5.bx.lt
            go_simp
            refine hK.out _ _ trivial (fun hSn => ?_)
            clear hK K9 hSw
            have hSw := hSn
            clear hSn
            try simp [Act.put]
            clear y8 y9
            refine wpAnyH_ready (rs := [6]) (by kernel_rfl) (by simp) ?_
            refine AllReadyH.cons rfl (fun K9 hK => ?_) AllReadyH.nil
            have hal := (Below.refl w5.heap.size w5).alloc (Nat.le_refl _) (.cells #[.string t] 9)
            have h6 := h5.on hal
            go_simp
            refine hK.out _ _ trivial (fun hSn => ?_)
            clear hK K9 hSw
            have hSw := hSn
            clear hSn
            try simp [Act.put]
            refine wpAnyH_ready (rs := [7]) (by kernel_rfl) (by simp) ?_
            refine AllReadyH.cons rfl (fun K9 hK => ?_) AllReadyH.nil
            have hBl := h5.lb.2
            obtain ⟨v6, w6, hrun6, hown6, hgr6, -, hat6⟩ := run_append_own_at (P := Tryd.prog) (w5.alloc (.cells #[.string t] 9)) b0 23 23 9 i0 (.string ⟨#[]⟩) 1 16 Tryd.underlying23 hi hz0 hz1 hz2 rfl (by decide) (.slice aa A.length ac) A.length (A.map Value.string) (World.ownsRow.alloc h5.a _) ⟨w5.heap.size, 0, none⟩ 1 1 [.string t] rfl (cell_one_new _ _ _) (fun u hu => by simp at hu; subst hu; rfl) (by unfold maxLen; omega) (by omega) (by simp only [size_al]; omega)
            obtain ⟨ya, yc, rfl, hbx6, hfin⟩ := h5.app2 (t := t) (by simp) hown6 hgr6 hat6
            have hBf : Kb B b0 w (w6.setCell ⟨B, 1, none⟩ (.slice ya (A.length + 1) yc)) := (Kb.of ((hb3.mono hBw).drew.trans ((hb5.mono (by have := hb3.size; show b0 ≤ w3.heap.size; omega)).trans (((Below.refl b0 w5).alloc h5.lb.2 _).grown hgr6 (by simp only [size_al]; have := h5.lb.2; omega) (fun q hq => (World.ownsRow.lt h5.a q hq).1))))).set ((Only.refl B w6).set 1 _)
            refine held_app (by kernel_rfl) (.tmp 34) (.tmp 37) 23 rfl rfl rfl hrun6 ?_
            refine hK.out _ _ trivial (fun hSn => ?_)
            clear hK K9 hSw
            have hSw := hSn
            clear hSn
            try simp [Act.put]
            refine wpAnyH_ready (rs := [8]) (by kernel_rfl) (by simp) ?_
            refine AllReadyH.cons rfl (fun K9 hK => ?_) AllReadyH.nil
            go_simp
            refine hK.out _ _ trivial (fun hSn => ?_)
            clear hK K9 hSw
            have hSw := hSn
            clear hSn
            try simp [Act.put]
            refine wpAnyH_ready (rs := [9]) (by kernel_rfl) (by simp) ?_
            refine AllReadyH.cons rfl (fun K9 hK => ?_) AllReadyH.nil
            have y8 := hbx6.c1
            have y9 := hbx6.lt
            have y10 := hbx6.fz 1
            go_simp
            refine hK.out _ _ trivial (fun hSn => ?_)
            clear hK K9 hSw
            have hSw := hSn
            clear hSn
            try simp [Act.put]
            clear y8 y9 y10
            refine wpAnyH_done (by kernel_rfl) ?_ _
            clear hSw
            go_wp2
            go_ret
            exact ⟨⟨rfl, hfin⟩, hBf⟩
          · have hal := (Below.refl w5.heap.size w5).alloc (Nat.le_refl _) (.cells #[.string t] 9)
            have h6 := h5.on hal
            go_simp
            refine hK.out _ _ trivial (fun hSn => ?_)
            clear hK K9 hSw
            have hSw := hSn
            clear hSn
            try simp [Act.put]
            refine wpAnyH_ready (rs := [3]) (by kernel_rfl) (by simp) ?_
            refine AllReadyH.cons rfl (fun K9 hK => ?_) AllReadyH.nil
            have y8 := h6.bx.c1
            have y9 := h6.bx.lt
            go_simp
            refine hK.out _ _ trivial (fun hSn => ?_)
            clear hK K9 hSw
            have hSw := hSn
            clear hSn
            try simp [Act.put]
            clear y8 y9
            refine wpAnyH_ready (rs := [7]) (by kernel_rfl) (by simp) ?_
            refine AllReadyH.cons rfl (fun K9 hK => ?_) AllReadyH.nil
            have hBl := h5.lb.2
            obtain ⟨v6, w6, hrun6, hown6, hgr6, -, hat6⟩ := run_append_own_at (P := Tryd.prog) (w5.alloc (.cells #[.string t] 9)) b0 23 23 9 i0 (.string ⟨#[]⟩) 1 16 Tryd.underlying23 hi hz0 hz1 hz2 rfl (by decide) (.slice aa A.length ac) A.length (A.map Value.string) (World.ownsRow.alloc h5.a _) ⟨w5.heap.size, 0, none⟩ 1 1 [.string t] rfl (cell_one_new _ _ _) (fun u hu => by simp at hu; subst hu; rfl) (by unfold maxLen; omega) (by omega) (by simp only [size_al]; omega)
            obtain ⟨ya, yc, rfl, hbx6, hfin⟩ := h5.app2 (t := t) (by simp) hown6 hgr6 hat6
            have hBf : Kb B b0 w (w6.setCell ⟨B, 1, none⟩ (.slice ya (A.length + 1) yc)) := (Kb.of ((hb3.mono hBw).drew.trans ((hb5.mono (by have := hb3.size; show b0 ≤ w3.heap.size; omega)).trans (((Below.refl b0 w5).alloc h5.lb.2 _).grown hgr6 (by simp only [size_al]; have := h5.lb.2; omega) (fun q hq => (World.ownsRow.lt h5.a q hq).1))))).set ((Only.refl B w6).set 1 _)
            refine held_app (by kernel_rfl) (.tmp 34) (.tmp 37) 23 rfl rfl rfl hrun6 ?_
            refine hK.out _ _ trivial (fun hSn => ?_)
            clear hK K9 hSw
            have hSw := hSn
            clear hSn
            try simp [Act.put]
            refine wpAnyH_ready (rs := [8]) (by kernel_rfl) (by simp) ?_
            refine AllReadyH.cons rfl (fun K9 hK => ?_) AllReadyH.nil
            go_simp
            refine hK.out _ _ trivial (fun hSn => ?_)
            clear hK K9 hSw
            have hSw := hSn
            clear hSn
            try simp [Act.put]
            refine wpAnyH_ready (rs := [9]) (by kernel_rfl) (by simp) ?_
            refine AllReadyH.cons rfl (fun K9 hK => ?_) AllReadyH.nil
            have y8 := hbx6.c1
            have y9 := hbx6.lt
            have y10 := hbx6.fz 1
            go_simp
            refine hK.out _ _ trivial (fun hSn => ?_)
            clear hK K9 hSw
            have hSw := hSn
            clear hSn
            try simp [Act.put]
            clear y8 y9 y10
            refine wpAnyH_done (by kernel_rfl) ?_ _
            clear hSw
            go_wp2
            go_ret
            exact ⟨⟨rfl, hfin⟩, hBf⟩
end Go.Proofs.YtmlfijapndkfhaaDoor
