/- ReadWish of the model (tools/gen_resp.py). -/
import Derived.Test.YtmlfijapndkfhaaDoorQReMk
import Derived.Test.YtmlfijapndkfhaaDoorQWhOdd
import Derived.Deep.LoopGhost
import Derived.Deep.CutRange
import Derived.Deep.CutBlock
namespace Go.Proofs.YtmlfijapndkfhaaDoor
open Go.RowKit
theorem sBad (k x : Int) (w : World) :
    Calls Tryd.prog 29 #[.agg #[], .int .i64 k, .int .i64 x] w fun e w' => e = .returned (wrd none 0 0 none 0 0 k x) ∧ Below w.heap.size w w' := by
  have h0 : Below w.heap.size w (w.alloc (.cells #[] 58)) := (Below.refl _ _).alloc (Nat.le_refl _) _
  have h1 : Below (w.alloc (.cells #[] 58)).heap.size (w.alloc (.cells #[] 58)) ((w.alloc (.cells #[] 58)).alloc (.cells #[.slice none 0 0, .slice none 0 0, .int .i64 0, .int .i64 0] 30)) := (Below.refl _ _).alloc (Nat.le_refl _) _
  have bR := bx_new (w := w.alloc (.cells #[] 58)) [.slice none 0 0, .slice none 0 0, .int .i64 0, .int .i64 0] 30 rfl
  have hB := stepA h0 h1
  rw [size_al] at bR
  clear h0 h1
  go_enter Tryd.func29, Tryd.ntmps29
  go_upto_region 1 with fail
  generalize (w.alloc (.cells #[] 58)).alloc (.cells #[.slice none 0 0, .slice none 0 0, .int .i64 0, .int .i64 0] 30) = w1 at *
  have y0 := bR.c0
  have y1 := bR.c1
  have y2 := bR.c2
  have y3 := bR.c3
  have f0 := bR.fz 0
  have f1 := bR.fz 1
  have f2 := bR.fz 2
  have f3 := bR.fz 3
  have yl := bR.lt
  have hO9 := ((((Only.refl (w.heap.size + 1) w1).set 0 (.slice none 0 0)).set 1 (.slice none 0 0)).set 2 (.int .i64 k)).set 3 (.int .i64 x)
  have rE := (((bR.set 0 (by simp) (.slice none 0 0)).set 1 (by simp) (.slice none 0 0)).set 2 (by simp) (.int .i64 k)).set 3 (by simp) (.int .i64 x)
  have hB9 := hB.trans (hO9.below.mono (Nat.le_succ _))
  clear hB hO9
  go_wp2
  refine ret_wrd Tryd.results29 rfl rE.c0 rE.c1 rE.c2 rE.c3 rfl ?_
  exact ⟨rfl, hB9⟩
/-- the wish that is being read, in block B, its lists from block b0 on -/
structure Rs (w : World) (B b0 : Nat) (s : WS) (ra : Option Addr) (rc : Nat) (aa : Option Addr) (ac : Nat) : Prop where
  lb : B < b0 ∧ b0 ≤ w.heap.size
  bx : Bx w B [.slice ra s.R.length rc, .slice aa s.A.length ac]
  r : OrS w b0 (.slice ra s.R.length rc) s.R
  a : OrS w b0 (.slice aa s.A.length ac) s.A
  ne : ∀ q, (Value.slice ra s.R.length rc).ownBlock = some q → (Value.slice aa s.A.length ac).ownBlock ≠ some q
theorem Rs.on {w w' : World} {B b0 : Nat} {s : WS} {ra aa : Option Addr} {rc ac : Nat} (h : Rs w B b0 s ra rc aa ac) (k : Below w.heap.size w w') : Rs w' B b0 s ra rc aa ac := ⟨⟨h.lb.1, Nat.le_trans h.lb.2 k.size⟩, h.bx.on k, h.r.on k, h.a.on k, h.ne⟩
section
variable {w5 w6 : World} {o : Obj} {B b0 : Nat} {s : WS} {ra aa : Option Addr} {rc ac : Nat} {v6 : Value} {t : ByteArray}
theorem Rs.app1 (h : Rs w5 B b0 s ra rc aa ac) (hp : s.p = 1) (ho : w6.ownsRow b0 9 1 v6 (s.R.length + 1) (s.R.map Value.string ++ [.string t])) (hg : (w5.alloc o).grownBy w6 (Value.slice ra s.R.length rc).ownBlock) (hat : v6.ownBlock = (Value.slice ra s.R.length rc).ownBlock ∨ v6.ownBlock = some (w5.alloc o).heap.size) :
    ∃ ya yc, v6 = .slice ya (s.R.length + 1) yc ∧ Bx w6 B [.slice ra s.R.length rc, .slice aa s.A.length ac] ∧ ∃ ra' rc' aa' ac', Rs (w6.setCell ⟨B, 0, none⟩ v6) B b0 (addW s t) ra' rc' aa' ac' := by
  obtain ⟨p, R, A⟩ := s
  simp only at hp ho hg hat ⊢
  subst hp
  have ho6 : OrS w6 b0 v6 (R ++ [t]) := by unfold OrS; rw [List.length_append, List.map_append]; exact ho
  obtain ⟨ya, yc, rfl⟩ := ho6.shape
  have hlen : (R ++ [t]).length = R.length + 1 := by simp
  rw [hlen] at ho6 ho hat
  have hbx := bx_grown h.bx hg (fun q hq => by have := (World.ownsRow.lt h.r q hq).1; have := h.lb.1; omega)
  have hoth := ors_grown h.a hg (fun q hq e => h.ne q e hq)
  have hO := (Only.refl B w6).set 0 (.slice ya (R.length + 1) yc)
  refine ⟨ya, yc, by rw [hlen], hbx, ya, yc, aa, ac, ?_⟩
  rw [hlen]
  have hne : ∀ q, (Value.slice ya (R.length + 1) yc).ownBlock = some q → (Value.slice aa A.length ac).ownBlock ≠ some q := fun q hq e => by
    rcases hat with h1 | h1
    · exact h.ne q (h1.symm.trans hq) e
    · rw [h1] at hq
      have h2 := Option.some.inj hq
      have := (World.ownsRow.lt h.a q e).2
      simp only [size_al] at h2
      omega
  have hn6 : OrS (w6.setCell ⟨B, 0, none⟩ (.slice ya (R.length + 1) yc)) b0 (.slice ya (R ++ [t]).length yc) (R ++ [t]) := by
    rw [hlen]
    exact ho6.same (fun q hq => hO.block q (by have := (World.ownsRow.lt ho6 q hq).1; have := h.lb.1; omega))
  have ho2 : OrS (w6.setCell ⟨B, 0, none⟩ (.slice ya (R.length + 1) yc)) b0 (.slice aa A.length ac) A := hoth.same (fun q hq => hO.block q (by have := (World.ownsRow.lt hoth q hq).1; have := h.lb.1; omega))
  have hlb : B < b0 ∧ b0 ≤ (w6.setCell ⟨B, 0, none⟩ (.slice ya (R.length + 1) yc)).heap.size := ⟨h.lb.1, by rw [size_set]; have := hg.size; have := h.lb.2; simp only [size_al] at *; omega⟩
  have hb2 := hbx.set 0 (by simp) (.slice ya (R.length + 1) yc)
  have hb3 : Bx (w6.setCell ⟨B, 0, none⟩ (.slice ya (R.length + 1) yc)) B [.slice ya (R ++ [t]).length yc, .slice aa A.length ac] := by rw [hlen]; exact hb2
  exact ⟨hlb, hb3, hn6, ho2, fun q hq => hne q (by rw [← hlen]; exact hq)⟩
theorem Rs.app2 (h : Rs w5 B b0 s ra rc aa ac) (hp : s.p = 2) (ho : w6.ownsRow b0 9 1 v6 (s.A.length + 1) (s.A.map Value.string ++ [.string t])) (hg : (w5.alloc o).grownBy w6 (Value.slice aa s.A.length ac).ownBlock) (hat : v6.ownBlock = (Value.slice aa s.A.length ac).ownBlock ∨ v6.ownBlock = some (w5.alloc o).heap.size) :
    ∃ ya yc, v6 = .slice ya (s.A.length + 1) yc ∧ Bx w6 B [.slice ra s.R.length rc, .slice aa s.A.length ac] ∧ ∃ ra' rc' aa' ac', Rs (w6.setCell ⟨B, 1, none⟩ v6) B b0 (addW s t) ra' rc' aa' ac' := by
  obtain ⟨p, R, A⟩ := s
  simp only at hp ho hg hat ⊢
  subst hp
  have ho6 : OrS w6 b0 v6 (A ++ [t]) := by unfold OrS; rw [List.length_append, List.map_append]; exact ho
  obtain ⟨ya, yc, rfl⟩ := ho6.shape
  have hlen : (A ++ [t]).length = A.length + 1 := by simp
  rw [hlen] at ho6 ho hat
  have hbx := bx_grown h.bx hg (fun q hq => by have := (World.ownsRow.lt h.a q hq).1; have := h.lb.1; omega)
  have hoth := ors_grown h.r hg (fun q hq e => h.ne q hq e)
  have hO := (Only.refl B w6).set 1 (.slice ya (A.length + 1) yc)
  refine ⟨ya, yc, by rw [hlen], hbx, ra, rc, ya, yc, ?_⟩
  rw [hlen]
  have hne : ∀ q, (Value.slice ya (A.length + 1) yc).ownBlock = some q → (Value.slice ra R.length rc).ownBlock ≠ some q := fun q hq e => by
    rcases hat with h1 | h1
    · exact h.ne q e (h1.symm.trans hq)
    · rw [h1] at hq
      have h2 := Option.some.inj hq
      have := (World.ownsRow.lt h.r q e).2
      simp only [size_al] at h2
      omega
  have hn6 : OrS (w6.setCell ⟨B, 1, none⟩ (.slice ya (A.length + 1) yc)) b0 (.slice ya (A ++ [t]).length yc) (A ++ [t]) := by
    rw [hlen]
    exact ho6.same (fun q hq => hO.block q (by have := (World.ownsRow.lt ho6 q hq).1; have := h.lb.1; omega))
  have ho2 : OrS (w6.setCell ⟨B, 1, none⟩ (.slice ya (A.length + 1) yc)) b0 (.slice ra R.length rc) R := hoth.same (fun q hq => hO.block q (by have := (World.ownsRow.lt hoth q hq).1; have := h.lb.1; omega))
  have hlb : B < b0 ∧ b0 ≤ (w6.setCell ⟨B, 1, none⟩ (.slice ya (A.length + 1) yc)).heap.size := ⟨h.lb.1, by rw [size_set]; have := hg.size; have := h.lb.2; simp only [size_al] at *; omega⟩
  have hb2 := hbx.set 1 (by simp) (.slice ya (A.length + 1) yc)
  have hb3 : Bx (w6.setCell ⟨B, 1, none⟩ (.slice ya (A.length + 1) yc)) B [.slice ra R.length rc, .slice ya (A ++ [t]).length yc] := by rw [hlen]; exact hb2
  exact ⟨hlb, hb3, ho2, hn6, fun q hq e => hne q (by rw [← hlen]; exact e) hq⟩
end
theorem many_word {s : WS} (h : WsOk s) {nx : Nat} (h1 : ¬ nx ≤ s.p) (h2 : 1 ≤ nx) (h3 : nx ≤ 2) : WS.many { s with p := nx } = 0 := by
  unfold WS.many WS.cur
  simp only
  rw [if_neg (by omega)]
  by_cases c : nx = 2
  · rw [if_pos c, h.a0 (by omega)]; rfl
  · rw [if_neg c, h.r0 (by omega)]; rfl
theorem many_add {s : WS} (h1 : s.p ≠ 0) (t : ByteArray) : (addW s t).many = s.many + 1 ∧ (addW s t).p = s.p := by
  unfold addW WS.many WS.cur
  by_cases c : s.p = 2
  · rw [if_pos c, if_neg (by simp only; omega), if_pos (by simp only; exact c), if_neg h1, if_pos c]
    exact ⟨by simp, rfl⟩
  · rw [if_neg c, if_neg (by simp only; omega), if_neg (by simp only; exact c), if_neg h1, if_neg c]
    exact ⟨by simp, rfl⟩
/-- what the model tells -/
def AnsSr (w' : World) (e : Ending) (r : Except (Nat × Int) WS) : Prop := ∃ ra rc aa ac, e = .returned (wrd ra (rdR r).length rc aa (rdA r).length ac (rdK r) (rdX r)) ∧ SL w' ra (rdR r).length (gS (rdR r)) ∧ SL w' aa (rdA r).length (gS (rdA r))
theorem ansSr_bad (w' : World) (k : Nat) (x : Int) : AnsSr w' (.returned (wrd none 0 0 none 0 0 (k : Int) x)) (.error (k, x)) := ⟨none, 0, none, 0, rfl, SL.none _ _, SL.none _ _⟩
set_option maxRecDepth 20000 in
set_option maxHeartbeats 8000000 in
theorem sr_long (s : ByteArray) (w : World) (hs : s.size ≤ 1048576) (h : 200 < s.size) :
    Calls Tryd.prog 11 #[.string s] w fun e w' => AnsSr w' e (rwV s) ∧ Below w.heap.size w w' := by
  have hj : (200 : Int) < (s.size : Int) := by omega
  have hV : rwV s = .error (5, 0) := by unfold rwV; rw [if_pos h]
  rw [hV]
  have hA : Below w.heap.size w (w.alloc (.cells #[.slice none 0 0, .slice none 0 0, .int .i64 0, .int .i64 0] 30)) := (Below.refl _ _).alloc (Nat.le_refl _) _
  have bR := bx_new (w := w) [.slice none 0 0, .slice none 0 0, .int .i64 0, .int .i64 0] 30 rfl
  have hA2 : Below (w.alloc (.cells #[.slice none 0 0, .slice none 0 0, .int .i64 0, .int .i64 0] 30)).heap.size (w.alloc (.cells #[.slice none 0 0, .slice none 0 0, .int .i64 0, .int .i64 0] 30)) ((w.alloc (.cells #[.slice none 0 0, .slice none 0 0, .int .i64 0, .int .i64 0] 30)).alloc (.cells #[] 58)) := (Below.refl _ _).alloc (Nat.le_refl _) _
  have bR2 := bR.on hA2
  have hB2 := hA.trans (hA2.mono hA.size)
  have hl2 : w.heap.size + 1 < ((w.alloc (.cells #[.slice none 0 0, .slice none 0 0, .int .i64 0, .int .i64 0] 30)).alloc (.cells #[] 58)).heap.size := by simp only [size_al]; omega
  clear hA bR hA2
  go_enter Tryd.func11, Tryd.ntmps11
  go_upto_region 2 with fail
  generalize (w.alloc (.cells #[.slice none 0 0, .slice none 0 0, .int .i64 0, .int .i64 0] 30)).alloc (.cells #[] 58) = w2 at *
  have kB := sBad 5 (0) w2
  go_wp2_with fail
  refine kB.mono ?_
  rintro e w9 ⟨rfl, hb9⟩
  have bR9 := bR2.on hb9
  have hW9 := (hB2).trans (hb9.mono (hB2).size)
  have y0 := bR9.c0
  have y1 := bR9.c1
  have y2 := bR9.c2
  have y3 := bR9.c3
  have f0 := bR9.fz 0
  have f1 := bR9.fz 1
  have f2 := bR9.fz 2
  have f3 := bR9.fz 3
  have yl := bR9.lt
  have hO9 := ((((Only.refl w.heap.size w9).set 0 (.slice none 0 0)).set 1 (.slice none 0 0)).set 2 (.int .i64 5)).set 3 (.int .i64 (0))
  have rE := (((bR9.set 0 (by simp) (.slice none 0 0)).set 1 (by simp) (.slice none 0 0)).set 2 (by simp) (.int .i64 5)).set 3 (by simp) (.int .i64 (0))
  have hB9 := hW9.trans hO9.below
  clear kB hb9 hW9 hO9 bR9
  go_wp2
  refine ret_wrd Tryd.results11 rfl rE.c0 rE.c1 rE.c2 rE.c3 rfl ?_
  exact ⟨ansSr_bad _ 5 (0), hB9⟩
end Go.Proofs.YtmlfijapndkfhaaDoor
