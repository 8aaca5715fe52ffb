/- ReadWish of the program. -/
import Derived.Test.YtmlfijapndkfhaaDoorQReRw
import Derived.Deep.RegionHeld3
namespace Go.Proofs.YtmlfijapndkfhaaDoor
open Go.RowKit
theorem rw_any (s : ByteArray) (a : Nat → Addr) (w : World) (hS : Se w a) (hT : U8 w) :
    Calls Tryd.prog 22 #[.string s] w fun e w' => AnsRd w w' e a (rwV s) ∧ Below w.heap.size w w' := by
  by_cases h : 200 < s.size
  · exact rw_long s a w hS h
  · exact rw_short s a w hS hT (by omega)
theorem Bx.c3 {w : World} {b : Nat} {s t u v : Value} {l : List Value} (h : Bx w b (s :: t :: u :: v :: l)) : w.cell? ⟨b, 3, none⟩ = some v := h.c 3 (by simp)
/-- a wish as it was read -/
abbrev wrd (ra : Option Addr) (rn rc : Nat) (aa : Option Addr) (an ac : Nat) (k x : Int) : Value := .agg #[.slice ra rn rc, .slice aa an ac, .int .i64 k, .int .i64 x]
theorem ret_wrd {fn : Func} {t : Tmp} {R : Ending → World → Prop} {a : Act} {w : World} {b : Nat} {u v x y : Value} (h : fn.results = #[.cell t 30]) (hp : a.tmps.getD t undef = .pointer (some ⟨b, 0, none⟩)) (c0 : w.cell? ⟨b, 0, none⟩ = some u) (c1 : w.cell? ⟨b, 1, none⟩ = some v) (c2 : w.cell? ⟨b, 2, none⟩ = some x) (c3 : w.cell? ⟨b, 3, none⟩ = some y) (hd : a.defers = [])
    (hR : R (.returned (.agg #[u, v, x, y])) w) : bodyPost Tryd.prog fn R .ret a w := by
  refine bodyPost_ret ?_ hd hR
  have hp' : a.tmps[t]?.getD undef = .pointer (some ⟨b, 0, none⟩) := by simpa using hp
  simp [results, h, hp', asAddr, loadVar, go_sem, c0, c1, c2, c3]
/-- what ReadWish tells, its lists its own -/
def AnsWr (w w' : World) (e : Ending) (r : Except (Nat × Int) WS) : Prop :=
  match r with
  | .error (k, x) => e = .returned (wrd none 0 0 none 0 0 (k : Int) x)
  | .ok s' => ∃ ra rc aa ac, e = .returned (wrd ra s'.R.length rc aa s'.A.length ac 0 0) ∧ (OrS w' w.heap.size (.slice ra s'.R.length rc) s'.R ∧ OrS w' w.heap.size (.slice aa s'.A.length ac) s'.A) ∧ WsOk s' ∧ ∀ q, (Value.slice ra s'.R.length rc).ownBlock = some q → (Value.slice aa s'.A.length ac).ownBlock ≠ some q
set_option maxRecDepth 20000 in
set_option maxHeartbeats 4000000 in
theorem iRead (s : ByteArray) (a : Nat → Addr) (w : World) (hS : Se w a) (hT : U8 w) :
    Calls Tryd.prog 8 #[.string s] w fun e w' => AnsWr w w' e (rwV s) ∧ Below w.heap.size w w' := by
  have hA : Below w.heap.size w (w.alloc (.cells #[.slice none 0 0, .slice none 0 0, .int .i64 0, .int .i64 0] 30)) := (Below.refl _ _).alloc (Nat.le_refl _) _
  have bR := bx_new (w := w) [.slice none 0 0, .slice none 0 0, .int .i64 0, .int .i64 0] 30 rfl
  have hS1 := hS.on hA
  have hT1 := hT.below hA
  obtain ⟨r, hr⟩ : ∃ r, rwV s = r := ⟨_, rfl⟩
  rw [hr]
  go_enter Tryd.func8, Tryd.ntmps8
  go_upto_region 1 with fail
  generalize w.alloc (.cells #[.slice none 0 0, .slice none 0 0, .int .i64 0, .int .i64 0] 30) = w1 at *
  have k1 := rw_any s a w1 hS1 hT1
  rw [hr] at k1
  clear hr
  go_wp2_with fail
  refine k1.mono ?_
  rintro e w2 ⟨hQ, hb2⟩
  have bR2 := bR.on hb2
  have hS2 := hS1.on hb2
  have hB2 := hA.trans (hb2.mono hA.size)
  have hl1 := bR.lt
  clear k1 bR hS1 hT1 hA hb2
  rcases r with ⟨k, x⟩ | s'
  · obtain ⟨rfl, hk1, hk5⟩ := hQ
    have hA3 : Below w2.heap.size w2 (w2.alloc (.cells #[.slice none 0 0, .slice none 0 0] 25)) := (Below.refl _ _).alloc (Nat.le_refl _) _
    have z := bx_new (w := w2) [.slice none 0 0, .slice none 0 0] 25 rfl
    have bR3 := bR2.on hA3
    have hS3 := hS2.on hA3
    have hB3 := hB2.trans (hA3.mono hB2.size)
    have hn2 : w2.heap.size ≠ w.heap.size := by have := bR2.lt; omega
    clear bR2 hS2 hB2 hA3
    go_upto_region 2 with fail
    generalize w2.alloc (.cells #[.slice none 0 0, .slice none 0 0] 25) = wb at *
    have hw0 := Below.refl wb.heap.size wb
    go_region_held3 (fun w' => w'.cell? ⟨w2.heap.size, 0, none⟩ = some (.slice none 0 0) ∧ w'.cell? ⟨w2.heap.size, 1, none⟩ = some (.slice none 0 0))
      (first | (exact ⟨(z.on hw0.drew).c0, (z.on hw0.drew).c1⟩) | (exact ⟨(cell_same (hO9.block w2.heap.size hn2) 0).trans (z.on hw4).c0, (cell_same (hO9.block w2.heap.size hn2) 1).trans (z.on hw4).c1⟩) | (exact ⟨(z.on hw4).c0, (z.on hw4).c1⟩) | (exact ⟨(z.on hw3).c0, (z.on hw3).c1⟩) | (fail))
      (first | (go_at_call 23; refine (code_at x k hk1 hk5 a _ (hS3.on hw0.drew)).mono ?_; rintro e w3 ⟨rfl, hb3⟩; have hw3 := stepA hw0.drew hb3; clear hb3) | (go_at_call 24; refine (fault_at x (a k) a _ (hS3.on hw3)).mono ?_; rintro e w4 ⟨rfl, hb4⟩; have hw4 := stepA hw3 hb4; clear hb4; have y0 := (bR3.on hw4).c0; have y1 := (bR3.on hw4).c1; have y2 := (bR3.on hw4).c2; have y3 := (bR3.on hw4).c3; have f0 := (bR3.on hw4).fz 0; have f1 := (bR3.on hw4).fz 1; have f2 := (bR3.on hw4).fz 2; have f3 := (bR3.on hw4).fz 3; have yl := (bR3.on hw4).lt; have hO9 := ((((Only.refl w.heap.size w4).set 0 (.slice none 0 0)).set 1 (.slice none 0 0)).set 2 (.int .i64 (k : Int))).set 3 (.int .i64 x)) | (fail))
    have rE := ((((bR3.on hw4).set 0 (by simp) (.slice none 0 0)).set 1 (by simp) (.slice none 0 0)).set 2 (by simp) (.int .i64 (k : Int))).set 3 (by simp) (.int .i64 x)
    have hB4 := hB3.trans (hw4.mono hB3.size)
    have hB9 := hB4.trans hO9.below
    clear y0 y1 y2 y3 f0 f1 f2 f3 yl hB4 hB3
    go_wp2
    refine ret_wrd Tryd.results8 rfl rE.c0 rE.c1 rE.c2 rE.c3 rfl ?_
    exact ⟨rfl, hB9⟩
  · obtain ⟨ra, rc, aa, ac, rfl, ⟨hr, ha⟩, hok, hne⟩ := hQ
    have hA3 : Below w2.heap.size w2 (w2.alloc (.cells #[.slice ra s'.R.length rc, .slice aa s'.A.length ac] 25)) := (Below.refl _ _).alloc (Nat.le_refl _) _
    have z := bx_new (w := w2) [.slice ra s'.R.length rc, .slice aa s'.A.length ac] 25 rfl
    have bR3 := bR2.on hA3
    have hS3 := hS2.on hA3
    have hB3 := hB2.trans (hA3.mono hB2.size)
    have hn2 : w2.heap.size ≠ w.heap.size := by have := bR2.lt; omega
    have hr3 := hr.on hA3
    have ha3 := ha.on hA3
    clear bR2 hS2 hB2 hA3
    go_upto_region 2 with fail
    generalize w2.alloc (.cells #[.slice ra s'.R.length rc, .slice aa s'.A.length ac] 25) = wb at *
    have hw0 := Below.refl wb.heap.size wb
    go_region_held3 (fun w' => w'.cell? ⟨w2.heap.size, 0, none⟩ = some (.slice ra s'.R.length rc) ∧ w'.cell? ⟨w2.heap.size, 1, none⟩ = some (.slice aa s'.A.length ac))
      (first | (exact ⟨(z.on hw0.drew).c0, (z.on hw0.drew).c1⟩) | (exact ⟨(cell_same (hO9.block w2.heap.size hn2) 0).trans (z.on hw4).c0, (cell_same (hO9.block w2.heap.size hn2) 1).trans (z.on hw4).c1⟩) | (exact ⟨(z.on hw4).c0, (z.on hw4).c1⟩) | (exact ⟨(z.on hw3).c0, (z.on hw3).c1⟩) | (fail))
      (first | (go_at_call 23; refine (code_nil a _ (hS3.on hw0.drew)).mono ?_; rintro e w3 ⟨rfl, hb3⟩; have hw3 := stepA hw0.drew hb3; clear hb3) | (go_at_call 24; refine (fault_nil _).mono ?_; rintro e w4 ⟨rfl, hb4⟩; have hw4 := stepA hw3 hb4; clear hb4; have y0 := (bR3.on hw4).c0; have y1 := (bR3.on hw4).c1; have y2 := (bR3.on hw4).c2; have y3 := (bR3.on hw4).c3; have f0 := (bR3.on hw4).fz 0; have f1 := (bR3.on hw4).fz 1; have f2 := (bR3.on hw4).fz 2; have f3 := (bR3.on hw4).fz 3; have yl := (bR3.on hw4).lt; have hO9 := ((((Only.refl w.heap.size w4).set 0 (.slice ra s'.R.length rc)).set 1 (.slice aa s'.A.length ac)).set 2 (.int .i64 0)).set 3 (.int .i64 0)) | (fail))
    have rE := ((((bR3.on hw4).set 0 (by simp) (.slice ra s'.R.length rc)).set 1 (by simp) (.slice aa s'.A.length ac)).set 2 (by simp) (.int .i64 0)).set 3 (by simp) (.int .i64 0)
    have hB4 := hB3.trans (hw4.mono hB3.size)
    have hB9 := hB4.trans hO9.below
    have hr9 := ((hr3.on hw4).same (fun q hq => hO9.block q (by have := (World.ownsRow.lt (hr3.on hw4) q hq).1; omega))).low (base' := w.heap.size) (Nat.le_of_lt hl1)
    have ha9 := ((ha3.on hw4).same (fun q hq => hO9.block q (by have := (World.ownsRow.lt (ha3.on hw4) q hq).1; omega))).low (base' := w.heap.size) (Nat.le_of_lt hl1)
    clear y0 y1 y2 y3 f0 f1 f2 f3 yl hB4 hB3
    go_wp2
    refine ret_wrd Tryd.results8 rfl rE.c0 rE.c1 rE.c2 rE.c3 rfl ?_
    exact ⟨⟨_, _, _, _, rfl, ⟨hr9, ha9⟩, hok, hne⟩, hB9⟩
end Go.Proofs.YtmlfijapndkfhaaDoor
