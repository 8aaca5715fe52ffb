/- What FnWin draws: a wish. -/
import Derived.Test.YtmlfijapndkfhaaDoorQFwDl
namespace Go.Proofs.YtmlfijapndkfhaaDoor
open Go.RowKit
/-- a return of a box out of its cells -/
theorem ret_wis {fn : Func} {t : Tmp} {R : Ending → World → Prop} {a : Act} {w : World} {b : Nat} {u v : Value} (h : fn.results = #[.cell t 25]) (hp : a.tmps.getD t undef = .pointer (some ⟨b, 0, none⟩)) (c0 : w.cell? ⟨b, 0, none⟩ = some u) (c1 : w.cell? ⟨b, 1, none⟩ = some v) (hd : a.defers = [])
    (hR : R (.returned (.agg #[u, v])) w) : bodyPost Tryd.prog fn R .ret a w := by
  refine bodyPost_ret ?_ hd hR
  have hp' : a.tmps[t]?.getD undef = .pointer (some ⟨b, 0, none⟩) := by simpa using hp
  simp [results, h, hp', asAddr, loadVar, go_sem, c0, c1]
theorem SL.same {w w' : World} {x : Option Addr} {n : Nat} {f : Nat → ByteArray} (h : SL w x n f) (hs : w.heap.size ≤ w'.heap.size) (hb : ∀ q, x = some q → q.block < w.heap.size → w'.heap[q.block]? = w.heap[q.block]?) : SL w' x n f := fun h0 => by
  obtain ⟨b, o, rfl, hl, hc⟩ := h h0
  have e := hb _ rfl hl
  exact ⟨b, o, rfl, Nat.lt_of_lt_of_le hl hs, fun i hi => (cell_same e _).trans (hc i hi)⟩
theorem SL.turns {w w' : World} {x : Option Addr} {n lo hi : Nat} {f : Nat → ByteArray} (h : SL w x n f) (k : Turns lo hi w w') (hb : ∀ q, x = some q → hi ≤ q.block) : SL w' x n f :=
  h.same k.size fun q hq hl => k.block _ hl (by have := hb q hq; omega)
theorem SL.far {w : World} {x : Option Addr} {n b k : Nat} {f : Nat → ByteArray} (h : SL w x n f) (v : Value) (hb : ∀ q, x = some q → b < q.block) : SL (w.setCell ⟨b, k, Option.none⟩ v) x n f :=
  h.same (by simp) fun q hq _ => ((Only.refl b w).set k v).block _ (by have := hb q hq; omega)
/-- some wish was drawn -/
def AnsWi (w w' : World) (e : Ending) (C : Nat) (a : Option Addr) (len cap n : Nat) : Prop := ∃ (ra : Option Addr) (rn rc : Nat) (re : Nat → ByteArray) (aa : Option Addr) (an ac : Nat) (av : Nat → ByteArray) (n' : Nat), e = .returned (wsv ra rn rc aa an ac) ∧ (rn ≤ 100 ∧ an ≤ 100 ∧ rn ≤ rc ∧ an ≤ ac) ∧ ((∀ i, i < rn → (re i).size ≤ 1000) ∧ ∀ i, i < an → (av i).size ≤ 1000) ∧ SL w' ra rn re ∧ SL w' aa an av ∧ n' ≤ n + 200 ∧ Cur w' C a len cap n' ∧ Turns C (C + 1) w w' ∧ (∀ q, ra = some q → w.heap.size ≤ q.block) ∧ (∀ q, aa = some q → w.heap.size ≤ q.block)
set_option maxRecDepth 20000 in
set_option maxHeartbeats 4000000 in
theorem wish_any (C : Nat) (a : Option Addr) (len cap n : Nat) (w : World) (h : Cur w C a len cap n) (hn : n ≤ 700000) :
    Calls Tryd.prog 15 #[.pointer (some ⟨C, 0, none⟩)] w fun e w' => AnsWi w w' e C a len cap n := by
  have hC := h.lt
  have hb0 : Below w.heap.size w (w.alloc (wsO none 0 0 none 0 0 25)) := (Below.refl _ _).alloc (Nat.le_refl _) _
  have r0 := bx_new (w := w) [.slice none 0 0, .slice none 0 0] 25 rfl
  have hc0 := h.below hb0 hC
  have t0 : Turns C (C + 1) w (w.alloc (wsO none 0 0 none 0 0 25)) := turns_of hb0
  have hs0 : (w.alloc (wsO none 0 0 none 0 0 25)).heap.size = w.heap.size + 1 := by simp
  go_enter Tryd.func15, Tryd.ntmps15
  go_wp2_with fail
  refine (names_any C a len cap n _ hc0 (by omega)).mono ?_
  rintro e w1 ⟨x1, c1, n1, l1, rfl, hl1, hcp1, hsm1, hS1, hq1, hn1, hc1, hT1⟩
  have hz1 := hT1.size
  have r1 := r0.turns hT1 (.inr (by omega))
  have t1 := t0.trans hT1
  clear hc0 r0 hT1 t0 h hb0
  generalize l1.length = k1 at *
  go_wp2_with fail
  refine (names_any C a len cap n1 _ hc1 (by omega)).mono ?_
  rintro e w2 ⟨x2, c2, n2, l2, rfl, hl2, hcp2, hsm2, hS2, hq2, hn2, hc2, hT2⟩
  have hz2 := hT2.size
  have r2 := r1.turns hT2 (.inr (by omega))
  have t2 := t1.trans hT2
  have hS1' := hS1.turns hT2 (fun q hq => by have := hq1 q hq; omega)
  clear hc1 r1 hT2 t1 hS1
  generalize l2.length = k2 at *
  have z0 := r2.c0
  have z1 := r2.c1
  have zf0 := r2.fz 0
  have zf1 := r2.fz 1
  have bE := (r2.set 0 (by simp) (.slice x1 k1 c1)).set 1 (by simp) (.slice x2 k2 c2)
  have hBE := ((Below.refl w.heap.size w2).setCell (p := ⟨w.heap.size, 0, none⟩) (Nat.le_refl _) (.slice x1 k1 c1)).setCell (p := ⟨w.heap.size, 1, none⟩) (Nat.le_refl _) (.slice x2 k2 c2)
  have tE := tn_below t2 hBE (Nat.le_refl _)
  have hcE := hc2.below hBE hC
  have e1 := (hS1'.far (b := w.heap.size) (k := 0) (.slice x1 k1 c1) (fun q hq => by have := hq1 q hq; omega)).far (b := w.heap.size) (k := 1) (.slice x2 k2 c2) (fun q hq => by have := hq1 q hq; omega)
  have e2 := (hS2.far (b := w.heap.size) (k := 0) (.slice x1 k1 c1) (fun q hq => by have := hq2 q hq; omega)).far (b := w.heap.size) (k := 1) (.slice x2 k2 c2) (fun q hq => by have := hq2 q hq; omega)
  clear hc2 t2 hBE hS1' hS2 r2
  go_wp2_with fail
  refine ret_wis Tryd.results15 rfl bE.c0 bE.c1 rfl ?_
  exact ⟨x1, k1, c1, _, x2, k2, c2, _, n2, rfl, ⟨hl1, hl2, hcp1, hcp2⟩, ⟨hsm1, hsm2⟩, e1, e2, by omega, hcE, tE, (fun q hq => by have := hq1 q hq; omega), fun q hq => by have := hq2 q hq; omega⟩
end Go.Proofs.YtmlfijapndkfhaaDoor
