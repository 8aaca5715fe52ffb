/- What FnWin draws, the board's own contract a premise. -/
import Derived.Test.YtapodfkoknmhdaaDoorQWhDrV
import Derived.Test.YtapodfkoknmhdaaDoorQCurNew
namespace Go.Proofs.YtapodfkoknmhdaaDoor
open Go.RowKit
theorem ret_bw {fn : Func} {t t2 : Tmp} {R : Ending → World → Prop} {a : Act} {w : World} {b b2 : Nat} {u v x y z : Value} (h : fn.results = #[.cell t 38, .cell t2 25]) (hp : a.tmps.getD t undef = .pointer (some ⟨b, 0, none⟩)) (hp2 : a.tmps.getD t2 undef = .pointer (some ⟨b2, 0, none⟩)) (c0 : w.cell? ⟨b, 0, none⟩ = some u) (c1 : w.cell? ⟨b, 1, none⟩ = some v) (c2 : w.cell? ⟨b, 2, none⟩ = some x) (d0 : w.cell? ⟨b2, 0, none⟩ = some y) (d1 : w.cell? ⟨b2, 1, none⟩ = some z) (hd : a.defers = [])
    (hR : R (.returned (.tuple #[.agg #[u, v, x], .agg #[y, z]])) w) : bodyPost Tryd.prog fn R .ret a w := by
  refine bodyPost_ret ?_ hd hR
  have hp' : a.tmps[t]?.getD undef = .pointer (some ⟨b, 0, none⟩) := by simpa using hp
  have hp2' : a.tmps[t2]?.getD undef = .pointer (some ⟨b2, 0, none⟩) := by simpa using hp2
  simp [results, h, hp', hp2', asAddr, loadVar, go_sem, c0, c1, c2, d0, d1]
/-- a board and a wish that lie from the call's own start on -/
def AnsDf (w w' : World) (e : Ending) : Prop := ∃ (a : Option Addr) (n c : Nat) (b : Option Addr) (m d : Nat) (x : Option Addr) (p q : Nat) (f : Nat → ByteArray) (g : Nat → Bool) (K : Nat → Nat) (R : Nat → Nat → Int) (ra : Option Addr) (rn rc : Nat) (re : Nat → ByteArray) (aa : Option Addr) (an ac : Nat) (av : Nat → ByteArray),
  e = .returned (.tuple #[bdv a n c b m d x p q, wsv ra rn rc aa an ac]) ∧ (n ≤ 1048576 ∧ m ≤ 1048576 ∧ p ≤ 1048576 ∧ rn ≤ 1048576 ∧ an ≤ 1048576 ∧ rn ≤ rc ∧ an ≤ ac) ∧ ((∀ i, i < n → (f i).size ≤ 1048576) ∧ (∀ i, i < p → K i ≤ 1048576) ∧ (∀ i, i < rn → (re i).size ≤ 1048576) ∧ (∀ i, i < an → (av i).size ≤ 1048576)) ∧ BF w' w.heap.size a n f b m g x p K R ∧ SL w' ra rn re ∧ SL w' aa an av ∧ (From w.heap.size ra ∧ From w.heap.size aa) ∧ Below w.heap.size w w'
set_option maxRecDepth 20000 in
set_option maxHeartbeats 4000000 in
theorem drawWin (a : Option Addr) (len cap : Nat) (w : World) (hl : len ≤ 1048576) (hb : 0 < len → ∃ b off, a = some ⟨b, off, none⟩ ∧ b < w.heap.size ∧ ∀ i, i < len → ∃ v : Int, w.cell? ⟨b, off + i, none⟩ = some (.int .u8 v) ∧ 0 ≤ v ∧ v ≤ 255)
    (hBo : ∀ C n w2, Cur w2 C a len cap n → n ≤ 1000 → Calls Tryd.prog 99 #[.pointer (some ⟨C, 0, none⟩)] w2 fun e w' => AnsBo w2 w' e C a len cap n) :
    Calls Tryd.prog 54 #[.slice a len cap] w fun e w' => AnsDf w w' e := by
  obtain ⟨W0, hW0⟩ : ∃ W0, W0 = (w.alloc (bdO none 0 0 none 0 0 none 0 0 38)).alloc (wsO none 0 0 none 0 0 25) := ⟨_, rfl⟩
  have hb0 : Below w.heap.size w W0 := by rw [hW0]; exact ((Below.refl _ _).alloc (Nat.le_refl _) _).alloc (by simp) _
  have rA : Bx W0 w.heap.size (bdL none 0 0 none 0 0 none 0 0) := by rw [hW0]; exact (bx_new (w := w) (bdL none 0 0 none 0 0 none 0 0) 38 rfl).alloc _
  have rW : Bx W0 (w.heap.size + 1) [.slice none 0 0, .slice none 0 0] := by rw [hW0]; exact bx_new (w := w.alloc (bdO none 0 0 none 0 0 none 0 0 38)) (b := w.heap.size + 1) [.slice none 0 0, .slice none 0 0] 25 (by simp)
  have hs0 : W0.heap.size = w.heap.size + 2 := by rw [hW0]; simp
  have hb' : 0 < len → ∃ b off, a = some ⟨b, off, none⟩ ∧ b < W0.heap.size ∧ ∀ i, i < len → ∃ v : Int, W0.cell? ⟨b, off + i, none⟩ = some (.int .u8 v) ∧ 0 ≤ v ∧ v ≤ 255 := fun h0 => by
    obtain ⟨b, off, ha, hbw, hc⟩ := hb h0
    refine ⟨b, off, ha, by omega, fun i hi => ?_⟩
    obtain ⟨v, hv, hv1⟩ := hc i hi
    exact ⟨v, (hb0.cell (p := ⟨b, _, none⟩) hbw).trans hv, hv1⟩
  have hc0 := cur_new W0 a len cap hl hb'
  have hbC : Below W0.heap.size W0 (W0.alloc (.cells #[.slice a len cap, .int .i64 0, .int .u64 0] 70)) := (Below.refl _ _).alloc (Nat.le_refl _) _
  have sA := rA.on hbC
  have sW := rW.on hbC
  have hBc := stepA hb0 hbC
  have hsC : (W0.alloc (.cells #[.slice a len cap, .int .i64 0, .int .u64 0] 70)).heap.size = w.heap.size + 3 := by simp; omega
  rw [hs0] at hc0
  have k1 := hBo (w.heap.size + 2) 0 _ hc0 (by omega)
  rw [hW0] at k1 hc0 sA sW hBc hsC
  clear hb hb' hb0 rA rW hbC hBo hc0 hs0 hW0
  go_enter Tryd.func54, Tryd.ntmps54
  go_wp2_with fail
  refine k1.mono ?_
  rintro e w1 ⟨x1, n1, c1, x2, n2, c2, x3, n3, c3, f, g, K, R, m1, rfl, ⟨h1, h2, h3⟩, ⟨hf, hK⟩, hF1, hm1, hc1, hT1⟩
  have hz1 := hT1.size
  have tA := sA.turns hT1 (.inl (by omega))
  have tW := sW.turns hT1 (.inl (by omega))
  have hB1 := hBc.trans (hT1.below (B := w.heap.size) (by omega) (by omega))
  rw [hsC] at hF1 hz1
  clear k1 sA sW hBc hT1 hsC
  go_wp2_with fail
  refine (wish_any (w.heap.size + 2) a len cap m1 _ hc1 (by omega)).mono ?_
  rintro e w2 ⟨ra, rn, rc, re, aa, an, ac, av, m2, rfl, ⟨g1, g2, g3, g4⟩, ⟨hre, hav⟩, hS1, hS2, hm2, hc2, hT2, q1, q2⟩
  have hz2 := hT2.size
  have uA := tA.turns hT2 (.inl (by omega))
  have uW := tW.turns hT2 (.inl (by omega))
  have hB2 := hB1.trans (hT2.below (B := w.heap.size) (by omega) (by omega))
  have hF2 := hF1.turns hT2 (by omega)
  clear tA tW hB1 hF1 hT2 hc1 hc2
  have z0 := uA.c0
  have z1 := uA.c1
  have z2 := uA.c2
  have zf0 := uA.fz 0
  have zf1 := uA.fz 1
  have zf2 := uA.fz 2
  have y0 := uW.c0
  have y1 := uW.c1
  have yf0 := uW.fz 0
  have yf1 := uW.fz 1
  have bA := ((((uA.set 0 (by simp [bdL]) (.slice x1 n1 c1)).set 1 (by simp [bdL]) (.slice x2 n2 c2)).set 2 (by simp [bdL]) (.slice x3 n3 c3)).far (b' := w.heap.size + 1) (k := 0) (.slice ra rn rc) (by omega)).far (b' := w.heap.size + 1) (k := 1) (.slice aa an ac) (by omega)
  have bW := ((((uW.far (b' := w.heap.size) (k := 0) (.slice x1 n1 c1) (by omega)).far (b' := w.heap.size) (k := 1) (.slice x2 n2 c2) (by omega)).far (b' := w.heap.size) (k := 2) (.slice x3 n3 c3) (by omega)).set 0 (by simp) (.slice ra rn rc)).set 1 (by simp) (.slice aa an ac)
  have hBE := ((((hB2.setCell (p := ⟨w.heap.size, 0, none⟩) (Nat.le_refl _) (.slice x1 n1 c1)).setCell (p := ⟨w.heap.size, 1, none⟩) (Nat.le_refl _) (.slice x2 n2 c2)).setCell (p := ⟨w.heap.size, 2, none⟩) (Nat.le_refl _) (.slice x3 n3 c3)).setCell (p := ⟨w.heap.size + 1, 0, none⟩) (Nat.le_succ _) (.slice ra rn rc)).setCell (p := ⟨w.heap.size + 1, 1, none⟩) (Nat.le_succ _) (.slice aa an ac)
  have hFE := ((((hF2.far (B := w.heap.size) (k := 0) (by omega) (.slice x1 n1 c1)).far (B := w.heap.size) (k := 1) (by omega) (.slice x2 n2 c2)).far (B := w.heap.size) (k := 2) (by omega) (.slice x3 n3 c3)).far (B := w.heap.size + 1) (k := 0) (by omega) (.slice ra rn rc)).far (B := w.heap.size + 1) (k := 1) (by omega) (.slice aa an ac)
  have e1 := ((((hS1.far (b := w.heap.size) (k := 0) (.slice x1 n1 c1) (fun q hq => by have := q1 q hq; omega)).far (b := w.heap.size) (k := 1) (.slice x2 n2 c2) (fun q hq => by have := q1 q hq; omega)).far (b := w.heap.size) (k := 2) (.slice x3 n3 c3) (fun q hq => by have := q1 q hq; omega)).far (b := w.heap.size + 1) (k := 0) (.slice ra rn rc) (fun q hq => by have := q1 q hq; omega)).far (b := w.heap.size + 1) (k := 1) (.slice aa an ac) (fun q hq => by have := q1 q hq; omega)
  have e2 := ((((hS2.far (b := w.heap.size) (k := 0) (.slice x1 n1 c1) (fun q hq => by have := q2 q hq; omega)).far (b := w.heap.size) (k := 1) (.slice x2 n2 c2) (fun q hq => by have := q2 q hq; omega)).far (b := w.heap.size) (k := 2) (.slice x3 n3 c3) (fun q hq => by have := q2 q hq; omega)).far (b := w.heap.size + 1) (k := 0) (.slice ra rn rc) (fun q hq => by have := q2 q hq; omega)).far (b := w.heap.size + 1) (k := 1) (.slice aa an ac) (fun q hq => by have := q2 q hq; omega)
  clear hF2 hS1 hS2 hB2 uA uW
  go_wp2_with fail
  refine ret_bw Tryd.results54 rfl rfl bA.c0 bA.c1 bA.c2 bW.c0 bW.c1 rfl ?_
  exact ⟨x1, n1, c1, x2, n2, c2, x3, n3, c3, f, g, K, R, ra, rn, rc, re, aa, an, ac, av, rfl, ⟨by omega, by omega, by omega, by omega, by omega, g3, g4⟩, ⟨fun i hi => by have := hf i hi; omega, fun i hi => by have := hK i hi; omega, fun i hi => by have := hre i hi; omega, fun i hi => by have := hav i hi; omega⟩, hFE.mono (by omega), e1, e2, ⟨fun q hq => by have := q1 q hq; omega, fun q hq => by have := q2 q hq; omega⟩, hBE⟩
set_option maxRecDepth 20000 in
set_option maxHeartbeats 4000000 in
theorem drawStr (a : Option Addr) (len cap : Nat) (w : World)
    (hW : ∀ w2, Below w.heap.size w w2 → Calls Tryd.prog 54 #[.slice a len cap] w2 fun e w' => AnsDf w2 w' e) :
    Calls Tryd.prog 15 #[.slice a len cap] w fun e w' => AnsDb w w' e := by
  obtain ⟨W0, hW0⟩ : ∃ W0, W0 = (w.alloc (bdO none 0 0 none 0 0 none 0 0 38)).alloc (wsO none 0 0 none 0 0 25) := ⟨_, rfl⟩
  have hb0 : Below w.heap.size w W0 := by rw [hW0]; exact ((Below.refl _ _).alloc (Nat.le_refl _) _).alloc (by simp) _
  have rA : Bx W0 w.heap.size (bdL none 0 0 none 0 0 none 0 0) := by rw [hW0]; exact (bx_new (w := w) (bdL none 0 0 none 0 0 none 0 0) 38 rfl).alloc _
  have rW : Bx W0 (w.heap.size + 1) [.slice none 0 0, .slice none 0 0] := by rw [hW0]; exact bx_new (w := w.alloc (bdO none 0 0 none 0 0 none 0 0 38)) (b := w.heap.size + 1) [.slice none 0 0, .slice none 0 0] 25 (by simp)
  have hs0 : W0.heap.size = w.heap.size + 2 := by rw [hW0]; simp
  have k1 := hW W0 hb0
  rw [hW0] at k1 hb0 rA rW hs0
  clear hW hW0
  go_enter Tryd.func15, Tryd.ntmps15
  go_wp2_with fail
  refine k1.mono ?_
  rintro e w2 ⟨x1, n1, c1, x2, n2, c2, x3, n3, c3, f, g, K, R, ra, rn, rc, re, aa, an, ac, av, rfl, hbd, hsm, hF2, hS1, hS2, ⟨q1, q2⟩, hb2⟩
  have uA := rA.on hb2
  have uW := rW.on hb2
  have hB2 := stepA hb0 hb2
  rw [hs0] at hF2 q1 q2
  clear k1 rA rW hb0 hb2 hs0
  have z0 := uA.c0
  have z1 := uA.c1
  have z2 := uA.c2
  have zf0 := uA.fz 0
  have zf1 := uA.fz 1
  have zf2 := uA.fz 2
  have y0 := uW.c0
  have y1 := uW.c1
  have yf0 := uW.fz 0
  have yf1 := uW.fz 1
  have bA := ((((uA.set 0 (by simp [bdL]) (.slice x1 n1 c1)).set 1 (by simp [bdL]) (.slice x2 n2 c2)).set 2 (by simp [bdL]) (.slice x3 n3 c3)).far (b' := w.heap.size + 1) (k := 0) (.slice ra rn rc) (by omega)).far (b' := w.heap.size + 1) (k := 1) (.slice aa an ac) (by omega)
  have bW := ((((uW.far (b' := w.heap.size) (k := 0) (.slice x1 n1 c1) (by omega)).far (b' := w.heap.size) (k := 1) (.slice x2 n2 c2) (by omega)).far (b' := w.heap.size) (k := 2) (.slice x3 n3 c3) (by omega)).set 0 (by simp) (.slice ra rn rc)).set 1 (by simp) (.slice aa an ac)
  have hBE := ((((hB2.setCell (p := ⟨w.heap.size, 0, none⟩) (Nat.le_refl _) (.slice x1 n1 c1)).setCell (p := ⟨w.heap.size, 1, none⟩) (Nat.le_refl _) (.slice x2 n2 c2)).setCell (p := ⟨w.heap.size, 2, none⟩) (Nat.le_refl _) (.slice x3 n3 c3)).setCell (p := ⟨w.heap.size + 1, 0, none⟩) (Nat.le_succ _) (.slice ra rn rc)).setCell (p := ⟨w.heap.size + 1, 1, none⟩) (Nat.le_succ _) (.slice aa an ac)
  have hFE := ((((hF2.far (B := w.heap.size) (k := 0) (by omega) (.slice x1 n1 c1)).far (B := w.heap.size) (k := 1) (by omega) (.slice x2 n2 c2)).far (B := w.heap.size) (k := 2) (by omega) (.slice x3 n3 c3)).far (B := w.heap.size + 1) (k := 0) (by omega) (.slice ra rn rc)).far (B := w.heap.size + 1) (k := 1) (by omega) (.slice aa an ac)
  have e1 := ((((hS1.far (b := w.heap.size) (k := 0) (.slice x1 n1 c1) (fun q hq => by have := q1 q hq; omega)).far (b := w.heap.size) (k := 1) (.slice x2 n2 c2) (fun q hq => by have := q1 q hq; omega)).far (b := w.heap.size) (k := 2) (.slice x3 n3 c3) (fun q hq => by have := q1 q hq; omega)).far (b := w.heap.size + 1) (k := 0) (.slice ra rn rc) (fun q hq => by have := q1 q hq; omega)).far (b := w.heap.size + 1) (k := 1) (.slice aa an ac) (fun q hq => by have := q1 q hq; omega)
  have e2 := ((((hS2.far (b := w.heap.size) (k := 0) (.slice x1 n1 c1) (fun q hq => by have := q2 q hq; omega)).far (b := w.heap.size) (k := 1) (.slice x2 n2 c2) (fun q hq => by have := q2 q hq; omega)).far (b := w.heap.size) (k := 2) (.slice x3 n3 c3) (fun q hq => by have := q2 q hq; omega)).far (b := w.heap.size + 1) (k := 0) (.slice ra rn rc) (fun q hq => by have := q2 q hq; omega)).far (b := w.heap.size + 1) (k := 1) (.slice aa an ac) (fun q hq => by have := q2 q hq; omega)
  clear hF2 hS1 hS2 hB2 uA uW
  go_wp2_with fail
  refine ret_bw Tryd.results15 rfl rfl bA.c0 bA.c1 bA.c2 bW.c0 bW.c1 rfl ?_
  exact ⟨x1, n1, c1, x2, n2, c2, x3, n3, c3, f, g, K, R, ra, rn, rc, re, aa, an, ac, av, rfl, hbd, hsm, hFE.bd, e1, e2, hBE⟩
end Go.Proofs.YtapodfkoknmhdaaDoor
