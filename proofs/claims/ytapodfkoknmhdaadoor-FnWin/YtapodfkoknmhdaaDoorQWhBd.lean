/- Boards: the law's own copies of them, compared, their sizes (tools/gen_whbd.py). -/
import Derived.Test.YtapodfkoknmhdaaDoorQWhWish
import Derived.Test.YtapodfkoknmhdaaDoorQChRkC
namespace Go.Proofs.YtapodfkoknmhdaaDoor
open Go.RowKit

/-- a board as a value -/
abbrev bdv (a : Option Addr) (n c : Nat) (b : Option Addr) (m d : Nat) (x : Option Addr) (k q : Nat) : Value := .agg #[.slice a n c, .slice b m d, .slice x k q]
abbrev bdL (a : Option Addr) (n c : Nat) (b : Option Addr) (m d : Nat) (x : Option Addr) (k q : Nat) : List Value := [.slice a n c, .slice b m d, .slice x k q]
abbrev bdO (a : Option Addr) (n c : Nat) (b : Option Addr) (m d : Nat) (x : Option Addr) (k q : Nat) (t : TypeId) : Obj := .cells #[.slice a n c, .slice b m d, .slice x k q] t
/-- what lies in the lists of a board -/
structure BD (w : World) (a : Option Addr) (n : Nat) (f : Nat → ByteArray) (b : Option Addr) (m : Nat) (g : Nat → Bool) (x : Option Addr) (k : Nat) (K : Nat → Nat) (R : Nat → Nat → Int) : Prop where
  nm : SL w a n f
  mi : BoL w b m g
  nx : RR w x k K R
section
variable {w w' : World} {a b x : Option Addr} {n m k : Nat} {f : Nat → ByteArray} {g : Nat → Bool} {K : Nat → Nat} {R : Nat → Nat → Int}
theorem BD.below (h : BD w a n f b m g x k K R) (hb : Below w.heap.size w w') : BD w' a n f b m g x k K R := ⟨h.nm.below hb, h.mi.below hb, h.nx.below hb⟩
theorem BD.on (h : BD w a n f b m g x k K R) (hb : Below w.heap.size w w') : BD w' a n f b m g x k K R := h.below hb
theorem BD.alloc (h : BD w a n f b m g x k K R) (o : Obj) : BD (w.alloc o) a n f b m g x k K R := h.below ((Below.refl w.heap.size w).alloc (Nat.le_refl _) o)
end
/-- .. all of it between lo and hi, the call's own -/
def BP (w : World) (lo hi : Nat) (a : Option Addr) (n : Nat) (f : Nat → ByteArray) (b : Option Addr) (m : Nat) (g : Nat → Bool) (x : Option Addr) (k : Nat) (K : Nat → Nat) (R : Nat → Nat → Int) : Prop :=
  ∃ p1 p2, lo ≤ p1 ∧ p1 ≤ p2 ∧ p2 ≤ hi ∧ VQ w lo p1 a n (fun i => .string (f i)) ∧ VQ w p1 p2 b m (fun i => .bool (g i)) ∧ RK w p2 hi x k K R
section
variable {w w' : World} {lo hi lo' hi' : Nat} {a b x : Option Addr} {n m k : Nat} {f : Nat → ByteArray} {g : Nat → Bool} {K : Nat → Nat} {R : Nat → Nat → Int}
theorem BP.on (h : BP w lo hi a n f b m g x k K R) (q : Below w.heap.size w w') : BP w' lo hi a n f b m g x k K R := by
  obtain ⟨p1, p2, h1, h2, h3, hA, hB, hC⟩ := h
  exact ⟨p1, p2, h1, h2, h3, hA.on q, hB.on q, hC.on q⟩
theorem BP.turns (h : BP w lo hi a n f b m g x k K R) (q : Turns lo' hi' w w') (hd : hi ≤ lo' ∨ hi' ≤ lo) : BP w' lo hi a n f b m g x k K R := by
  obtain ⟨p1, p2, h1, h2, h3, hA, hB, hC⟩ := h
  exact ⟨p1, p2, h1, h2, h3, hA.turns q (by omega), hB.turns q (by omega), hC.turns q (by omega)⟩
theorem BP.bd (h : BP w lo hi a n f b m g x k K R) : BD w a n f b m g x k K R := by
  obtain ⟨p1, p2, h1, h2, h3, hA, hB, hC⟩ := h
  exact ⟨hA.sl, hB.bl, hC.rr⟩
end
theorem rk_set {w : World} {lo hi : Nat} {a : Option Addr} {n : Nat} {K : Nat → Nat} {R : Nat → Nat → Int} (h : RK w lo hi a n K R) {b k : Nat} (v : Value) (hn : b < lo ∨ hi ≤ b) : RK (w.setCell ⟨b, k, none⟩ v) lo hi a n K R :=
  h.turns (OnlyIn.of ((Only.refl b w).set k v) (Nat.le_refl b) (Nat.lt_succ_self b)).turns (by omega)
theorem ret_brd {fn : Func} {t : Tmp} {R : Ending → World → Prop} {a : Act} {w : World} {b : Nat} {u v x : Value} (h : fn.results = #[.cell t 38]) (hp : a.tmps.getD t undef = .pointer (some ⟨b, 0, none⟩)) (c0 : w.cell? ⟨b, 0, none⟩ = some u) (c1 : w.cell? ⟨b, 1, none⟩ = some v) (c2 : w.cell? ⟨b, 2, none⟩ = some x) (hd : a.defers = [])
    (hR : R (.returned (.agg #[u, v, x])) w) : bodyPost Tryd.prog fn R .ret a w := by
  refine bodyPost_ret ?_ hd hR
  have hp' : a.tmps[t]?.getD undef = .pointer (some ⟨b, 0, none⟩) := by simpa using hp
  simp [results, h, hp', asAddr, loadVar, go_sem, c0, c1, c2]

set_option maxHeartbeats 2000000 in
theorem toBoardP (a : Option Addr) (n c : Nat) (b : Option Addr) (m d : Nat) (x : Option Addr) (k q : Nat) (f : Nat → ByteArray) (g : Nat → Bool) (K : Nat → Nat) (R : Nat → Nat → Int) (w : World) (hn : n ≤ 1048576) (hm : m ≤ 1048576) (hk : k ≤ 1048576) (hK : ∀ i, i < k → K i ≤ 1048576) (h : BD w a n f b m g x k K R) :
    Calls Tryd.prog 32 #[bdv a n c b m d x k q] w fun e w' => ∃ a' b' x', e = .returned (bdv a' n n b' m m x' k k) ∧ BP w' w.heap.size w'.heap.size a' n f b' m g x' k K R ∧ Below w.heap.size w w' := by
  go_enter Tryd.func32, Tryd.ntmps32
  go_wp2_with fail
  refine (copySt a n c f _ hn (((h.nm.alloc _).alloc _).alloc _)).mono ?_
  rintro e w1 ⟨rfl, hL1, hs1, hb1⟩
  have bA := ((((bx_new (w := w) (bdL a n c b m d x k q) 57 rfl).alloc _).alloc _).on hb1)
  have bO := (((bx_new (w := w.alloc (bdO a n c b m d x k q 57)) (b := w.heap.size + 1) (bdL none 0 0 none 0 0 none 0 0) 38 (by simp)).alloc _).on hb1)
  have bT := ((bx_new (w := (w.alloc (bdO a n c b m d x k q 57)).alloc (bdO none 0 0 none 0 0 none 0 0 38)) (b := w.heap.size + 1 + 1) (bdL none 0 0 none 0 0 none 0 0) 38 (by simp)).on hb1)
  have hB1 := below_al (below_al (below_al hb1))
  simp only [size_al] at hL1 hs1
  clear hb1
  have x1 := bA.c1
  have y0 := bT.c0
  have yf := bT.fz 0
  have bT2 := bT.set 0 (by simp) (.slice (some ⟨w.heap.size + 1 + 1 + 1, 0, none⟩) n n)
  have bO2 := bO.far (b' := w.heap.size + 1 + 1) (k := 0) (.slice (some ⟨w.heap.size + 1 + 1 + 1, 0, none⟩) n n) (by omega)
  have bA2 := bA.far (b' := w.heap.size + 1 + 1) (k := 0) (.slice (some ⟨w.heap.size + 1 + 1 + 1, 0, none⟩) n n) (by omega)
  have hL2 := vq_set hL1 (b := w.heap.size + 1 + 1) (k := 0) (.slice (some ⟨w.heap.size + 1 + 1 + 1, 0, none⟩) n n) (by omega)
  have hB2 := hB1.setCell (p := ⟨w.heap.size + 1 + 1, 0, none⟩) (by simp <;> omega) (.slice (some ⟨w.heap.size + 1 + 1 + 1, 0, none⟩) n n)
  have hG2 := h.mi.below hB2
  clear bA bT bO hL1 hB1
  go_wp2_with fail
  refine (copyBl b m d g _ hm hG2).mono ?_
  rintro e w3 ⟨rfl, hM3, hs3, hb3⟩
  have bT3 := bT2.on hb3
  have bO3 := bO2.on hb3
  have bA3 := bA2.on hb3
  have hL3 := hL2.on hb3
  have hB3 := stepA hB2 hb3
  simp only [size_set] at hM3 hs3
  clear bT2 bO2 bA2 hL2 hB2 hG2 hb3 x1 y0 yf
  have x2 := bA3.c2
  have y1 := bT3.c1
  have yf := bT3.fz 1
  have bT4 := bT3.set 1 (by simp) (.slice (some ⟨w1.heap.size, 0, none⟩) m m)
  have bO4 := bO3.far (b' := w.heap.size + 1 + 1) (k := 1) (.slice (some ⟨w1.heap.size, 0, none⟩) m m) (by omega)
  have hL4 := vq_set hL3 (b := w.heap.size + 1 + 1) (k := 1) (.slice (some ⟨w1.heap.size, 0, none⟩) m m) (by omega)
  have hM4 := vq_set hM3 (b := w.heap.size + 1 + 1) (k := 1) (.slice (some ⟨w1.heap.size, 0, none⟩) m m) (by omega)
  have hB4 := hB3.setCell (p := ⟨w.heap.size + 1 + 1, 1, none⟩) (by simp <;> omega) (.slice (some ⟨w1.heap.size, 0, none⟩) m m)
  have hR4 := h.nx.below hB4
  clear bA3 bT3 bO3 hL3 hM3 hB3
  go_wp2_with fail
  refine (copyK x k q K R _ hk hK hR4).mono ?_
  rintro e w5 ⟨rfl, hR5, hb5⟩
  have bT5 := bT4.on hb5
  have bO5 := bO4.on hb5
  have hL5 := hL4.on hb5
  have hM5 := hM4.on hb5
  have hB5 := stepA hB4 hb5
  have hs5 := hb5.size
  simp only [size_set] at hR5 hs5
  clear bT4 bO4 hL4 hM4 hB4 hR4 hb5 x2 y1 yf
  have y0 := bT5.c0
  have y1 := bT5.c1
  have y2 := bT5.c2
  have yf := bT5.fz 2
  have z0 := bO5.c0
  have z1 := bO5.c1
  have z2 := bO5.c2
  have zf0 := bO5.fz 0
  have zf1 := bO5.fz 1
  have zf2 := bO5.fz 2
  have bR := (((bO5.far (b' := w.heap.size + 1 + 1) (k := 2) (.slice (some ⟨w3.heap.size, 0, none⟩) k k) (by omega)).set 0 (by simp) (.slice (some ⟨w.heap.size + 1 + 1 + 1, 0, none⟩) n n)).set 1 (by simp) (.slice (some ⟨w1.heap.size, 0, none⟩) m m)).set 2 (by simp) (.slice (some ⟨w3.heap.size, 0, none⟩) k k)
  have hL6 := vq_set (vq_set (vq_set (vq_set hL5 (b := w.heap.size + 1 + 1) (k := 2) (.slice (some ⟨w3.heap.size, 0, none⟩) k k) (by omega)) (b := w.heap.size + 1) (k := 0) (.slice (some ⟨w.heap.size + 1 + 1 + 1, 0, none⟩) n n) (by omega)) (b := w.heap.size + 1) (k := 1) (.slice (some ⟨w1.heap.size, 0, none⟩) m m) (by omega)) (b := w.heap.size + 1) (k := 2) (.slice (some ⟨w3.heap.size, 0, none⟩) k k) (by omega)
  have hM6 := vq_set (vq_set (vq_set (vq_set hM5 (b := w.heap.size + 1 + 1) (k := 2) (.slice (some ⟨w3.heap.size, 0, none⟩) k k) (by omega)) (b := w.heap.size + 1) (k := 0) (.slice (some ⟨w.heap.size + 1 + 1 + 1, 0, none⟩) n n) (by omega)) (b := w.heap.size + 1) (k := 1) (.slice (some ⟨w1.heap.size, 0, none⟩) m m) (by omega)) (b := w.heap.size + 1) (k := 2) (.slice (some ⟨w3.heap.size, 0, none⟩) k k) (by omega)
  have hR6 := rk_set (rk_set (rk_set (rk_set hR5 (b := w.heap.size + 1 + 1) (k := 2) (.slice (some ⟨w3.heap.size, 0, none⟩) k k) (by omega)) (b := w.heap.size + 1) (k := 0) (.slice (some ⟨w.heap.size + 1 + 1 + 1, 0, none⟩) n n) (by omega)) (b := w.heap.size + 1) (k := 1) (.slice (some ⟨w1.heap.size, 0, none⟩) m m) (by omega)) (b := w.heap.size + 1) (k := 2) (.slice (some ⟨w3.heap.size, 0, none⟩) k k) (by omega)
  have hB6 := (((hB5.setCell (p := ⟨w.heap.size + 1 + 1, 2, none⟩) (by simp <;> omega) (.slice (some ⟨w3.heap.size, 0, none⟩) k k)).setCell (p := ⟨w.heap.size + 1, 0, none⟩) (by simp <;> omega) (.slice (some ⟨w.heap.size + 1 + 1 + 1, 0, none⟩) n n)).setCell (p := ⟨w.heap.size + 1, 1, none⟩) (by simp <;> omega) (.slice (some ⟨w1.heap.size, 0, none⟩) m m)).setCell (p := ⟨w.heap.size + 1, 2, none⟩) (by simp <;> omega) (.slice (some ⟨w3.heap.size, 0, none⟩) k k)
  clear hL5 hM5 hR5 hB5 bT5 bO5
  go_wp2_with fail
  refine ret_brd Tryd.results32 rfl bR.c0 bR.c1 bR.c2 rfl ?_
  exact ⟨_, _, _, rfl, ⟨w1.heap.size, w3.heap.size, by omega, by omega, by simp <;> omega, hL6.wide (by omega) (by omega), hM6.wide (by omega) (by omega), hR6.wide (by omega) (by simp)⟩, hB6⟩
theorem toBoard_any (a : Option Addr) (n c : Nat) (b : Option Addr) (m d : Nat) (x : Option Addr) (k q : Nat) (f : Nat → ByteArray) (g : Nat → Bool) (K : Nat → Nat) (R : Nat → Nat → Int) (w : World) (hn : n ≤ 1048576) (hm : m ≤ 1048576) (hk : k ≤ 1048576) (hK : ∀ i, i < k → K i ≤ 1048576) (h : BD w a n f b m g x k K R) :
    Calls Tryd.prog 32 #[bdv a n c b m d x k q] w fun e w' => ∃ a' b' x', e = .returned (bdv a' n n b' m m x' k k) ∧ BD w' a' n f b' m g x' k K R ∧ Below w.heap.size w w' :=
  (toBoardP a n c b m d x k q f g K R w hn hm hk hK h).mono fun _ _ ⟨a', b', x', he, hP, hb⟩ => ⟨a', b', x', he, hP.bd, hb⟩
set_option maxHeartbeats 1000000 in
theorem eqBoard_any (a a2 : Option Addr) (n c c2 : Nat) (b b2 : Option Addr) (m d d2 : Nat) (x x2 : Option Addr) (k q q2 : Nat) (f : Nat → ByteArray) (g : Nat → Bool) (K : Nat → Nat) (R : Nat → Nat → Int) (w : World) (hn : n ≤ 1048576) (hm : m ≤ 1048576) (hk : k ≤ 1048576) (hK : ∀ i, i < k → K i ≤ 1048576) (h : BD w a n f b m g x k K R) (h2 : BD w a2 n f b2 m g x2 k K R) :
    Calls Tryd.prog 34 #[bdv a n c b m d x k q, bdv a2 n c2 b2 m d2 x2 k q2] w fun e w' => e = .returned (.bool true) ∧ Below w.heap.size w w' := by
  go_enter Tryd.func34, Tryd.ntmps34
  go_wp2_with fail
  refine (eqSt a a2 n c c2 f _ hn ((h.nm.alloc _).alloc _) ((h2.nm.alloc _).alloc _)).mono ?_
  rintro e w1 ⟨rfl, hb1⟩
  have bA := (((bx_new (w := w) (bdL a n c b m d x k q) 38 rfl).alloc _).on hb1)
  have bB := (((bx_new (w := w.alloc (bdO a n c b m d x k q 38)) (b := w.heap.size + 1) (bdL a2 n c2 b2 m d2 x2 k q2) 38 (by simp))).on hb1)
  have hB1 := below_al (below_al hb1)
  have x1 := bA.c1
  have y1 := bB.c1
  clear hb1
  go_wp2_with fail
  refine (eqBl b b2 m d d2 g _ hm (h.mi.below hB1) (h2.mi.below hB1)).mono ?_
  rintro e w2 ⟨rfl, hb2⟩
  have hB2 := stepA hB1 hb2
  have x3 := (bA.on hb2).c2
  have y3 := (bB.on hb2).c2
  clear hb2 hB1 x1 y1 bA bB
  go_wp2_with fail
  refine (eqR_any x x2 k q q2 K R _ hk hK (h.nx.below hB2) (h2.nx.below hB2)).mono ?_
  rintro e w3 ⟨rfl, hb3⟩
  have hB3 := stepA hB2 hb3
  clear hb3 hB2 x3 y3
  go_wp2
  go_ret
  exact ⟨rfl, hB3⟩
theorem szKs (a : Option Addr) (n c : Nat) (K : Nat → Nat) (F : Nat → Nat → Int) (l : Int) (w : World) (hl : 0 ≤ l) (h1 : l ≤ 1048576) (hn : n ≤ 9223372036854775807) (hK : ∀ i, i < n → K i ≤ 9223372036854775807) (h : RR w a n K F) :
    Calls Tryd.prog 72 #[.slice a n c, .int .i64 l] w fun e w' => ∃ y, e = .returned (.int .i64 y) ∧ (y = -1 ∨ (0 ≤ y ∧ y ≤ l ∧ (n : Int) ≤ l ∧ (∀ i, i < n → (K i : Int) ≤ l) ∧ ((sumK K n : Nat) : Int) ≤ l)) ∧ w' = w := by
  by_cases h9 : (n : Int) + ((sumK K n : Nat) : Int) ≤ l
  · exact (szK_in a n c K F l w h9 h1 h).mono fun _ _ ⟨he, hw⟩ => ⟨_, he, .inr ⟨by omega, by omega, by omega, fun i hi => by have := sumK_le K n i hi; omega, by omega⟩, hw⟩
  · exact (szK_out a n c K F l w (by omega) hl h1 hn hK h).mono fun _ _ ⟨he, hw⟩ => ⟨_, he, .inl rfl, hw⟩
/-- what is left of a room of l, and what then is known of the board -/
def SzB (n : Nat) (f : Nat → ByteArray) (m k : Nat) (K : Nat → Nat) (l y : Int) : Prop := y = -1 ∨ (0 ≤ y ∧ y ≤ l ∧ (n : Int) ≤ l ∧ (m : Int) ≤ l ∧ (k : Int) ≤ l ∧ (∀ i, i < n → ((f i).size : Int) ≤ l) ∧ (∀ i, i < k → (K i : Int) ≤ l) ∧ ((sumK K k : Nat) : Int) ≤ l)
set_option maxHeartbeats 1000000 in
theorem szBoard_any (a : Option Addr) (n c : Nat) (b : Option Addr) (m d : Nat) (x : Option Addr) (k q : Nat) (f : Nat → ByteArray) (g : Nat → Bool) (K : Nat → Nat) (R : Nat → Nat → Int) (l : Int) (w : World) (h0 : 0 ≤ l) (hl : l ≤ 1048576) (hn : n ≤ 9223372036854775807) (hm : m ≤ 9223372036854775807) (hk : k ≤ 9223372036854775807) (hf : ∀ i, i < n → (f i).size ≤ 9223372036854775807) (hK : ∀ i, i < k → K i ≤ 9223372036854775807) (h : BD w a n f b m g x k K R) :
    Calls Tryd.prog 30 #[bdv a n c b m d x k q, .int .i64 l] w fun e w' => ∃ y, e = .returned (.int .i64 y) ∧ SzB n f m k K l y ∧ Below w.heap.size w w' := by
  have hb0 : Below w.heap.size w (w.alloc (bdO a n c b m d x k q 57)) := (Below.refl _ _).alloc (Nat.le_refl _) _
  have k1 := szSt a n c f l (w.alloc (bdO a n c b m d x k q 57)) h0 hl hn hf (h.nm.alloc _)
  have k2 := fun T (h2 : 0 ≤ T) (h1 : T ≤ 1048576) => szBl b m d T (w.alloc (bdO a n c b m d x k q 57)) h2 h1 hm
  have k3 := fun T (h2 : 0 ≤ T) (h1 : T ≤ 1048576) => szKs x k q K R T (w.alloc (bdO a n c b m d x k q 57)) h2 h1 hk hK (h.alloc _).nx
  have HI : Hid (¬ lefB f n l < 0 → (n : Int) ≤ l ∧ (∀ i, i < n → ((f i).size : Int) ≤ l) ∧ lefB f n l ≤ l) := fun h => lefB_in h
  clear h hf hK
  generalize lefB f n l = V at *
  by_cases hV : V < 0
  · clear k2 k3
    go_enter Tryd.func30, Tryd.ntmps30
    go_wp2_with fail
    refine k1.mono ?_
    rintro e w1 ⟨rfl, hw1⟩
    have hs1 := hw1.symm
    clear hw1
    subst hs1
    go_wp2
    go_ret
    exact ⟨-1, rfl, .inl rfl, hb0⟩
  · have hI := HI.out hV
    have HI2 : Hid ((n : Int) ≤ l ∧ (∀ i, i < n → ((f i).size : Int) ≤ l)) := ⟨hI.1, hI.2.1⟩
    have hVl := hI.2.2
    clear hI HI
    have k4 := k2 V (by omega) (by omega)
    clear k2
    by_cases hm2 : V < (m : Int)
    · rw [if_pos hm2] at k4
      clear k3
      go_enter Tryd.func30, Tryd.ntmps30
      go_wp2_with fail
      refine k1.mono ?_
      rintro e w1 ⟨rfl, hw1⟩
      have hs1 := hw1.symm
      clear hw1
      subst hs1
      go_wp2_with fail
      refine k4.mono ?_
      rintro e w1 ⟨rfl, hw1⟩
      have hs1 := hw1.symm
      clear hw1
      subst hs1
      go_wp2
      go_ret
      exact ⟨-1, rfl, .inl rfl, hb0⟩
    · rw [if_neg hm2] at k4
      have j2 : ¬ V - (m : Int) < 0 := by omega
      have k5 := k3 (V - (m : Int)) (by omega) (by omega)
      clear k3
      go_enter Tryd.func30, Tryd.ntmps30
      go_wp2_with fail
      refine k1.mono ?_
      rintro e w1 ⟨rfl, hw1⟩
      have hs1 := hw1.symm
      clear hw1
      subst hs1
      go_wp2_with fail
      refine k4.mono ?_
      rintro e w1 ⟨rfl, hw1⟩
      have hs1 := hw1.symm
      clear hw1
      subst hs1
      go_wp2_with fail
      refine k5.mono ?_
      rintro e w1 ⟨y, rfl, hy, hw1⟩
      have hs1 := hw1.symm
      clear hw1
      subst hs1
      rcases hy with rfl | ⟨y0, y1, y2, y3, y5⟩
      · go_wp2
        go_ret
        exact ⟨-1, rfl, .inl rfl, hb0⟩
      · have y4 : ¬ y < 0 := by omega
        have HY : Hid (∀ i, i < k → (K i : Int) ≤ V - (m : Int)) := y3
        clear y3
        go_wp2
        go_ret
        exact ⟨y, rfl, .inr ⟨y0, by omega, HI2.out.1, by omega, by omega, HI2.out.2, fun i hi => by have := HY.out i hi; omega, by omega⟩, hb0⟩
end Go.Proofs.YtapodfkoknmhdaaDoor
