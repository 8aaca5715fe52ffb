/- Wishes: the law's own copies of them, compared, their sizes; good wishes. -/
import Derived.Test.YtapodfkoknmhdaaDoorQWhCp
namespace Go.Proofs.YtapodfkoknmhdaaDoor
open Go.RowKit

/-- a wish as a value -/
abbrev wsv (a : Option Addr) (n c : Nat) (b : Option Addr) (m d : Nat) : Value := .agg #[.slice a n c, .slice b m d]
abbrev wsL (a : Option Addr) (n c : Nat) (b : Option Addr) (m d : Nat) : List Value := [.slice a n c, .slice b m d]
abbrev wsO (a : Option Addr) (n c : Nat) (b : Option Addr) (m d : Nat) (t : TypeId) : Obj := .cells #[.slice a n c, .slice b m d] t
/-- texts as values -/
abbrev sV (S : Nat → ByteArray) (i : Nat) : Value := .string (S i)

/-- two lists of texts of a call's own, in blocks from lo on, below hi, not in the same one -/
def WP (w : World) (lo hi : Nat) (a : Option Addr) (n : Nat) (F : Nat → ByteArray) (b : Option Addr) (m : Nat) (G : Nat → ByteArray) : Prop :=
  ∃ l1 h1 l2 h2, lo ≤ l1 ∧ h1 ≤ hi ∧ lo ≤ l2 ∧ h2 ≤ hi ∧ (h1 ≤ l2 ∨ h2 ≤ l1) ∧ VQ w l1 h1 a n (fun i => .string (F i)) ∧ VQ w l2 h2 b m (fun i => .string (G i))
section
variable {w w' : World} {lo hi lo' hi' : Nat} {a b : Option Addr} {n m : Nat} {F G : Nat → ByteArray}
theorem WP.sl1 (h : WP w lo hi a n F b m G) : SL w a n F := by
  obtain ⟨_, _, _, _, _, _, _, _, _, h, _⟩ := h; exact h.sl
theorem WP.sl2 (h : WP w lo hi a n F b m G) : SL w b m G := by
  obtain ⟨_, _, _, _, _, _, _, _, _, _, h⟩ := h; exact h.sl
theorem WP.on (h : WP w lo hi a n F b m G) (k : Below w.heap.size w w') : WP w' lo hi a n F b m G := by
  obtain ⟨l1, h1, l2, h2, i1, i2, i3, i4, i5, j1, j2⟩ := h
  exact ⟨l1, h1, l2, h2, i1, i2, i3, i4, i5, j1.on k, j2.on k⟩
theorem WP.turns (h : WP w lo hi a n F b m G) (k : Turns lo' hi' w w') (hd : hi ≤ lo' ∨ hi' ≤ lo) : WP w' lo hi a n F b m G := by
  obtain ⟨l1, h1, l2, h2, i1, i2, i3, i4, i5, j1, j2⟩ := h
  exact ⟨l1, h1, l2, h2, i1, i2, i3, i4, i5, j1.turns k (by omega), j2.turns k (by omega)⟩
theorem WP.wide (h : WP w lo hi a n F b m G) (h0 : lo' ≤ lo) (h1 : hi ≤ hi') : WP w lo' hi' a n F b m G := by
  obtain ⟨l1, h1, l2, h2, i1, i2, i3, i4, i5, j1, j2⟩ := h
  exact ⟨l1, h1, l2, h2, by omega, by omega, by omega, by omega, i5, j1, j2⟩
theorem wp_none (w : World) (lo hi : Nat) (a b : Option Addr) (F G : Nat → ByteArray) (h : lo ≤ hi) : WP w lo hi a 0 F b 0 G :=
  ⟨lo, lo, lo, lo, Nat.le_refl _, h, Nat.le_refl _, h, .inl (Nat.le_refl _), vq_none _ _ _ _ _, vq_none _ _ _ _ _⟩
end

theorem lefB_up (S : Nat → ByteArray) (n : Nat) (l : Int) : lefB S n l ≤ l ∨ lefB S n l < 0 := by
  unfold lefB
  split
  · right; omega
  · left
    have := lefS_le S (l - (n : Int)) (k := 0) (m := n) (by omega)
    have e : lefS S (l - (n : Int)) 0 = l - (n : Int) := rfl
    omega
theorem lefB_neg (S : Nat → ByteArray) (n : Nat) (l : Int) (h : lefB S n l < 0) : lefB S n l = -1 := by
  unfold lefB at *
  split
  · rfl
  · rename_i h2; rw [if_neg h2] at h; exact absurd h h2
theorem lefB_in {S : Nat → ByteArray} {n : Nat} {l : Int} (h : ¬ lefB S n l < 0) : (n : Int) ≤ l ∧ (∀ i, i < n → ((S i).size : Int) ≤ l) ∧ lefB S n l ≤ l := by
  unfold lefB at *
  by_cases h2 : lefS S (l - (n : Int)) n < 0
  · rw [if_pos h2] at h; omega
  · rw [if_neg h2] at h ⊢
    have h3 := lefS_le S (l - (n : Int)) (k := 0) (m := n) (by omega)
    have e : lefS S (l - (n : Int)) 0 = l - (n : Int) := rfl
    exact ⟨by omega, fun i hi => by have := lefS_sz S (l - (n : Int)) hi; omega, by omega⟩
/-- what a wish leaves of a room of l -/
def lefW (n : Nat) (f : Nat → ByteArray) (m : Nat) (g : Nat → ByteArray) (l : Int) : Int := if lefB f n l < 0 then -1 else lefB g m (lefB f n l)
/-- a return of a box out of its cells -/
theorem ret_wis {fn : Func} {t : Tmp} {R : Ending → World → Prop} {a : Act} {w : World} {b : Nat} {u v : Value} (h : fn.results = #[.cell t 25]) (hp : a.tmps.getD t undef = .pointer (some ⟨b, 0, none⟩)) (c0 : w.cell? ⟨b, 0, none⟩ = some u) (c1 : w.cell? ⟨b, 1, none⟩ = some v) (hd : a.defers = [])
    (hR : R (.returned (.agg #[u, v])) w) : bodyPost Tryd.prog fn R .ret a w := by
  refine bodyPost_ret ?_ hd hR
  have hp' : a.tmps[t]?.getD undef = .pointer (some ⟨b, 0, none⟩) := by simpa using hp
  simp [results, h, hp', asAddr, loadVar, go_sem, c0, c1]
set_option maxHeartbeats 1000000 in
theorem toWish_any (a b : Option Addr) (n c m d : Nat) (f g : Nat → ByteArray) (w : World) (hn : n ≤ 1048576) (hm : m ≤ 1048576) (hf : SL w a n f) (hg : SL w b m g) :
    Calls Tryd.prog 28 #[wsv a n c b m d] w fun e w' => ∃ a' b', e = .returned (wsv a' n n b' m m) ∧ WP w' w.heap.size w'.heap.size a' n f b' m g ∧ Below w.heap.size w w' := by
  go_enter Tryd.func28, Tryd.ntmps28
  go_wp2_with fail
  refine (copySt a n c f _ hn (((hf.alloc _).alloc _).alloc _)).mono ?_
  rintro e w1 ⟨rfl, hL1, hs1, hb1⟩
  have bA := ((((bx_new (w := w) (wsL a n c b m d) 52 rfl).alloc _).alloc _).on hb1)
  have bO := (((bx_new (w := w.alloc (wsO a n c b m d 52)) (b := w.heap.size + 1) (wsL none 0 0 none 0 0) 25 (by simp)).alloc _).on hb1)
  have bT := ((bx_new (w := (w.alloc (wsO a n c b m d 52)).alloc (wsO none 0 0 none 0 0 25)) (b := w.heap.size + 1 + 1) (wsL none 0 0 none 0 0) 25 (by simp)).on hb1)
  have hB1 := below_al (below_al (below_al hb1))
  simp only [size_al] at hL1 hs1
  clear hb1
  have x1 := bA.c1
  have y0 := bT.c0
  have yf := bT.fz 0
  have bT2 := bT.set 0 (by simp) (.slice (some ⟨w.heap.size + 1 + 1 + 1, 0, none⟩) n n)
  have bO2 := bO.far (b' := w.heap.size + 1 + 1) (k := 0) (.slice (some ⟨w.heap.size + 1 + 1 + 1, 0, none⟩) n n) (by omega)
  have hL2 := vq_set hL1 (b := w.heap.size + 1 + 1) (k := 0) (.slice (some ⟨w.heap.size + 1 + 1 + 1, 0, none⟩) n n) (by omega)
  have hB2 := hB1.setCell (p := ⟨w.heap.size + 1 + 1, 0, none⟩) (by simp <;> omega) (.slice (some ⟨w.heap.size + 1 + 1 + 1, 0, none⟩) n n)
  have hG2 := hg.below hB2
  clear bA bT hL1 hB1
  go_wp2_with fail
  refine (copySt b m d g _ hm hG2).mono ?_
  rintro e w3 ⟨rfl, hM3, hs3, hb3⟩
  have bT3 := bT2.on hb3
  have bO3 := bO2.on hb3
  have hL3 := hL2.on hb3
  have hB3 := stepA hB2 hb3
  simp only [size_set] at hM3 hs3
  clear bT2 bO2 hL2 hB2 hG2 hb3 x1 y0 yf
  have y0 := bT3.c0
  have y1 := bT3.c1
  have yf := bT3.fz 1
  have z0 := bO3.c0
  have z1 := bO3.c1
  have zf0 := bO3.fz 0
  have zf1 := bO3.fz 1
  have bR := ((bO3.far (b' := w.heap.size + 1 + 1) (k := 1) (.slice (some ⟨w1.heap.size, 0, none⟩) m m) (by omega)).set 0 (by simp) (.slice (some ⟨w.heap.size + 1 + 1 + 1, 0, none⟩) n n)).set 1 (by simp) (.slice (some ⟨w1.heap.size, 0, none⟩) m m)
  have hL4 := vq_set (vq_set (vq_set hL3 (b := w.heap.size + 1 + 1) (k := 1) (.slice (some ⟨w1.heap.size, 0, none⟩) m m) (by omega)) (b := w.heap.size + 1) (k := 0) (.slice (some ⟨w.heap.size + 1 + 1 + 1, 0, none⟩) n n) (by omega)) (b := w.heap.size + 1) (k := 1) (.slice (some ⟨w1.heap.size, 0, none⟩) m m) (by omega)
  have hM4 := vq_set (vq_set (vq_set hM3 (b := w.heap.size + 1 + 1) (k := 1) (.slice (some ⟨w1.heap.size, 0, none⟩) m m) (by omega)) (b := w.heap.size + 1) (k := 0) (.slice (some ⟨w.heap.size + 1 + 1 + 1, 0, none⟩) n n) (by omega)) (b := w.heap.size + 1) (k := 1) (.slice (some ⟨w1.heap.size, 0, none⟩) m m) (by omega)
  have hB4 := ((hB3.setCell (p := ⟨w.heap.size + 1 + 1, 1, none⟩) (by simp <;> omega) (.slice (some ⟨w1.heap.size, 0, none⟩) m m)).setCell (p := ⟨w.heap.size + 1, 0, none⟩) (by simp <;> omega) (.slice (some ⟨w.heap.size + 1 + 1 + 1, 0, none⟩) n n)).setCell (p := ⟨w.heap.size + 1, 1, none⟩) (by simp <;> omega) (.slice (some ⟨w1.heap.size, 0, none⟩) m m)
  go_wp2_with fail
  refine ret_wis Tryd.results28 rfl bR.c0 bR.c1 rfl ?_
  exact ⟨_, _, rfl, ⟨_, _, _, _, by omega, by simp only [size_set]; omega, by omega, by simp only [size_set]; omega, .inl (by omega), hL4, hM4⟩, hB4⟩

set_option maxHeartbeats 1000000 in
theorem eqWish_any (a b a2 b2 : Option Addr) (n c m d c2 d2 : Nat) (f g : Nat → ByteArray) (w : World) (hn : n ≤ 1048576) (hm : m ≤ 1048576) (hf : SL w a n f) (hg : SL w b m g) (hf2 : SL w a2 n f) (hg2 : SL w b2 m g) :
    Calls Tryd.prog 29 #[wsv a n c b m d, wsv a2 n c2 b2 m d2] w fun e w' => e = .returned (.bool true) ∧ Below w.heap.size w w' := by
  go_enter Tryd.func29, Tryd.ntmps29
  go_wp2_with fail
  refine (eqSt a a2 n c c2 f _ hn ((hf.alloc _).alloc _) ((hf2.alloc _).alloc _)).mono ?_
  rintro e w1 ⟨rfl, hb1⟩
  have bA := (((bx_new (w := w) (wsL a n c b m d) 25 rfl).alloc _).on hb1)
  have bB := (((bx_new (w := w.alloc (wsO a n c b m d 25)) (b := w.heap.size + 1) (wsL a2 n c2 b2 m d2) 25 (by simp))).on hb1)
  have hB1 := below_al (below_al hb1)
  have x1 := bA.c1
  have y1 := bB.c1
  clear hb1
  go_wp2_with fail
  refine (eqSt b b2 m d d2 g _ hm (hg.below hB1) (hg2.below hB1)).mono ?_
  rintro e w2 ⟨rfl, hb2⟩
  have hB2 := stepA hB1 hb2
  clear hb2 hB1 x1 y1 bA bB
  go_wp2
  go_ret
  exact ⟨rfl, hB2⟩


set_option maxHeartbeats 1000000 in
theorem szWish_any (a b : Option Addr) (n c m d : Nat) (f g : Nat → ByteArray) (l : Int) (w : World) (h0 : 0 ≤ l) (hl : l ≤ 1048576) (hn : n ≤ 9223372036854775807) (hm : m ≤ 9223372036854775807) (hf : ∀ i, i < n → (f i).size ≤ 9223372036854775807) (hg : ∀ i, i < m → (g i).size ≤ 9223372036854775807) (ha : SL w a n f) (hb : SL w b m g) :
    Calls Tryd.prog 27 #[wsv a n c b m d, .int .i64 l] w fun e w' => e = .returned (.int .i64 (lefW n f m g l)) ∧ Below w.heap.size w w' := by
  have hb0 : Below w.heap.size w (w.alloc (wsO a n c b m d 52)) := (Below.refl _ _).alloc (Nat.le_refl _) _
  have k1 := szSt a n c f l (w.alloc (wsO a n c b m d 52)) h0 hl hn hf (ha.alloc _)
  have k2 := fun T (h : 0 ≤ T) (h1 : T ≤ 1048576) => szSt b m d g T (w.alloc (wsO a n c b m d 52)) h h1 hm hg (hb.alloc _)
  have HU := lefB_up f n l
  unfold lefW
  generalize lefB f n l = V at *
  by_cases hV : V < 0
  · rw [if_pos hV]
    clear k2
    go_enter Tryd.func27, Tryd.ntmps27
    go_wp2_with fail
    refine k1.mono ?_
    rintro e w1 ⟨rfl, hw1⟩
    have hs1 := hw1.symm
    clear hw1
    subst hs1
    go_wp2
    go_ret
    exact ⟨rfl, hb0⟩
  · rw [if_neg hV]
    have k3 := k2 V (by omega) (by omega)
    have HM := lefB_neg g m V
    clear k2
    generalize lefB g m V = U at *
    by_cases hU : U < 0
    · obtain rfl := HM hU
      go_enter Tryd.func27, Tryd.ntmps27
      go_wp2_with fail
      refine k1.mono ?_
      rintro e w1 ⟨rfl, hw1⟩
      have hs1 := hw1.symm
      clear hw1
      subst hs1
      go_wp2_with fail
      refine k3.mono ?_
      rintro e w1 ⟨rfl, hw1⟩
      have hs1 := hw1.symm
      clear hw1
      subst hs1
      go_wp2
      go_ret
      exact ⟨rfl, hb0⟩
    · clear HM
      go_enter Tryd.func27, Tryd.ntmps27
      go_wp2_with fail
      refine k1.mono ?_
      rintro e w1 ⟨rfl, hw1⟩
      have hs1 := hw1.symm
      clear hw1
      subst hs1
      go_wp2_with fail
      refine k3.mono ?_
      rintro e w1 ⟨rfl, hw1⟩
      have hs1 := hw1.symm
      clear hw1
      subst hs1
      go_wp2
      go_ret
      exact ⟨rfl, hb0⟩
set_option maxHeartbeats 1000000 in
theorem sGood (a b : Option Addr) (n c m d : Nat) (f g : Nat → ByteArray) (w : World) (hn : n ≤ 1048576) (hm : m ≤ 1048576) (hc : n ≤ c) (hd : m ≤ d) (hf : ∀ i, i < n → (f i).size ≤ 1048576) (hg : ∀ i, i < m → (g i).size ≤ 1048576) (ha : SL w a n f) (hb : SL w b m g) :
    Calls Tryd.prog 46 #[wsv a n c b m d] w fun e w' => e = .returned (.bool (namB f n && namB g m)) ∧ Below w.heap.size w w' := by
  have hb0 : Below w.heap.size w (w.alloc (wsO a n c b m d 25)) := (Below.refl _ _).alloc (Nat.le_refl _) _
  have k1 := sNames a n c f (w.alloc (wsO a n c b m d 25)) hn hc hf (ha.alloc _)
  have k2 := sNames b m d g (w.alloc (wsO a n c b m d 25)) hm hd hg (hb.alloc _)
  generalize namB f n = A at *
  generalize namB g m = B at *
  cases A with
  | false =>
    clear k2
    go_enter Tryd.func46, Tryd.ntmps46
    go_wp2_with fail
    refine k1.mono ?_
    rintro e w1 ⟨rfl, hw1⟩
    have hs1 := hw1.symm
    clear hw1
    subst hs1
    go_wp2
    go_ret
    exact ⟨rfl, hb0⟩
  | true =>
    go_enter Tryd.func46, Tryd.ntmps46
    go_wp2_with fail
    refine k1.mono ?_
    rintro e w1 ⟨rfl, hw1⟩
    have hs1 := hw1.symm
    clear hw1
    subst hs1
    go_wp2_with fail
    refine k2.mono ?_
    rintro e w1 ⟨rfl, hw1⟩
    have hs1 := hw1.symm
    clear hw1
    subst hs1
    go_wp2
    go_ret
    exact ⟨rfl, hb0⟩
end Go.Proofs.YtapodfkoknmhdaaDoor
