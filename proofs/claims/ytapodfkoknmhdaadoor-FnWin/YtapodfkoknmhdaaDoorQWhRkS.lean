/- The numbers of a board and a wish, as the model reckons them. -/
import Derived.Test.YtapodfkoknmhdaaDoorQWhSfS
import Derived.Test.YtapodfkoknmhdaaDoorQWhChI
namespace Go.Proofs.YtapodfkoknmhdaaDoor
open Go.RowKit
/-- the places below k that P has, rising -/
def nwL (P : Nat → Bool) : Nat → List Int
  | 0 => []
  | k + 1 => if P k = true then nwL P k ++ [(k : Int)] else nwL P k
theorem nwL_len (P : Nat → Bool) (k : Nat) : (nwL P k).length ≤ k := by
  induction k with
  | zero => exact Nat.le_refl _
  | succ k ih => unfold nwL; split
                 · rw [List.length_append]; simp; omega
                 · omega
theorem nwL_mem (P : Nat → Bool) (k : Nat) (x : Int) : x ∈ nwL P k ↔ ∃ j, j < k ∧ P j = true ∧ x = (j : Int) := by
  induction k with
  | zero => simp [nwL]
  | succ k ih =>
    unfold nwL
    split
    · rename_i e
      rw [List.mem_append, ih]
      constructor
      · rintro (⟨j, h1, h2, h3⟩ | h)
        · exact ⟨j, by omega, h2, h3⟩
        · exact ⟨k, by omega, e, by simpa using h⟩
      · rintro ⟨j, h1, h2, h3⟩
        by_cases hj : j = k
        · subst hj; exact .inr (by simp [h3])
        · exact .inl ⟨j, by omega, h2, h3⟩
    · rename_i e
      rw [ih]
      constructor
      · rintro ⟨j, h1, h2, h3⟩
        exact ⟨j, by omega, h2, h3⟩
      · rintro ⟨j, h1, h2, h3⟩
        by_cases hj : j = k
        · subst hj; exact absurd h2 e
        · exact ⟨j, by omega, h2, h3⟩
theorem nwL_at (P : Nat → Bool) (k : Nat) {t : Nat} (h : t < (nwL P k).length) : ∃ j, j < k ∧ P j = true ∧ gl (nwL P k) t = (j : Int) := by
  have : (nwL P k)[t] ∈ nwL P k := List.getElem_mem h
  obtain ⟨j, h1, h2, h3⟩ := (nwL_mem P k _).1 this
  exact ⟨j, h1, h2, by simp [gl, h, h3]⟩
/-- the first t of the list have got v -/
def fsF (L : List Int) (v : Int) (F : Nat → Int) (t j : Nat) : Int := if (j : Int) ∈ L.take t then v else F j
theorem fs_set {L : List Int} {v : Int} {F : Nat → Int} {t i : Nat} (ht : t < L.length) (e : gl L t = (i : Int)) (j : Nat) : put (fsF L v F t) i v j = fsF L v F (t + 1) j := by
  have e2 : L[t] = (i : Int) := by simpa [gl, ht] using e
  unfold put fsF
  by_cases h : j = i
  · subst h
    rw [if_pos rfl, if_pos]
    rw [List.take_succ_eq_append_getElem ht, e2]
    simp
  · rw [if_neg h]
    have : ((j : Int) ∈ L.take (t + 1)) ↔ ((j : Int) ∈ L.take t) := by
      rw [List.take_succ_eq_append_getElem ht, e2]
      simp
      omega
    by_cases h2 : (j : Int) ∈ L.take t
    · rw [if_pos h2, if_pos (this.2 h2)]
    · rw [if_neg h2, if_neg (fun h3 => h2 (this.1 h3))]
section
variable {kn : Nat → Int} {g : Nat → Bool} {K : Nat → Nat} {R : Nat → Nat → Int} {n r i : Nat}
/-- new in round r + 1 -/
def nwP (kn : Nat → Int) (g : Nat → Bool) (K : Nat → Nat) (R : Nat → Nat → Int) (r i : Nat) : Bool := !(inL kn 1 g K R true r i) && ((kn i == 0) && stp g K R true (inL kn 1 g K R true r) i)
theorem fs_last (j : Nat) (hj : j < n) : fsF (nwL (nwP kn g K R r) n) ((r : Int) + 1) (lvl kn 1 g K R true r) (nwL (nwP kn g K R r) n).length j = lvl kn 1 g K R true (r + 1) j := by
  unfold fsF
  rw [List.take_length]
  cases e0 : inL kn 1 g K R true r j with
  | true =>
    rw [if_neg, lvl_stay (of_decide_eq_true e0)]
    intro h
    obtain ⟨k, _, h2, h3⟩ := (nwL_mem _ _ _).1 h
    have : k = j := by omega
    subst this
    unfold nwP at h2
    rw [e0] at h2; cases h2
  | false =>
    cases hs : ((kn j == 0) && stp g K R true (inL kn 1 g K R true r) j) with
    | true =>
      rw [if_pos, lvl_new (of_decide_eq_false e0) hs]
      · omega
      · exact (nwL_mem _ _ _).2 ⟨j, hj, by unfold nwP; rw [e0, hs]; rfl, rfl⟩
    | false =>
      rw [if_neg, lvl_no (of_decide_eq_false e0) hs]
      · have h1 := of_decide_eq_false e0
        have h2 := lvl_lo (kn := kn) (z := 1) (g := g) (K := K) (R := R) (sd := true) r j
        omega
      · intro h
        obtain ⟨k, _, h2, h3⟩ := (nwL_mem _ _ _).1 h
        have : k = j := by omega
        subst this
        unfold nwP at h2
        rw [e0, hs] at h2; cases h2
end
theorem own_nil2 (w : World) (base : Nat) (F : Nat → Int) : Own w base (.slice none 0 0) 0 F := ⟨by simp [vL], .inl ⟨rfl, rfl⟩⟩
set_option maxRecDepth 200000 in
set_option maxHeartbeats 16000000 in
theorem sRanks (a : Option Addr) (n c : Nat) (b : Option Addr) (d : Nat) (x : Option Addr) (q : Nat) (f : Nat → ByteArray) (g : Nat → Bool) (K : Nat → Nat) (R : Nat → Nat → Int) (ra : Option Addr) (rn rc : Nat) (re : Nat → ByteArray) (aa : Option Addr) (an ac : Nat) (av : Nat → ByteArray) (w : World) (h1 : 1 ≤ n) (hn : n ≤ 14) (hK : ∀ i, i < n → K i ≤ 1048576) (hR : OnB n K R) (hrn : rn ≤ 1048576) (han : an ≤ 1048576) (h : BD w a n f b n g x n K R) (hr : SL w ra rn re) (ha : SL w aa an av) :
    Calls Tryd.prog 56 #[bdv a n c b n d x n q, wsv ra rn rc aa an ac] w fun e w' => AnsIP w' w.heap.size n (rkV n (knF f rn re an av) rn g K R) e ∧ Below w.heap.size w w' := by
  have hmk := fun w => run_make_row' (P := Tryd.prog) 41 3 (.int .i64 0) 8 Tryd.underlying41 infoI rfl .i64 .i64 n (by omega) (by omega) w
  have hb2 : Below w.heap.size w ((w.alloc (bdO a n c b n d x n q 38)).alloc (wsO ra rn rc aa an ac 25)) := ((Below.refl _ _).alloc (Nat.le_refl _) _).alloc (by simp) _
  have hb3 : Below w.heap.size w (((w.alloc (bdO a n c b n d x n q 38)).alloc (wsO ra rn rc aa an ac 25)).alloc (.cells (madeCells #[.int .i64 0] n) 3)) := hb2.alloc (by simp only [size_al]; omega) _
  have bA := ((bx_new (w := w) (bdL a n c b n d x n q) 38 rfl).alloc (wsO ra rn rc aa an ac 25)).alloc (.cells (madeCells #[.int .i64 0] n) 3)
  have bA0 := ((bx_new (w := w) (bdL a n c b n d x n q) 38 rfl).alloc (wsO ra rn rc aa an ac 25)).c0
  have bW := (bx_new (w := w.alloc (bdO a n c b n d x n q 38)) (b := w.heap.size + 1) [.slice ra rn rc, .slice aa an ac] 25 (by simp)).alloc (.cells (madeCells #[.int .i64 0] n) 3)
  have hro : IP (((w.alloc (bdO a n c b n d x n q 38)).alloc (wsO ra rn rc aa an ac 25)).alloc (.cells (madeCells #[.int .i64 0] n) 3)) (w.heap.size + 2) n (fun _ => 0) := by
    have := World.rowIs_made ((w.alloc (bdO a n c b n d x n q 38)).alloc (wsO ra rn rc aa an ac 25)) (.int .i64 0) n 3
    simp only [size_al] at this
    exact row_ip this
  have hsz : (((w.alloc (bdO a n c b n d x n q 38)).alloc (wsO ra rn rc aa an ac 25)).alloc (.cells (madeCells #[.int .i64 0] n) 3)).heap.size = w.heap.size + 3 := by simp
  have hs2 : ((w.alloc (bdO a n c b n d x n q 38)).alloc (wsO ra rn rc aa an ac 25)).heap.size = w.heap.size + 2 := by simp
  have y0 := bW.c0
  by_cases h0 : rn = 0
  · subst h0
    have kS := fun w2 g1 g2 g3 => sSafe a n c b d x q f g K R ra rc re aa an ac av (w.heap.size + 2) n w w2 h1 hn hK hR han h ha g1 g2 g3
    have x0 := bA.c0
    have x1 := bA.c1
    have x2 := bA.c2
    have y1 := bW.c1
    clear hb2
    generalize knF f 0 re an av = kn at *
    go_enter Tryd.func56, Tryd.ntmps56
    go_wp2_with fail
    refine (kS _ hb3 (by omega) hro).mono ?_
    rintro e w5 ⟨rfl, hIP, hB5⟩
    clear kS x0 x1 x2 y0 y1 bA bW hro hmk
    go_wp2
    go_ret
    exact ⟨⟨w.heap.size + 2, n, rfl, by omega, Nat.le_refl _, hIP⟩, hB5⟩
  have e0 : ((rn : Int) == 0) = false := by simp; omega
  have kI := fun s w2 (h : SL w2 aa an av) => sIn aa an ac av s w2 han h
  have kJ := fun s w2 (h : SL w2 ra rn re) => sIn ra rn rc re s w2 hrn h
  have HRV : Hid (∀ i, rkV n (knF f rn re an av) rn g K R i = lvl (knF f rn re an av) 1 g K R true n i) := fun i => by unfold rkV; rw [if_neg h0]
  have HK1 : Hid (∀ i, (knF f rn re an av i == 1) = (inS re (f i) rn && !(inS av (f i) an))) := fun i => by
    unfold knF
    cases inS av (f i) an with
    | true => cases inS re (f i) rn <;> rfl
    | false => cases inS re (f i) rn <;> rfl
  have HKa : Hid (∀ i, inS av (f i) an = true → (knF f rn re an av i == 0) = false) := fun i h9 => by unfold knF; rw [if_pos h9]; rfl
  have HKb : Hid (∀ r i, inS av (f i) an = false → inL (knF f rn re an av) 1 g K R true r i = false → (knF f rn re an av i == 0) = true) := fun r i h9 h8 => by
    cases hs : inS re (f i) rn with
    | true =>
      exfalso
      have h1 : knF f rn re an av i = 1 := by unfold knF; rw [if_neg (by rw [h9]; simp), if_pos hs]
      unfold inL at h8
      rw [lvl_of_aim h1] at h8
      simp at h8
    | false => unfold knF; rw [if_neg (by rw [h9]; simp), if_neg (by rw [hs]; simp)]; rfl
  have HH : Hid (BD w a n f b n g x n K R ∧ SL w ra rn re ∧ SL w aa an av ∧ ∀ i, i < n → K i ≤ 1048576) := ⟨h, hr, ha, hK⟩
  have HR : Hid (OnB n K R) := hR
  have HI0 : Hid (∃ F, IP (((w.alloc (bdO a n c b n d x n q 38)).alloc (wsO ra rn rc aa an ac 25)).alloc (.cells (madeCells #[.int .i64 0] n) 3)) (w.heap.size + 2) n F ∧ ∀ j, j < 0 → F j = lvl (knF f rn re an av) 1 g K R true 0 j) := ⟨_, hro, fun j hj => absurd hj (Nat.not_lt_zero _)⟩
  have HA0 : Hid (Bx (((w.alloc (bdO a n c b n d x n q 38)).alloc (wsO ra rn rc aa an ac 25)).alloc (.cells (madeCells #[.int .i64 0] n) 3)) w.heap.size (bdL a n c b n d x n q)) := bA
  have HW0 : Hid (Bx (((w.alloc (bdO a n c b n d x n q 38)).alloc (wsO ra rn rc aa an ac 25)).alloc (.cells (madeCells #[.int .i64 0] n) 3)) (w.heap.size + 1) [.slice ra rn rc, .slice aa an ac]) := bW
  have x0 := bA.c0
  clear hb2 h hr ha hK hR bA bW hro
  generalize knF f rn re an av = kn at *
  go_enter Tryd.func56, Tryd.ntmps56
  go_wp2
  generalize ((w.alloc (bdO a n c b n d x n q 38)).alloc (wsO ra rn rc aa an ac 25)).alloc (.cells (madeCells #[.int .i64 0] n) 3) = w3 at HI0 HA0 HW0 hb3 hsz x0 y0 ⊢
  clear x0 y0 bA0 hs2 hmk
  go_loopw [36] (fun k wr => ∃ i : Nat, i ≤ n ∧ k = .int .i64 (i : Int) ∧ Hid (∃ F, IP wr (w.heap.size + 2) n F ∧ ∀ j, j < i → F j = lvl kn 1 g K R true 0 j) ∧ Hid (Bx wr w.heap.size (bdL a n c b n d x n q)) ∧ Hid (Bx wr (w.heap.size + 1) [.slice ra rn rc, .slice aa an ac]) ∧ Below w.heap.size w wr) (fun k _ => n - (intOf k).toNat)
  case atStart => exact ⟨0, Nat.zero_le _, rfl, HI0, HA0, HW0, hb3⟩
  case round =>
    obtain ⟨i, hin, rfl, HI, HA, HW, hB⟩ := hrel
    clear HI0 HA0 HW0 hb3
    by_cases hlt : i < n
    · have k0 : (0 : Int) ≤ (i : Int) := by omega
      have k1 : (i : Int) < (n : Int) := by omega
      obtain ⟨F, hIP, hF⟩ := HI.out
      clear HI
      obtain ⟨sb, so, rfl, sl, hc1⟩ := (HH.out.1.nm.below hB) (by omega)
      have y1 := hc1 i hlt
      have z1 := hIP.c i hlt
      have z2 := hIP.lt
      have z3 := hIP.fz i
      have HK1i : Hid ((kn i == 1) = (inS re (f i) rn && !(inS av (f i) an))) := HK1.out i
      have HL0 : Hid (lvl kn 1 g K R true 0 i = if (kn i == 1) = true then 0 else -1) := (rfl : lvl kn 1 g K R true 0 i = _)
      have HIs : Hid (IP (wr.setCell ⟨w.heap.size + 2, i, none⟩ (.int .i64 (-1))) (w.heap.size + 2) n (put F i (-1))) := hIP.set hlt (-1)
      have HN : Hid ((kn i == 1) = false → ∃ F, IP (wr.setCell ⟨w.heap.size + 2, i, none⟩ (.int .i64 (-1))) (w.heap.size + 2) n F ∧ ∀ j, j < i + 1 → F j = lvl kn 1 g K R true 0 j) := fun h9 => ⟨_, HIs.out, fun j hj => by
        unfold put
        by_cases e : j = i
        · subst e; rw [if_pos rfl, HL0.out, if_neg (by rw [h9]; simp)]
        · rw [if_neg e]; exact hF j (by omega)⟩
      have HY : Hid ((kn i == 1) = true → ∃ F, IP ((wr.setCell ⟨w.heap.size + 2, i, none⟩ (.int .i64 (-1))).setCell ⟨w.heap.size + 2, i, none⟩ (.int .i64 0)) (w.heap.size + 2) n F ∧ ∀ j, j < i + 1 → F j = lvl kn 1 g K R true 0 j) := fun h9 => ⟨_, HIs.out.set hlt 0, fun j hj => by
        unfold put
        by_cases e : j = i
        · subst e; rw [if_pos rfl, HL0.out, if_pos h9]
        · rw [if_neg e, if_neg e]; exact hF j (by omega)⟩
      have HA2 : Hid (Bx (wr.setCell ⟨w.heap.size + 2, i, none⟩ (.int .i64 (-1))) w.heap.size (bdL (some ⟨sb, so, none⟩) n c b n d x n q)) := HA.out.far (b' := w.heap.size + 2) (k := i) (.int .i64 (-1)) (by omega)
      have HW2 : Hid (Bx (wr.setCell ⟨w.heap.size + 2, i, none⟩ (.int .i64 (-1))) (w.heap.size + 1) [.slice ra rn rc, .slice aa an ac]) := HW.out.far (b' := w.heap.size + 2) (k := i) (.int .i64 (-1)) (by omega)
      have hBs := hB.setCell (p := ⟨w.heap.size + 2, i, none⟩) (by simp <;> omega) (.int .i64 (-1))
      clear hc1 HA HW HL0 hF hIP
      have z4 := HIs.out.c i hlt
      have z5 := HIs.out.lt
      have z6 := HIs.out.fz i
      have u0 := HW2.out.c0
      have u1 := HW2.out.c1
      have kI2 := kI (f i) _ (HH.out.2.2.1.below hBs)
      have kJ2 := kJ (f i) _ (HH.out.2.1.below hBs)
      have HA3 : Hid (Bx ((wr.setCell ⟨w.heap.size + 2, i, none⟩ (.int .i64 (-1))).setCell ⟨w.heap.size + 2, i, none⟩ (.int .i64 0)) w.heap.size (bdL (some ⟨sb, so, none⟩) n c b n d x n q)) := HA2.out.far (b' := w.heap.size + 2) (k := i) (.int .i64 0) (by omega)
      have HW3 : Hid (Bx ((wr.setCell ⟨w.heap.size + 2, i, none⟩ (.int .i64 (-1))).setCell ⟨w.heap.size + 2, i, none⟩ (.int .i64 0)) (w.heap.size + 1) [.slice ra rn rc, .slice aa an ac]) := HW2.out.far (b' := w.heap.size + 2) (k := i) (.int .i64 0) (by omega)
      have hBt := hBs.setCell (p := ⟨w.heap.size + 2, i, none⟩) (by simp <;> omega) (.int .i64 0)
      clear kI kJ hB HIs
      generalize inS av (f i) an = I at *
      generalize inS re (f i) rn = J at *
      generalize f i = s at *
      go_wp2_with fail
      clear z1 z2 z3 y1
      generalize wr.setCell ⟨w.heap.size + 2, i, none⟩ (.int .i64 (-1)) = w9 at *
      cases J with
      | false =>
        have HI2 : Hid (∃ F, IP w9 (w.heap.size + 2) n F ∧ ∀ j, j < i + 1 → F j = lvl kn 1 g K R true 0 j) := HN.out (by rw [HK1i.out]; rfl)
        clear HN HY HA3 HW3 kI2
        refine kJ2.mono ?_
        rintro e w10 ⟨rfl, hw10⟩
        have hs' := hw10.symm
        clear hw10 kJ2
        subst hs'
        go_wp2
        exact ⟨⟨i + 1, by omega, by go_num, HI2, HA2, HW2, hBs⟩, by simp [intOf]; omega⟩
      | true =>
        cases I with
        | true =>
          have HI2 : Hid (∃ F, IP w9 (w.heap.size + 2) n F ∧ ∀ j, j < i + 1 → F j = lvl kn 1 g K R true 0 j) := HN.out (by rw [HK1i.out]; rfl)
          clear HN HY HA3 HW3
          refine kJ2.mono ?_
          rintro e w10 ⟨rfl, hw10⟩
          have hs' := hw10.symm
          clear hw10 kJ2
          subst hs'
          go_wp2_with fail
          refine kI2.mono ?_
          rintro e w10 ⟨rfl, hw10⟩
          have hs' := hw10.symm
          clear hw10 kI2
          subst hs'
          go_wp2
          exact ⟨⟨i + 1, by omega, by go_num, HI2, HA2, HW2, hBs⟩, by simp [intOf]; omega⟩
        | false =>
          have HI2 : Hid (∃ F, IP (w9.setCell ⟨w.heap.size + 2, i, none⟩ (.int .i64 0)) (w.heap.size + 2) n F ∧ ∀ j, j < i + 1 → F j = lvl kn 1 g K R true 0 j) := HY.out (by rw [HK1i.out]; rfl)
          clear HN HY
          refine kJ2.mono ?_
          rintro e w10 ⟨rfl, hw10⟩
          have hs' := hw10.symm
          clear hw10 kJ2
          subst hs'
          go_wp2_with fail
          refine kI2.mono ?_
          rintro e w10 ⟨rfl, hw10⟩
          have hs' := hw10.symm
          clear hw10 kI2
          subst hs'
          go_wp2
          exact ⟨⟨i + 1, by omega, by go_num, HI2, HA3, HW3, hBt⟩, by simp [intOf]; omega⟩
    · have hii : i = n := by omega
      subst hii
      have HI1 : Hid (IP wr (w.heap.size + 2) i (lvl kn 1 g K R true 0)) := by
        obtain ⟨F, h9, h8⟩ := HI.out
        exact h9.congr fun j hj => h8 j hj
      clear HI kJ HK1
      obtain ⟨i0, hi, hzz⟩ := Option.map_eq_some_iff.1 infoI
      simp only [Prod.mk.injEq] at hzz
      obtain ⟨hz0, hz1, hz2⟩ := hzz
      go_wp2_with fail
      go_loopw [9] (fun k wr => ∃ r : Nat, r ≤ i ∧ k = .int .i64 ((r : Int) + 1) ∧ Hid (IP wr (w.heap.size + 2) i (lvl kn 1 g K R true r)) ∧ Hid (Bx wr w.heap.size (bdL a i c b i d x i q)) ∧ Hid (Bx wr (w.heap.size + 1) [.slice ra rn rc, .slice aa an ac]) ∧ Below w.heap.size w wr) (fun k _ => i + 1 - (intOf k).toNat)
      case atStart => exact ⟨0, Nat.zero_le _, by simp, HI1, HA, HW, hB⟩
      case round =>
        obtain ⟨r, hr, rfl, HI, HA2, HW2, hB2⟩ := hrel
        clear HI1 HA HW hB
        by_cases hlt : r < i
        · have r1 : (r : Int) + 1 ≤ (i : Int) := by omega
          have HFs : Hid (∀ j, j < i → fsF (nwL (nwP kn g K R r) i) ((r : Int) + 1) (lvl kn 1 g K R true r) (nwL (nwP kn g K R r) i).length j = lvl kn 1 g K R true (r + 1) j) := fun j hj => fs_last j hj
          obtain ⟨w8, hw8⟩ : ∃ w8, w8 = wr := ⟨wr, rfl⟩
          subst hw8
          have hlt8 := HI.out.lt
          have HO0 : Hid (Own w8 w8.heap.size (.slice none 0 0) (nwL (nwP kn g K R r) 0).length (gl (nwL (nwP kn g K R r) 0))) := own_nil2 w8 w8.heap.size _
          go_wp2_with fail
          go_loopw [10, 66] (fun v k wr => ∃ j : Nat, j ≤ i ∧ k = .int .i64 (j : Int) ∧ Own wr w8.heap.size v (nwL (nwP kn g K R r) j).length (gl (nwL (nwP kn g K R r) j)) ∧ Below w8.heap.size w8 wr) (fun _ k _ => i - (intOf k).toNat)
          case atStart => exact ⟨0, Nat.zero_le _, rfl, HO0.out, Below.refl _ _⟩
          case round =>
            obtain ⟨j, hj, rfl, hown, hB3⟩ := hrel
            clear HO0
            have hbase := hB3.size
            have hBw := stepA hB2 hB3
            have hlen := nwL_len (nwP kn g K R r) j
            by_cases hlj : j < i
            · have k0 : (0 : Int) ≤ (j : Int) := by omega
              have k1 : (j : Int) < (i : Int) := by omega
              have HI3 : Hid (IP wr (w.heap.size + 2) i (lvl kn 1 g K R true r)) := HI.out.below hB3 hlt8
              have HA3 : Hid (Bx wr w.heap.size (bdL a i c b i d x i q)) := HA2.out.on hB3
              have HW3 : Hid (Bx wr (w.heap.size + 1) [.slice ra rn rc, .slice aa an ac]) := HW2.out.on hB3
              have y0 := HI3.out.c j hlj
              have HPn : Hid (nwP kn g K R r j = false → nwL (nwP kn g K R r) (j + 1) = nwL (nwP kn g K R r) j) := fun h9 => by rw [nwL, if_neg (by rw [h9]; simp)]
              have HPy : Hid (nwP kn g K R r j = true → nwL (nwP kn g K R r) (j + 1) = nwL (nwP kn g K R r) j ++ [(j : Int)]) := fun h9 => by rw [nwL, if_pos h9]
              have HPd : Hid (nwP kn g K R r j = (!(inL kn 1 g K R true r j) && ((kn j == 0) && stp g K R true (inL kn 1 g K R true r) j))) := (rfl : nwP kn g K R r j = _)
              have HIn : Hid (inL kn 1 g K R true r j = decide (0 ≤ lvl kn 1 g K R true r j)) := (rfl : inL kn 1 g K R true r j = _)
              have HStp : Hid (stp g K R true (inL kn 1 g K R true r) j = if (g j == true) = true then smB (inL kn 1 g K R true r) (R j) (K j) else (decide (K j ≠ 0) && alB (inL kn 1 g K R true r) (R j) (K j))) := (rfl : stp g K R true (inL kn 1 g K R true r) j = _)
              obtain ⟨sb, so, esb, sl, hc1⟩ := (HH.out.1.nm.below hBw) (by omega)
              have y1 := hc1 j hlj
              obtain ⟨mb, mo, emb, ml, hc2⟩ := (HH.out.1.mi.below hBw) (by omega)
              have y2 := hc2 j hlj
              obtain ⟨A, C, hA⟩ := HH.out.1.nx
              obtain ⟨xb, xo, exb, xl, hc3⟩ := (hA.below hBw).out (by omega)
              have y3 := hc3 j hlj
              have hrow := (hA.below hBw).row j hlj
              subst esb emb exb
              have u0 := HA3.out.c0
              have u2 := HA3.out.c2
              have u4 := HW3.out.c1
              have kI2 := fun w2 h => kI (f j) w2 h
              have hav := HH.out.2.2.1.below hBw
              have hKj := HH.out.2.2.2 j hlj
              have HRj : Hid (∀ t, t < K j → 0 ≤ R j t ∧ R j t < (i : Int)) := HR.out j hlj
              have HKa2 : Hid (inS av (f j) an = true → (kn j == 0) = false) := HKa.out j
              have HKb2 : Hid (inS av (f j) an = false → inL kn 1 g K R true r j = false → (kn j == 0) = true) := HKb.out r j
              clear hc1 hc2 hc3 hA
              obtain ⟨sa, sc, rfl⟩ := hown.shape
              obtain ⟨wb, hwb⟩ : ∃ wb, wb = wr := ⟨wr, rfl⟩
              subst hwb
              have hfin : ∀ nq, Own (wb.drewN nq) w8.heap.size (.slice sa (nwL (nwP kn g K R r) j).length sc) (nwL (nwP kn g K R r) j).length (gl (nwL (nwP kn g K R r) j)) ∧ Below w8.heap.size w8 (wb.drewN nq) := fun nq => ⟨hown.below (below_dr (Below.refl _ _) nq), below_dr hB3 nq⟩
              have HFin : Hid (∀ nq, Own (wb.drewN nq) w8.heap.size (.slice sa (nwL (nwP kn g K R r) j).length sc) (nwL (nwP kn g K R r) j).length (gl (nwL (nwP kn g K R r) j)) ∧ Below w8.heap.size w8 (wb.drewN nq)) := hfin
              clear hfin
              generalize hM : K j = M at *
              generalize hFj : R j = F at *
              generalize A j = Z at *
              generalize C j = Y at *
              generalize g j = G at *
              generalize inS av (f j) an = I at *
              generalize f j = sj at *
              generalize hV : lvl kn 1 g K R true r j = V at *
              by_cases hv0 : 0 ≤ V
              · have d0 : decide (0 ≤ V) = true := decide_eq_true hv0
                have HE : Hid (nwL (nwP kn g K R r) (j + 1) = nwL (nwP kn g K R r) j) := HPn.out (by rw [HPd.out, HIn.out, d0]; rfl)
                clear HPn HPy HPd HIn HStp HKa2 HKb2 hM hFj hV HRj
                go_wp2_with fail
                go_quiet (fail)
                obtain ⟨hown9, hB9⟩ := HFin.out nq
                go_wp2
                exact ⟨⟨j + 1, by omega, by go_num, by rw [HE.out]; exact hown9, hB9⟩, by simp [intOf]; omega⟩
              have d0 : decide (0 ≤ V) = false := decide_eq_false hv0
              cases I with
              | true =>
                have HE : Hid (nwL (nwP kn g K R r) (j + 1) = nwL (nwP kn g K R r) j) := HPn.out (by rw [HPd.out, HKa2.out rfl]; simp)
                clear HPn HPy HPd HIn HStp HKa2 HKb2 hM hFj hV HRj
                go_wp2_with fail
                go_quiet ((go_at_call 66; exact Calls.quiet_of_same (kI2 _ (hav.below (by first | exact Below.refl _ _ | exact below_dr (Below.refl _ _) _)))))
                obtain ⟨hown9, hB9⟩ := HFin.out nq
                go_wp2
                exact ⟨⟨j + 1, by omega, by go_num, by rw [HE.out]; exact hown9, hB9⟩, by simp [intOf]; omega⟩
              | false =>
                have HKn0 : Hid ((kn j == 0) = true) := HKb2.out rfl (by rw [HIn.out, d0])
                have HP2 : Hid (nwP kn g K R r j = stp g K R true (inL kn 1 g K R true r) j) := by
                  show nwP kn g K R r j = _
                  rw [HPd.out, HKn0.out, HIn.out, d0]; rfl
                clear HKa2 HKb2 HPd HKn0 HIn
                by_cases hM0 : M = 0
                · have e1 : ((M : Int) == 0) = true := by simp; omega
                  have HE : Hid (nwL (nwP kn g K R r) (j + 1) = nwL (nwP kn g K R r) j) := HPn.out (by
                    rw [HP2.out, HStp.out, hM0]
                    split <;> rfl)
                  clear HPn HPy HP2 HStp hM hFj hV HRj
                  go_wp2_with fail
                  go_quiet ((go_at_call 66; exact Calls.quiet_of_same (kI2 _ (hav.below (by first | exact Below.refl _ _ | exact below_dr (Below.refl _ _) _)))))
                  obtain ⟨hown9, hB9⟩ := HFin.out nq
                  go_wp2
                  exact ⟨⟨j + 1, by omega, by go_num, by rw [HE.out]; exact hown9, hB9⟩, by simp [intOf]; omega⟩
                · have e1 : ((M : Int) == 0) = false := by simp; omega
                  have HP3 : Hid (nwP kn g K R r j = if G = true then smB (inL kn 1 g K R true r) F M else alB (inL kn 1 g K R true r) F M) := by
                    show nwP kn g K R r j = _
                    rw [HP2.out, HStp.out]
                    cases G with
                    | true => rfl
                    | false => rw [if_neg (by simp), if_neg (by simp), decide_eq_true hM0]; rfl
                  clear HP2 HStp hM hFj hV
                  go_wp2_with fail
                  go_quiet ((go_at_call 66; exact Calls.quiet_of_same (kI2 _ (hav.below (by first | exact Below.refl _ _ | exact below_dr (Below.refl _ _) _)))))
                  have hbq : Below wb.heap.size wb (wb.drewN nq) := below_dr (Below.refl _ _) nq
                  obtain ⟨hown9, hB9⟩ := HFin.out nq
                  have HI9 : Hid (IP (wb.drewN nq) (w.heap.size + 2) i (lvl kn 1 g K R true r)) := HI3.out.below hbq HI3.out.lt
                  have HA9 : Hid (Bx (wb.drewN nq) w.heap.size (bdL (some ⟨sb, so, none⟩) i c (some ⟨mb, mo, none⟩) i d (some ⟨xb, xo, none⟩) i q)) := HA3.out.on hbq
                  have v2 := HA9.out.c2
                  have v1 := HA9.out.c1
                  have hrow9 := hrow.below hbq
                  have y9 : (wb.drewN nq).cell? ⟨xb, xo + j, none⟩ = some (.slice Z M Y) := (hbq.cell (p := ⟨xb, xo + j, none⟩) xl).trans y3
                  have y10 : (wb.drewN nq).cell? ⟨mb, mo + j, none⟩ = some (.bool G) := (hbq.cell (p := ⟨mb, mo + j, none⟩) ml).trans y2
                  have xl9 : xb < (wb.drewN nq).heap.size := xl
                  have ml9 : mb < (wb.drewN nq).heap.size := ml
                  have hbase9 : w8.heap.size ≤ (wb.drewN nq).heap.size := hbase
                  clear y0 y1 y2 y3 u0 u2 u4 kI2 hav hrow hbq HFin HI3 HA3 HW3 hown hB3 hBw hbase d0 hv0
                  generalize wb.drewN nq = wa at *
                  go_wp2_with fail
                  go_loopw [12, 13, 99] (fun so al k wr => ∃ t : Nat, t ≤ M ∧ k = .int .i64 (t : Int) ∧ so = .bool (smB (inL kn 1 g K R true r) F t) ∧ al = .bool (alB (inL kn 1 g K R true r) F t) ∧ wr = wa) (fun _ _ k _ => M - (intOf k).toNat)
                  case atStart => exact ⟨0, Nat.zero_le _, rfl, rfl, rfl, rfl⟩
                  case round =>
                    obtain ⟨t, ht, rfl, rfl, rfl, hw⟩ := hrel
                    have hw' := hw.symm
                    clear hw
                    subst hw'
                    by_cases hlr : t < M
                    · obtain ⟨fb, fo, rfl, fl, hc5⟩ := hrow9 (by omega)
                      have z1 := hc5 t hlr
                      have hFr := HRj.out t hlr
                      have z2 := HI9.out.c (F t).toNat (by omega)
                      have f0 := hFr.1
                      have f1 := hFr.2
                      have q0 : (0 : Int) ≤ (t : Int) := by omega
                      have q1 : (t : Int) < (M : Int) := by omega
                      have HEA : Hid (alB (inL kn 1 g K R true r) F (t + 1) = (alB (inL kn 1 g K R true r) F t && inL kn 1 g K R true r (F t).toNat)) := (rfl : alB (inL kn 1 g K R true r) F (t + 1) = _)
                      have HES : Hid (smB (inL kn 1 g K R true r) F (t + 1) = (smB (inL kn 1 g K R true r) F t || inL kn 1 g K R true r (F t).toNat)) := (rfl : smB (inL kn 1 g K R true r) F (t + 1) = _)
                      have HB2 : Hid (inL kn 1 g K R true r (F t).toNat = decide (0 ≤ lvl kn 1 g K R true r (F t).toNat)) := (rfl : inL kn 1 g K R true r (F t).toNat = _)
                      clear hc5 HPn HPy HP3 hFr
                      generalize F t = G2 at *
                      generalize lvl kn 1 g K R true r G2.toNat = W2 at *
                      generalize inL kn 1 g K R true r G2.toNat = B2 at *
                      generalize alB (inL kn 1 g K R true r) F t = a1 at *
                      generalize smB (inL kn 1 g K R true r) F t = a2 at *
                      by_cases w1 : 0 ≤ W2
                      · have hb2 : B2 = true := by rw [HB2.out, decide_eq_true w1]
                        subst hb2
                        cases a1 <;> cases a2 <;> go_wp2 <;> exact ⟨⟨t + 1, by omega, by go_num, by rw [HES.out]; rfl, by rw [HEA.out]; rfl, trivial⟩, by simp [intOf]; omega⟩
                      · have hb2 : B2 = false := by rw [HB2.out, decide_eq_false w1]
                        subst hb2
                        cases a1 <;> cases a2 <;> go_wp2 <;> exact ⟨⟨t + 1, by omega, by go_num, by rw [HES.out]; rfl, by rw [HEA.out]; rfl, trivial⟩, by simp [intOf]; omega⟩
                    · have htM : t = M := by omega
                      subst htM
                      have HOw : Hid (∀ (v : Value) (w6 : World), w6.ownsRow w8.heap.size 3 1 v ((nwL (nwP kn g K R r) j).length + 1) (vL (gl (nwL (nwP kn g K R r) j)) (nwL (nwP kn g K R r) j).length ++ [.int .i64 (j : Int)]) → Own w6 w8.heap.size v (nwL (nwP kn g K R r) j ++ [(j : Int)]).length (gl (nwL (nwP kn g K R r) j ++ [(j : Int)]))) := fun v w6 hh => own_snoc hh
                      have HNo : Hid ((if G = true then smB (inL kn 1 g K R true r) F t else alB (inL kn 1 g K R true r) F t) = false → nwL (nwP kn g K R r) (j + 1) = nwL (nwP kn g K R r) j) := fun h9 => HPn.out (HP3.out.trans h9)
                      have HYes : Hid ((if G = true then smB (inL kn 1 g K R true r) F t else alB (inL kn 1 g K R true r) F t) = true → nwL (nwP kn g K R r) (j + 1) = nwL (nwP kn g K R r) j ++ [(j : Int)]) := fun h9 => HPy.out (HP3.out.trans h9)
                      clear HPn HPy HP3 HRj hrow9
                      generalize alB (inL kn 1 g K R true r) F t = a1 at *
                      generalize smB (inL kn 1 g K R true r) F t = a2 at *
                      cases G with
                      | true =>
                        cases a2 with
                        | true =>
                          have HE : Hid (nwL (nwP kn g K R r) (j + 1) = nwL (nwP kn g K R r) j ++ [(j : Int)]) := HYes.out rfl
                          clear HNo HYes
                          go_wp2_with (at_builtin; refine wpList_append_own _ rfl _ _ 41 rfl w8.heap.size 3 i0 (.int .i64 0) 1 8 Tryd.underlying41 hi hz0 hz1 hz2 rfl (by decide) _ _ _ rfl (World.ownsRow.alloc hown9 _) ⟨wa.heap.size, 0, none⟩ 1 1 [.int .i64 (j : Int)] rfl rfl (cell_one_new _ _ _) (fun x hx => by simp at hx; subst hx; rfl) (by unfold maxLen; omega) (by omega) (by simp; omega) ?_; intro v' w6 hown' hgrow3 _)
                          simp
                          go_wp2
                          have hB11 := (hB9.alloc hbase9 (.cells #[.int .i64 (j : Int)] 3)).grown hgrow3 (by simp; omega) (fun q hq => (World.ownsRow.lt hown9 q hq).1)
                          exact ⟨⟨j + 1, by omega, by go_num, by rw [HE.out]; exact HOw.out _ _ hown', hB11⟩, by simp [intOf]; omega⟩
                        | false =>
                          have HE : Hid (nwL (nwP kn g K R r) (j + 1) = nwL (nwP kn g K R r) j) := HNo.out rfl
                          clear HNo HYes
                          go_wp2
                          exact ⟨⟨j + 1, by omega, by go_num, by rw [HE.out]; exact hown9, hB9⟩, by simp [intOf]; omega⟩
                      | false =>
                        cases a1 with
                        | true =>
                          have HE : Hid (nwL (nwP kn g K R r) (j + 1) = nwL (nwP kn g K R r) j ++ [(j : Int)]) := HYes.out rfl
                          clear HNo HYes
                          go_wp2_with (at_builtin; refine wpList_append_own _ rfl _ _ 41 rfl w8.heap.size 3 i0 (.int .i64 0) 1 8 Tryd.underlying41 hi hz0 hz1 hz2 rfl (by decide) _ _ _ rfl (World.ownsRow.alloc hown9 _) ⟨wa.heap.size, 0, none⟩ 1 1 [.int .i64 (j : Int)] rfl rfl (cell_one_new _ _ _) (fun x hx => by simp at hx; subst hx; rfl) (by unfold maxLen; omega) (by omega) (by simp; omega) ?_; intro v' w6 hown' hgrow3 _)
                          simp
                          go_wp2
                          have hB11 := (hB9.alloc hbase9 (.cells #[.int .i64 (j : Int)] 3)).grown hgrow3 (by simp; omega) (fun q hq => (World.ownsRow.lt hown9 q hq).1)
                          exact ⟨⟨j + 1, by omega, by go_num, by rw [HE.out]; exact HOw.out _ _ hown', hB11⟩, by simp [intOf]; omega⟩
                        | false =>
                          have HE : Hid (nwL (nwP kn g K R r) (j + 1) = nwL (nwP kn g K R r) j) := HNo.out rfl
                          clear HNo HYes
                          go_wp2
                          exact ⟨⟨j + 1, by omega, by go_num, by rw [HE.out]; exact hown9, hB9⟩, by simp [intOf]; omega⟩
            · have hji : j = i := by omega
              subst hji
              have HI3 : Hid (IP wr (w.heap.size + 2) j (fsF (nwL (nwP kn g K R r) j) ((r : Int) + 1) (lvl kn 1 g K R true r) 0)) := (HI.out.below hB3 hlt8).congr fun t _ => by unfold fsF; rw [if_neg (by simp)]
              have HA3 : Hid (Bx wr w.heap.size (bdL a j c b j d x j q)) := HA2.out.on hB3
              have HW3 : Hid (Bx wr (w.heap.size + 1) [.slice ra rn rc, .slice aa an ac]) := HW2.out.on hB3
              have HAt : Hid (∀ t, t < (nwL (nwP kn g K R r) j).length → ∃ k, k < j ∧ gl (nwL (nwP kn g K R r) j) t = (k : Int)) := fun t ht => by
                obtain ⟨k, h9, _, h8⟩ := nwL_at (nwP kn g K R r) j ht
                exact ⟨k, h9, h8⟩
              have HSt : Hid (∀ t k w2, t < (nwL (nwP kn g K R r) j).length → k < j → gl (nwL (nwP kn g K R r) j) t = (k : Int) → IP w2 (w.heap.size + 2) j (fsF (nwL (nwP kn g K R r) j) ((r : Int) + 1) (lvl kn 1 g K R true r) t) → IP (w2.setCell ⟨w.heap.size + 2, k, none⟩ (.int .i64 ((r : Int) + 1))) (w.heap.size + 2) j (fsF (nwL (nwP kn g K R r) j) ((r : Int) + 1) (lvl kn 1 g K R true r) (t + 1))) := fun t k w2 ht hk e9 h9 => (h9.set hk ((r : Int) + 1)).congr fun y _ => fs_set ht e9 y
              obtain ⟨sa, sc, rfl⟩ := hown.shape
              have hmore : ∃ lo, w8.heap.size ≤ lo ∧ (0 < (nwL (nwP kn g K R r) j).length → ∃ mb, sa = some ⟨mb, 0, none⟩ ∧ lo ≤ mb ∧ IP wr mb (nwL (nwP kn g K R r) j).length (gl (nwL (nwP kn g K R r) j))) := ⟨w8.heap.size, Nat.le_refl _, fun h9 => by
                obtain ⟨mb, cap, e9, h8, h7⟩ := hown.some h9
                cases e9
                exact ⟨mb, rfl, h8, h7⟩⟩
              have HMo : Hid (0 < (nwL (nwP kn g K R r) j).length → ∃ mb, sa = some ⟨mb, 0, none⟩ ∧ w8.heap.size ≤ mb ∧ IP wr mb (nwL (nwP kn g K R r) j).length (gl (nwL (nwP kn g K R r) j))) := fun h9 => by
                obtain ⟨mb, cap, e9, h8, h7⟩ := hown.some h9
                cases e9
                exact ⟨mb, rfl, h8, h7⟩
              clear hown hmore kI HI HA2 HW2
              generalize nwL (nwP kn g K R r) j = ML at *
              generalize hLe : ML.length = LE at *
              go_wp2_with fail
              obtain ⟨wb, hwb⟩ : ∃ wb, wb = wr := ⟨wr, rfl⟩
              subst hwb
              go_loopw [143] (fun k wr => ∃ t : Nat, t ≤ LE ∧ k = .int .i64 (t : Int) ∧ Hid (IP wr (w.heap.size + 2) j (fsF ML ((r : Int) + 1) (lvl kn 1 g K R true r) t)) ∧ Hid (0 < LE → ∃ mb, sa = some ⟨mb, 0, none⟩ ∧ w8.heap.size ≤ mb ∧ IP wr mb LE (gl ML)) ∧ Hid (Bx wr w.heap.size (bdL a j c b j d x j q)) ∧ Hid (Bx wr (w.heap.size + 1) [.slice ra rn rc, .slice aa an ac]) ∧ Below w.heap.size w wr) (fun k _ => LE - (intOf k).toNat)
              case atStart => exact ⟨0, Nat.zero_le _, rfl, HI3, HMo, HA3, HW3, hBw⟩
              case round =>
                obtain ⟨t, ht, rfl, HI4, HM4, HA4, HW4, hB4⟩ := hrel
                clear HI3 HMo HA3 HW3 hBw
                by_cases hlt5 : t < LE
                · obtain ⟨mb, rfl, hmb, hIPm⟩ := HM4.out (by omega)
                  have z1 := hIPm.c t hlt5
                  have z2 := hIPm.lt
                  obtain ⟨k, hk, ek⟩ := HAt.out t hlt5
                  rw [ek] at z1
                  have y1 := HI4.out.c k hk
                  have y2 := HI4.out.lt
                  have y3 := HI4.out.fz k
                  have HI5 : Hid (IP (wr.setCell ⟨w.heap.size + 2, k, none⟩ (.int .i64 ((r : Int) + 1))) (w.heap.size + 2) j (fsF ML ((r : Int) + 1) (lvl kn 1 g K R true r) (t + 1))) := HSt.out t k wr hlt5 hk ek HI4.out
                  have HM5 : Hid (0 < LE → ∃ mb', (some ⟨mb, 0, none⟩ : Option Addr) = some ⟨mb', 0, none⟩ ∧ w8.heap.size ≤ mb' ∧ IP (wr.setCell ⟨w.heap.size + 2, k, none⟩ (.int .i64 ((r : Int) + 1))) mb' LE (gl ML)) := fun _ => ⟨mb, rfl, hmb, hIPm.only ((Only.refl (w.heap.size + 2) wr).set k (.int .i64 ((r : Int) + 1))) (by omega)⟩
                  have HA5 : Hid (Bx (wr.setCell ⟨w.heap.size + 2, k, none⟩ (.int .i64 ((r : Int) + 1))) w.heap.size (bdL a j c b j d x j q)) := HA4.out.far (b' := w.heap.size + 2) (k := k) (.int .i64 ((r : Int) + 1)) (by omega)
                  have HW5 : Hid (Bx (wr.setCell ⟨w.heap.size + 2, k, none⟩ (.int .i64 ((r : Int) + 1))) (w.heap.size + 1) [.slice ra rn rc, .slice aa an ac]) := HW4.out.far (b' := w.heap.size + 2) (k := k) (.int .i64 ((r : Int) + 1)) (by omega)
                  have hB5 := hB4.setCell (p := ⟨w.heap.size + 2, k, none⟩) (by simp <;> omega) (.int .i64 ((r : Int) + 1))
                  have t0 : (0 : Int) ≤ (t : Int) := by omega
                  have t1 : (t : Int) < (LE : Int) := by omega
                  have k0 : (0 : Int) ≤ (k : Int) := by omega
                  have k1 : (k : Int) < (j : Int) := by omega
                  clear HI4 HM4 HA4 HW4 hIPm HSt HAt ek hB4
                  go_wp2
                  exact ⟨⟨t + 1, by omega, by go_num, HI5, HM5, HA5, HW5, hB5⟩, by simp [intOf]; omega⟩
                · have htl : t = LE := by omega
                  subst htl
                  have HI5 : Hid (IP wr (w.heap.size + 2) j (lvl kn 1 g K R true (r + 1))) := HI4.out.congr fun y hy => HFs.out y hy
                  clear HI4 HM4
                  go_wp2
                  exact ⟨⟨r + 1, by omega, by go_num, HI5, HA4, HW4, hB4⟩, by simp [intOf]; omega⟩
        · have hri : r = i := by omega
          subst hri
          have r1 : ¬ (r : Int) + 1 ≤ (r : Int) := by omega
          have HF : Hid (IP wr (w.heap.size + 2) r (rkV r kn rn g K R)) := HI.out.congr fun y _ => (HRV.out y).symm
          clear HI HRV
          go_wp2
          go_ret
          exact ⟨⟨w.heap.size + 2, r, rfl, by omega, Nat.le_refl _, HF.out⟩, hB2⟩
end Go.Proofs.YtapodfkoknmhdaaDoor
