/- What sorting and dropping doubles comes to: the numbers that were marked, rising. -/
import Derived.Test.YtbndhhjgjalecaaDoorQClNxB
import Derived.Lib.SlicesCompact
import Derived.Test.YtbndhhjgjalecaaDoorQClKind
import Derived.Test.YtbndhhjgjalecaaDoorQCwGpM
namespace Go.Proofs.YtbndhhjgjalecaaDoor
open Go.RowKit

/-- the first k steps, in the order of the places -/
def sts (h : Int → Int) (g : Nat → Int) : Nat → List Int
  | 0 => []
  | k + 1 => sts h g k ++ [h (g k)]
theorem sts_len (h : Int → Int) (g : Nat → Int) (k : Nat) : (sts h g k).length = k := by
  induction k with
  | zero => rfl
  | succ k ih => simp [sts, ih]
theorem sts_mem (h : Int → Int) (g : Nat → Int) (k : Nat) (x : Int) : x ∈ sts h g k ↔ ∃ j, j < k ∧ h (g j) = x := by
  induction k with
  | zero => simp [sts]
  | succ k ih =>
    simp only [sts, List.mem_append, List.mem_singleton, ih]
    constructor
    · rintro (⟨j, hj, e⟩ | e)
      · exact ⟨j, by omega, e⟩
      · exact ⟨k, by omega, e.symm⟩
    · rintro ⟨j, hj, e⟩
      by_cases he : j = k
      · subst he; exact Or.inr e.symm
      · exact Or.inl ⟨j, by omega, e⟩
/-- which numbers the first k steps come to -/
def mkd (h : Int → Int) (g : Nat → Int) : Nat → Nat → Int
  | 0, _ => 0
  | k + 1, i => if (i : Int) = h (g k) then 1 else mkd h g k i
theorem mkd_iff (h : Int → Int) (g : Nat → Int) (k i : Nat) : mkd h g k i = 1 ↔ ∃ j, j < k ∧ h (g j) = (i : Int) := by
  induction k with
  | zero => simp [mkd]
  | succ k ih =>
    unfold mkd
    by_cases e : (i : Int) = h (g k)
    · rw [if_pos e]; exact ⟨fun _ => ⟨k, by omega, e.symm⟩, fun _ => rfl⟩
    · rw [if_neg e, ih]
      constructor
      · rintro ⟨j, hj, he⟩; exact ⟨j, by omega, he⟩
      · rintro ⟨j, hj, he⟩
        by_cases hk : j = k
        · subst hk; exact absurd he.symm e
        · exact ⟨j, by omega, he⟩
theorem mkd_two (h : Int → Int) (g : Nat → Int) (k i : Nat) : mkd h g k i = 0 ∨ mkd h g k i = 1 := by
  induction k with
  | zero => exact Or.inl rfl
  | succ k ih => unfold mkd; split; { exact Or.inr rfl }; { exact ih }
/-- the numbers below k that are marked -/
def ord (t : Nat → Int) : Nat → List Int
  | 0 => []
  | k + 1 => if t k = 1 then ord t k ++ [(k : Int)] else ord t k
theorem ord_len (t : Nat → Int) (k : Nat) : (ord t k).length ≤ k := by
  induction k with
  | zero => simp [ord]
  | succ k ih => unfold ord; split; { simp; omega }; { omega }
theorem ord_mem (t : Nat → Int) (k : Nat) (x : Int) : x ∈ ord t k ↔ ∃ i : Nat, i < k ∧ t i = 1 ∧ (i : Int) = x := by
  induction k with
  | zero => simp [ord]
  | succ k ih =>
    unfold ord
    by_cases e : t k = 1
    · rw [if_pos e, List.mem_append, List.mem_singleton, ih]
      constructor
      · rintro (⟨i, hi, h1, h2⟩ | e2)
        · exact ⟨i, by omega, h1, h2⟩
        · exact ⟨k, by omega, e, e2.symm⟩
      · rintro ⟨i, hi, h1, h2⟩
        by_cases hk : i = k
        · subst hk; exact Or.inr h2.symm
        · exact Or.inl ⟨i, by omega, h1, h2⟩
    · rw [if_neg e, ih]
      constructor
      · rintro ⟨i, hi, h1, h2⟩; exact ⟨i, by omega, h1, h2⟩
      · rintro ⟨i, hi, h1, h2⟩
        by_cases hk : i = k
        · subst hk; exact absurd h1 e
        · exact ⟨i, by omega, h1, h2⟩
theorem ord_up (t : Nat → Int) (k : Nat) : (ord t k).Pairwise (· < ·) := by
  induction k with
  | zero => simp [ord]
  | succ k ih =>
    unfold ord
    split
    · rw [List.pairwise_append]
      refine ⟨ih, by simp, fun x hx y hy => ?_⟩
      obtain ⟨i, hi, _, rfl⟩ := (ord_mem t k x).1 hx
      simp only [List.mem_singleton] at hy
      subst hy
      omega
    · exact ih
theorem up_ext : ∀ (l m : List Int), l.Pairwise (· < ·) → m.Pairwise (· < ·) → (∀ x, x ∈ l ↔ x ∈ m) → l = m := by
  intro l
  induction l with
  | nil =>
    intro m _ _ h
    cases m with
    | nil => rfl
    | cons y m => exact absurd ((h y).2 (by simp)) (by simp)
  | cons x l ih =>
    intro m hl hm h
    cases m with
    | nil => exact absurd ((h x).1 (by simp)) (by simp)
    | cons y m =>
      rw [List.pairwise_cons] at hl hm
      have exy : x = y := by
        have h1 := (h x).1 (by simp)
        have h2 := (h y).2 (by simp)
        rw [List.mem_cons] at h1 h2
        rcases h1 with e | h1
        · exact e
        · rcases h2 with e | h2
          · exact e.symm
          · have := hm.1 x h1
            have := hl.1 y h2
            omega
      subst exy
      rw [ih m hl.2 hm.2 ?_]
      intro z
      constructor
      · intro hz
        have := (h z).1 (List.mem_cons_of_mem _ hz)
        rw [List.mem_cons] at this
        rcases this with e | e
        · have := hl.1 z hz; omega
        · exact e
      · intro hz
        have := (h z).2 (List.mem_cons_of_mem _ hz)
        rw [List.mem_cons] at this
        rcases this with e | e
        · have := hm.1 z hz; omega
        · exact e
theorem cu_up (d : Array Int) (hs : ∀ i j, i ≤ j → j < d.size → d[i]! ≤ d[j]!) (m : Nat) (hm : m ≤ d.size) :
    (Lib.compactUpTo d m).Pairwise (· < ·) ∧ ∀ x, x ∈ Lib.compactUpTo d m ↔ ∃ j, j < m ∧ d[j]! = x := by
  induction m with
  | zero => exact ⟨by simp [Lib.compactUpTo], fun x => by simp [Lib.compactUpTo]⟩
  | succ m ih =>
    obtain ⟨i1, i2⟩ := ih (by omega)
    rw [Lib.compactUpTo_succ]
    cases hk : Lib.keeps d m with
    | true =>
      have hk2 : m = 0 ∨ d[m]! ≠ d[m - 1]! := by simpa [Lib.keeps] using hk
      rw [if_pos rfl]
      constructor
      · rw [List.pairwise_append]
        refine ⟨i1, by simp, fun x hx y hy => ?_⟩
        obtain ⟨j, hj, rfl⟩ := (i2 x).1 hx
        simp only [List.mem_singleton] at hy
        subst hy
        have h1 := hs j (m - 1) (by omega) (by omega)
        have h2 := hs (m - 1) m (by omega) (by omega)
        rcases hk2 with e | e
        · omega
        · omega
      · intro x
        rw [List.mem_append, List.mem_singleton, i2]
        constructor
        · rintro (⟨j, hj, e⟩ | e)
          · exact ⟨j, by omega, e⟩
          · exact ⟨m, by omega, e.symm⟩
        · rintro ⟨j, hj, e⟩
          by_cases he : j = m
          · subst he; exact Or.inr e.symm
          · exact Or.inl ⟨j, by omega, e⟩
    | false =>
      have hk2 : ¬ (m = 0 ∨ d[m]! ≠ d[m - 1]!) := by simpa [Lib.keeps] using hk
      have hk3 : m ≠ 0 ∧ d[m]! = d[m - 1]! := ⟨fun e => hk2 (Or.inl e), Classical.byContradiction fun e => hk2 (Or.inr e)⟩
      simp only [Bool.false_eq_true, if_false, List.append_nil]
      refine ⟨i1, fun x => ?_⟩
      rw [i2]
      constructor
      · rintro ⟨j, hj, e⟩; exact ⟨j, by omega, e⟩
      · rintro ⟨j, hj, e⟩
        by_cases he : j = m
        · subst he; exact ⟨j - 1, by omega, by rw [← hk3.2]; exact e⟩
        · exact ⟨j, by omega, e⟩
theorem compact_sorted (l : List Int) : (Lib.compact (l.mergeSort fun x y => decide (x ≤ y))).Pairwise (· < ·) ∧ ∀ x, x ∈ Lib.compact (l.mergeSort fun x y => decide (x ≤ y)) ↔ x ∈ l := by
  have hp : (l.mergeSort fun x y => decide (x ≤ y)).Pairwise (fun x y => decide (x ≤ y) = true) := List.pairwise_mergeSort (by intro a b c h1 h2; simp at *; omega) (by intro a b; simp; omega) l
  have hM : ∀ x, x ∈ (l.mergeSort fun x y => decide (x ≤ y)) ↔ x ∈ l := fun x => List.mem_mergeSort
  generalize (l.mergeSort fun x y => decide (x ≤ y)) = s at hp hM
  have hs : ∀ i j, i ≤ j → j < s.toArray.size → s.toArray[i]! ≤ s.toArray[j]! := by
    intro i j hij hj
    have hj' : j < s.length := by simpa using hj
    rw [getElem!_pos s.toArray i (by simp; omega), getElem!_pos s.toArray j hj]
    by_cases e : i = j
    · subst e; exact Int.le_refl _
    · have := (List.pairwise_iff_getElem.1 hp) i j (by omega) hj' (by omega)
      simpa using this
  have h := cu_up s.toArray hs s.length (by simp)
  refine ⟨h.1, fun x => ?_⟩
  rw [← hM]
  refine (h.2 x).trans ?_
  rw [List.mem_iff_getElem]
  constructor
  · rintro ⟨j, hj, e⟩; exact ⟨j, hj, by rw [getElem!_pos s.toArray j (by simpa using hj)] at e; simpa using e⟩
  · rintro ⟨j, hj, e⟩; exact ⟨j, hj, by rw [getElem!_pos s.toArray j (by simpa using hj)]; simpa using e⟩
/-- what is sorted and told once each is what is marked, rising -/
theorem step_eq (h : Int → Int) (g : Nat → Int) (n m : Nat) (hb : ∀ j, j < m → 0 ≤ h (g j) ∧ h (g j) < n) :
    Lib.compact ((sts h g m).mergeSort fun x y => decide (x ≤ y)) = ord (mkd h g m) n := by
  have hc := compact_sorted (sts h g m)
  refine up_ext _ _ hc.1 (ord_up _ _) fun x => ?_
  rw [hc.2, sts_mem, ord_mem]
  constructor
  · rintro ⟨j, hj, e⟩
    have := hb j hj
    refine ⟨x.toNat, by omega, (mkd_iff h g m _).2 ⟨j, hj, by omega⟩, by omega⟩
  · rintro ⟨i, hi, h1, e⟩
    obtain ⟨j, hj, h2⟩ := (mkd_iff h g m i).1 h1
    exact ⟨j, hj, h2.trans e⟩
end Go.Proofs.YtbndhhjgjalecaaDoor

/- A step, as both reckon it. -/
namespace Go.Proofs.YtbndhhjgjalecaaDoor
open Go.RowKit

/-- where one is behind a step -/
def stN (W H : Int) (f : Nat → Int) (v p : Nat) : Int := if fre W H f ((p : Int) % W + dX v) ((p : Int) / W + dY v) then ((p : Int) / W + dY v) * W + ((p : Int) % W + dX v) else (p : Int)
theorem stN_nx (W H : Int) (f : Nat → Int) (v p : Nat) (hW : 1 ≤ W) : (if nx W H f v ((p : Int) % W) ((p : Int) / W) < 0 then (p : Int) else nx W H f v ((p : Int) % W) ((p : Int) / W)) = stN W H f v p := by
  unfold nx stN
  cases hq : fre W H f ((p : Int) % W + dX v) ((p : Int) / W + dY v) with
  | false => simp
  | true =>
    have h := (kA_free hq).2
    have h1 := Int.mul_nonneg h.2.2.1 (show 0 ≤ W by omega)
    simp only [if_true]
    rw [if_neg (by omega)]
theorem stN_bd {W H : Int} {f : Nat → Int} {v p n : Nat} (hH : H * W = (n : Int)) (hp : p < n) : 0 ≤ stN W H f v p ∧ stN W H f v p < n := by
  unfold stN
  cases hq : fre W H f ((p : Int) % W + dX v) ((p : Int) / W + dY v) with
  | false => simp; omega
  | true =>
    have h := (kA_free hq).2
    have h1 := idx_bd hH h
    simp only [if_true]
    omega
set_option maxHeartbeats 4000000 in
theorem step_any (W : Int) (a : Option Addr) (n c : Nat) (f : Nat → Int) (p v : Nat) (w : World) (hf : IL w a n f) (hs : sizedB W n = true) (hv : v < 4) (hp : p < n) (hT : Tab w) :
    Calls Tryd.prog 76 #[gr W (hgt W n) a n c, .int .i64 (p : Int), .int .i64 (v : Int)] w fun e w' => e = .returned (.int .i64 (stN W (hgt W n) f v p)) ∧ Below w.heap.size w w' := by
  obtain ⟨hH, hH1, hH2⟩ := hgt_mul hs
  obtain ⟨hW1, hW2, -, -, -⟩ := sizedB_t hs
  have hn := sized_le hs
  have hd := d_bd v hv
  obtain ⟨O, hO⟩ : ∃ O : Int, stN W (hgt W n) f v p = O := ⟨_, rfl⟩
  rw [hO]
  unfold stN at hO
  generalize hgt W n = H at *
  have HO1 : Hid ((if fre W H f ((p : Int) % W + dX v) ((p : Int) / W + dY v) then ((p : Int) / W + dY v) * W + ((p : Int) % W + dX v) else (p : Int)) = O) := hO
  clear hO
  have hb0 : Below w.heap.size w (w.alloc (.cells #[.int .i64 W, .int .i64 H, .slice a n c] 68)) := (Below.refl _ _).alloc (Nat.le_refl _) _
  have b0 := bx_new (w := w) [.int .i64 W, .int .i64 H, .slice a n c] 68 rfl
  go_enter Tryd.func76, Tryd.ntmps76
  go_wp2_with fail
  refine (place_any W H p _ hW1 hW2 (by omega)).mono ?_
  rintro e w1 ⟨rfl, hb1⟩
  have hB1 := stepA hb0 hb1
  have b1 := b0.on hb1
  have hf1 := hf.below hB1
  have hT1 := hT.on hB1
  have hx0 := Int.emod_nonneg (p : Int) (show W ≠ 0 by omega)
  have hx1 := Int.emod_lt_of_pos (p : Int) (show 0 < W by omega)
  have hy0 : 0 ≤ (p : Int) / W := Int.ediv_nonneg (by omega) (by omega)
  have hy1 : (p : Int) / W < H := by
    refine Int.ediv_lt_of_lt_mul (by omega) ?_
    rw [hH]; omega
  obtain ⟨X, eX⟩ : ∃ X, (p : Int) % W = X := ⟨_, rfl⟩
  obtain ⟨Y, eY⟩ : ∃ Y, (p : Int) / W = Y := ⟨_, rfl⟩
  have hO := HO1.out
  rw [eX, eY] at hO
  rw [eX] at hx0 hx1 ⊢
  rw [eY] at hy0 hy1 ⊢
  have t0 : w1.cell? ⟨0, v, none⟩ = some (.int .i64 (dX v)) := hT1.x v hv
  have t1 : w1.cell? ⟨1, v, none⟩ = some (.int .i64 (dY v)) := hT1.y v hv
  have i0 : (0 : Int) ≤ (v : Int) := by omega
  have i1 : (v : Int) < 4 := by omega
  clear hb0 b0 hb1 hf hT eX eY HO1 hT1
  have hbd : -1 ≤ dX v ∧ dX v ≤ 1 ∧ -1 ≤ dY v ∧ dY v ≤ 1 := by rcases hd with h | h | h | h <;> omega
  clear hd
  generalize dX v = u at *
  generalize dY v = z at *
  have HO : Hid ((if fre W H f (X + u) (Y + z) then (Y + z) * W + (X + u) else (p : Int)) = O) := hO
  clear hO
  go_wp2_with fail
  go_region
  have hd : Below w1.heap.size w1 w1.drew := (Below.refl _ _).drew
  replace b1 := b1.on hd
  have x0 := b1.c0
  have x1 := b1.c1
  have x2 := b1.c2
  replace hf1 := hf1.below hd
  replace hB1 := stepA hB1 hd
  clear hd t0 t1
  generalize w1.drew = wd at *
  go_wp2_with fail
  refine (kindAt_any W H a n c f (X + u) (Y + z) wd hf1 hn.2 hH hW2).mono ?_
  rintro e w4 ⟨rfl, hb4⟩
  have hB4 := stepA hB1 hb4
  have b4 := b1.on hb4
  clear x0 x1 x2 hf1 hB1 hb4 b1
  have x0 := b4.c0
  have x1 := b4.c1
  have x2 := b4.c2
  cases hq : fre W H f (X + u) (Y + z) with
  | true =>
    have h9 := (kA_free hq).2
    have h8 := idx_bd hH h9
    rw [(kA_free hq).1]
    have HO2 : Hid ((Y + z) * W + (X + u) = O) := by have := HO.out; rw [hq] at this; exact this
    clear HO hq
    go_wp2_with fail
    refine (number_any W H (X + u) (Y + z) _ h8.1 (by omega) h9.1 (by omega)).mono ?_
    rintro e w5 ⟨rfl, hb5⟩
    have hB5 := stepA hB4 hb5
    go_wp2
    go_ret
    exact ⟨ret_int HO2.out, hB5⟩
  | false =>
    have hne := kA_not hq
    have HO2 : Hid ((p : Int) = O) := by have := HO.out; rw [hq] at this; exact this
    clear HO hq
    generalize kA W H f (X + u) (Y + z) = q at hne
    go_wp2
    go_ret
    exact ⟨ret_int HO2.out, hB4⟩
end Go.Proofs.YtbndhhjgjalecaaDoor

/- Where one may be a tick later, sorted and told once each. Numbers alone. -/
namespace Go.Proofs.YtbndhhjgjalecaaDoor

section
variable {W : Int} {n : Nat} {f : Nat → Int}
theorem nbL_up (hs : sizedB W n = true) (p : Nat) : (nbL W n f p).Pairwise (· < ·) := by
  have hW := (sizedB_t hs).1
  have hp := Int.emod_def (p : Int) W
  have hm0 := Int.emod_nonneg (p : Int) (show W ≠ 0 by omega)
  have hm1 := Int.emod_lt_of_pos (p : Int) (show 0 < W by omega)
  have e : ∀ v, v < 4 → nxp W n f v p = -1 ∨ (nxp W n f v p = (p : Int) + dY v * W + dX v ∧ 0 ≤ (p : Int) % W + dX v ∧ (p : Int) % W + dX v < W) := fun v _ => by
    unfold nxp nx
    split
    · next h =>
      right
      have hv := hvB_t (fre_hv h).1
      refine ⟨?_, hv.1, hv.2.1⟩
      rw [Int.add_mul, Int.mul_comm ((p : Int) / W) W]
      omega
    · exact .inl rfl
  have e3 := e 3 (by omega)
  have e2 := e 2 (by omega)
  have e0 := e 0 (by omega)
  have e1 := e 1 (by omega)
  simp only [dX, dY, List.getD_cons_succ, List.getD_cons_zero, Int.one_mul, Int.zero_mul, Int.neg_mul] at e0 e1 e2 e3
  unfold nbL nnK
  rw [show (nbK W n f p).take 5 = nbK W n f p from rfl]
  unfold nbK
  generalize nxp W n f 3 p = a at *
  generalize nxp W n f 2 p = b at *
  generalize nxp W n f 0 p = c at *
  generalize nxp W n f 1 p = d at *
  generalize (p : Int) % W = x at *
  have key : ∀ l : List Int, l.Pairwise (fun x y => 0 ≤ x → 0 ≤ y → x < y) → (l.filter fun x => decide (0 ≤ x)).Pairwise (· < ·) := by
    intro l
    induction l with
    | nil => intro _; exact List.Pairwise.nil
    | cons x l ih =>
      intro h
      rw [List.pairwise_cons] at h
      by_cases hx : 0 ≤ x
      · rw [List.filter_cons_of_pos (by simpa using hx), List.pairwise_cons]
        exact ⟨fun y hy => by
          rw [List.mem_filter] at hy
          exact h.1 y hy.1 hx (by simpa using hy.2), ih h.2⟩
      · rw [List.filter_cons_of_neg (by simpa using hx)]
        exact ih h.2
  refine key _ ?_
  simp only [List.pairwise_cons, List.mem_cons, List.not_mem_nil, or_false, forall_eq_or_imp, forall_eq, List.Pairwise.nil, and_true, false_implies, implies_true]
  omega
/-- the first steps, behind the place itself -/
def lfK (W : Int) (n : Nat) (f : Nat → Int) (p : Nat) : Nat → List Int
  | 0 => [(p : Int)]
  | k + 1 => lfK W n f p k ++ [stN W (hgt W n) f k p]
theorem lfK_len (W : Int) (n : Nat) (f : Nat → Int) (p k : Nat) : (lfK W n f p k).length = k + 1 := by
  induction k with
  | zero => rfl
  | succ k ih => simp [lfK, ih]
theorem lfK_mem (W : Int) (n : Nat) (f : Nat → Int) (p k : Nat) (x : Int) : x ∈ lfK W n f p k ↔ x = (p : Int) ∨ ∃ v, v < k ∧ x = stN W (hgt W n) f v p := by
  induction k with
  | zero => simp [lfK]
  | succ k ih =>
    simp only [lfK, List.mem_append, List.mem_singleton, ih]
    constructor
    · rintro ((h | ⟨v, hv, h⟩) | h)
      · exact .inl h
      · exact .inr ⟨v, by omega, h⟩
      · exact .inr ⟨k, by omega, h⟩
    · rintro (h | ⟨v, hv, h⟩)
      · exact .inl (.inl h)
      · by_cases e : v = k
        · subst e; exact .inr h
        · exact .inl (.inr ⟨v, by omega, h⟩)
theorem lf_nbL (hs : sizedB W n = true) {p : Nat} (hp : p < n) : Lib.compact ((lfK W n f p 4).mergeSort fun x y => decide (x ≤ y)) = nbL W n f p := by
  have hW := (sizedB_t hs).1
  have hc := compact_sorted (lfK W n f p 4)
  refine up_ext _ _ hc.1 (nbL_up hs p) fun x => ?_
  rw [hc.2 x, lfK_mem, mem_nbL]
  constructor
  · rintro (h | ⟨v, hv, h⟩)
    · exact ⟨p, h, .inl rfl⟩
    · rw [← stN_nx W (hgt W n) f v p hW] at h
      by_cases h0 : nx W (hgt W n) f v ((p : Int) % W) ((p : Int) / W) < 0
      · rw [if_pos h0] at h; exact ⟨p, h, .inl rfl⟩
      · rw [if_neg h0] at h
        refine ⟨x.toNat, by omega, .inr ⟨v, hv, ?_⟩⟩
        show nx W (hgt W n) f v ((p : Int) % W) ((p : Int) / W) = ((x.toNat : Nat) : Int)
        omega
  · rintro ⟨q, rfl, hq⟩
    rcases hq with rfl | ⟨v, hv, e⟩
    · exact .inl rfl
    · refine .inr ⟨v, hv, ?_⟩
      rw [← stN_nx W (hgt W n) f v p hW]
      have e2 : nx W (hgt W n) f v ((p : Int) % W) ((p : Int) / W) = (q : Int) := e
      rw [if_neg (by omega), e2]
end
end Go.Proofs.YtbndhhjgjalecaaDoor
