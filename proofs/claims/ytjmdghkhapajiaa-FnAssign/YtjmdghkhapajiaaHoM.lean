/- Who takes over, and what each has then, as numbers; a row that is laid into a table. -/
import Derived.Test.YtjmdghkhapajiaaFsM
import Derived.Test.YtjmdghkhapajiaaAsM
import Derived.Test.YtjmdghkhapajiaaAsOf
namespace Go.Proofs.Ytjmdghkhapajiaa
open Go.RowKit

/-- what the others ask for a task -/
def hoO (F : Nat → Nat → Int) (t gone : Nat) (i : Nat) : Option Int := if i = gone then none else some (F i t)
/-- who takes it -/
def hoH (n : Nat) (F : Nat → Nat → Int) (t gone : Nat) : Nat := chK (hoO F t gone) n
theorem hoO_at (F : Nat → Nat → Int) (t gone : Nat) {i : Nat} (h : i ≠ gone) : hoO F t gone i = some (F i t) := if_neg h
theorem hoO_gone (F : Nat → Nat → Int) (t gone : Nat) : hoO F t gone gone = none := if_pos rfl
theorem hoH_one (F : Nat → Nat → Int) (t gone : Nat) : hoH 1 F t gone = 0 := by
  have := chK_le (hoO F t gone) 1 1
  show chK (hoO F t gone) 1 = 0
  have := chK_lt (hoO F t gone) 1 (by omega)
  omega
theorem hoH_ne (F : Nat → Nat → Int) (t gone : Nat) : ∀ k, 2 ≤ k ∨ (k = 1 ∧ gone ≠ 0) → hoH k F t gone ≠ gone := by
  intro k
  induction k with
  | zero => intro h; omega
  | succ k ih =>
    intro h
    by_cases k0 : k = 0
    · subst k0; rw [hoH_one]; omega
    show (if ltO (hoO F t gone k) (hoO F t gone (hoH k F t gone)) = true then k else hoH k F t gone) ≠ gone
    by_cases e : k = gone
    · subst e
      rw [hoO_gone]
      rw [if_neg (by simp [ltO])]
      have : hoH k F t k < k := chK_lt _ k (by omega)
      omega
    · split
      · exact e
      · rename_i h2
        by_cases e2 : 2 ≤ k ∨ (k = 1 ∧ gone ≠ 0)
        · exact ih e2
        · have k1 : k = 1 ∧ gone = 0 := by omega
          obtain ⟨rfl, rfl⟩ := k1
          rw [hoH_one, hoO_gone, hoO_at _ _ _ (by omega)] at h2
          exact absurd rfl h2
/-- .. as the model finds it -/
def mbK (F : Nat → Nat → Int) (t gone k : Nat) : Int := if k = 0 ∨ (k = 1 ∧ gone = 0) then -1 else ((hoH k F t gone : Nat) : Int)
theorem mbK_gone (F : Nat → Nat → Int) (t gone : Nat) : mbK F t gone (gone + 1) = mbK F t gone gone := by
  unfold mbK
  by_cases e : gone = 0
  · subst e; simp
  · rw [if_neg (by omega), if_neg (by omega)]
    congr 1
    show (if ltO (hoO F t gone gone) (hoO F t gone (hoH gone F t gone)) = true then gone else hoH gone F t gone) = _
    rw [hoO_gone, if_neg (by simp [ltO])]
theorem mbK_first {F : Nat → Nat → Int} {t gone k : Nat} (hk : k ≠ gone) (h : mbK F t gone k < 0) : mbK F t gone (k + 1) = (k : Int) := by
  unfold mbK at h ⊢
  by_cases e : k = 0 ∨ (k = 1 ∧ gone = 0)
  · rw [if_neg (by omega)]
    rcases e with rfl | ⟨rfl, rfl⟩
    · rw [hoH_one]
    · congr 1
  · rw [if_neg e] at h; omega
theorem mbK_nat {F : Nat → Nat → Int} {t gone k n : Nat} (hkn : k ≤ n) (h : ¬ mbK F t gone k < 0) : ∃ b : Nat, mbK F t gone k = (b : Int) ∧ b < n ∧ (∀ {i : Nat}, i = k → k ≠ gone → mbK F t gone (k + 1) = if F k t < F b t then (k : Int) else (b : Int)) := by
  unfold mbK at h ⊢
  by_cases e : k = 0 ∨ (k = 1 ∧ gone = 0)
  · rw [if_pos e] at h; omega
  · rw [if_neg e]
    have hne := hoH_ne F t gone k (by omega)
    have hlt : hoH k F t gone < k := chK_lt _ k (by omega)
    refine ⟨hoH k F t gone, rfl, by omega, fun _ hkg => ?_⟩
    rw [if_neg (by omega)]
    show (((if ltO (hoO F t gone k) (hoO F t gone (hoH k F t gone)) = true then k else hoH k F t gone) : Nat) : Int) = _
    rw [hoO_at _ _ _ hkg, hoO_at _ _ _ hne]
    by_cases c : F k t < F (hoH k F t gone) t
    · rw [if_pos c, if_pos (by simp [ltO]; exact c)]
    · rw [if_neg c, if_neg (by simp [ltO]; omega)]
theorem mbK_end {F : Nat → Nat → Int} {t gone n : Nat} (h : 2 ≤ n) : mbK F t gone n = ((hoH n F t gone : Nat) : Int) := by unfold mbK; rw [if_neg (by omega)]
/-- how much each has -/
def hoK (gone heir : Nat) (i : Nat) : Nat := if i = gone then 0 else if i = heir then 2 else 1
/-- .. and what, the heir's sorted -/
def hoR (g : Nat → Int) (gone heir : Nat) (i j : Nat) : Int := if i = heir then (if (j = 0) = (g heir ≤ g gone) then g heir else g gone) else g i
theorem hoR_off (g : Nat → Int) (gone heir : Nat) {i : Nat} (h : i ≠ heir) : hoR g gone heir i = fun _ => g i := by funext j; unfold hoR; rw [if_neg h]
theorem hoK_le (gone heir i : Nat) : hoK gone heir i ≤ 2 := by unfold hoK; split; omega; split <;> omega
theorem hoK_sum (gone heir : Nat) : ∀ n, sumK (hoK gone heir) n ≤ 2 * n := by
  intro n
  induction n with
  | zero => exact Nat.le_refl _
  | succ n ih =>
    have : hoK gone heir n ≤ 2 := by unfold hoK; split; omega; split <;> omega
    show sumK (hoK gone heir) n + hoK gone heir n ≤ 2 * (n + 1)
    omega
/-- rows and a bool -/
def AnsRb (w w' : World) (e : Ending) (N : Nat) (KG : Nat → Nat) (G : Nat → Nat → Int) (Q : Bool) : Prop := ∃ a c, e = .returned (.tuple #[.slice a N c, .bool Q]) ∧ RK w' w.heap.size w'.heap.size a N KG G
theorem ansRb_nil (w w' : World) (K : Nat → Nat) (G : Nat → Nat → Int) (Q : Bool) : AnsRb w w' (.returned (.tuple #[.slice none 0 0, .bool Q])) 0 K G Q := ⟨none, 0, rfl, rk_none _ _ _ _ _ _⟩
section
variable {w w1 : World} {base g n : Nat} {A : Nat → Option Addr} {K C : Nat → Nat} {R : Nat → Nat → Int}
theorem own_block' {v : Value} {k : Nat} {F : Nat → Int} (h : Own w base v k F) {B j : Nat} {m c : Nat} (e : v = .slice (some ⟨B, j, none⟩) m c) : base ≤ B ∧ B < w.heap.size := by
  rcases own_block h with ⟨e1, _⟩ | ⟨B', c', e1, h1, h2⟩
  · rw [e1] at e; cases e
  · rw [e1] at e
    have e2 : some (⟨B', 0, none⟩ : Addr) = some ⟨B, j, none⟩ := by injection e
    have e3 := Option.some.inj e2
    have e4 : B' = B := by injection e3
    omega
/-- a new row is laid into the table -/
theorem Fs.put (h : Fs w base g n A K C R) {s : Nat} (hs : s < n) (hb : Below w.heap.size w w1) {B m c : Nat} {f : Nat → Int} (hB : w.heap.size ≤ B) (hO : Own w1 base (.slice (some ⟨B, 0, none⟩) m c) m f) :
    Fs (w1.setCell ⟨g, s, none⟩ (.slice (some ⟨B, 0, none⟩) m c)) base g n (fun i => if i = s then some ⟨B, 0, none⟩ else A i) (fun i => if i = s then m else K i) (fun i => if i = s then c else C i) (fun i => if i = s then f else R i) := by
  have h1 := h.on hb
  have hG : Only g w1 (w1.setCell ⟨g, s, none⟩ (.slice (some ⟨B, 0, none⟩) m c)) := (Only.refl _ _).set s _
  have hlt : ∀ i, i < n → ∀ p, A i = some p → p.block < w.heap.size := fun i hi p e => by
    rcases own_block (h.row i hi) with ⟨e1, _⟩ | ⟨B', c', e1, _, h2⟩
    · have : A i = none := by injection e1
      rw [this] at e; cases e
    · have : A i = some ⟨B', 0, none⟩ := by injection e1
      rw [this] at e; cases e; exact h2
  refine ⟨?_, fun i hi => ?_, fun i j hi hj hij => ?_, h.gb⟩
  · refine (h1.head.set s _).congr fun i _ => ?_
    by_cases e : i = s
    · subst e; simp
    · simp [e]
  · by_cases e : i = s
    · subst e; simp only [if_true]; exact hO.only hG h.gb
    · simp only [if_neg e]; exact (h1.row i hi).only hG h.gb
  · show (if i = s then some ⟨B, 0, none⟩ else A i) = (if j = s then some ⟨B, 0, none⟩ else A j) → (if i = s then some ⟨B, 0, none⟩ else A i) = none
    by_cases e : i = s
    · subst e
      rw [if_pos rfl, if_neg (Ne.symm hij)]
      intro e2
      have := hlt j hj _ e2.symm
      exact absurd this (Nat.not_lt.2 hB)
    · rw [if_neg e]
      by_cases e3 : j = s
      · rw [if_pos e3]
        intro e2
        have := hlt i hi _ e2
        exact absurd this (Nat.not_lt.2 hB)
      · rw [if_neg e3]; exact h.inj i j hi hj hij
theorem Fs.con {A' : Nat → Option Addr} {K' C' : Nat → Nat} {R' : Nat → Nat → Int} (h : Fs w base g n A K C R) (h1 : ∀ i, i < n → A i = A' i) (h2 : ∀ i, i < n → K i = K' i) (h3 : ∀ i, i < n → C i = C' i) (h4 : ∀ i j, i < n → j < K i → R i j = R' i j) : Fs w base g n A' K' C' R' :=
  ⟨h.head.congr fun i hi => by rw [h1 i hi, h2 i hi, h3 i hi], fun i hi => by
    rw [← h1 i hi, ← h2 i hi, ← h3 i hi]
    have := h.row i hi
    unfold Own at this ⊢
    have e : vL (R' i) (K i) = vL (R i) (K i) := List.map_congr_left fun j hj => by rw [h4 i j hi (List.mem_range.1 hj)]
    rw [e]; exact this, fun i j hi hj hij => by rw [← h1 i hi, ← h1 j hj]; exact h.inj i j hi hj hij, h.gb⟩
end
def FsY (w : World) (base g n : Nat) (K : Nat → Nat) (R : Nat → Nat → Int) : Prop := ∃ A C, Fs w base g n A K C R
theorem FsY.con {w : World} {base g n : Nat} {K K' : Nat → Nat} {R R' : Nat → Nat → Int} (h : FsY w base g n K R) (e : ∀ i, i < n → K i = K' i) (e2 : ∀ i j, i < n → j < K i → R i j = R' i j) : FsY w base g n K' R' := by
  obtain ⟨A, C, h⟩ := h
  exact ⟨A, C, h.con (fun _ _ => rfl) e (fun _ _ => rfl) e2⟩
theorem FsY.on {w w' : World} {base g n : Nat} {K : Nat → Nat} {R : Nat → Nat → Int} (h : FsY w base g n K R) (b : Below w.heap.size w w') : FsY w' base g n K R := by
  obtain ⟨A, C, h⟩ := h
  exact ⟨A, C, h.on b⟩
theorem own_one (w : World) (base : Nat) (hb : base ≤ w.heap.size) (x : Int) : Own (w.alloc (.cells #[.int .i64 x] 3)) base (.slice (some ⟨w.heap.size, 0, none⟩) 1 1) 1 (fun _ => x) :=
  ⟨by rw [vL_len], .inr ⟨w.heap.size, 1, #[.int .i64 x], rfl, hb, (by show (w.heap.push _)[w.heap.size]? = _; simp), Nat.le_refl _, by unfold maxLen; omega, rfl, by simp [vL]⟩⟩
theorem il_c {w : World} {b o n : Nat} {f : Nat → Int} (h : IL w (some ⟨b, o, none⟩) n f) {i : Nat} (hi : i < n) : w.cell? ⟨b, o + i, none⟩ = some (.int .i64 (f i)) := by
  obtain ⟨b2, o2, e, _, hc⟩ := h (by omega)
  injection e with e1
  injection e1 with e2 e3
  subst e2; subst e3
  exact hc i hi
def hoR2 (X : Int) (t : Nat) (j : Nat) : Int := if j = 0 then X else (t : Int)
section
variable {w : World} {base g n lo hi : Nat} {A : Nat → Option Addr} {K C : Nat → Nat} {f : Nat → Int} {R : Nat → Nat → Int} {a : Option Addr}
theorem Fs.conH (h : Fs w base g n A K C (fun i _ => f i)) {H : Nat} (hk : K H = 1) (t : Nat) : Fs w base g n A K C (fun i => if i = H then hoR2 (f H) t else fun _ => f i) :=
  h.con (fun _ _ => rfl) (fun _ _ => rfl) (fun _ _ => rfl) (fun i j _ hj => by
    show f i = (if i = H then hoR2 (f H) t else fun _ => f i) j
    by_cases e : i = H
    · subst e
      have : j = 0 := by omega
      subst this
      rw [if_pos rfl]; rfl
    · rw [if_neg e])
theorem Fs.rk0 (h : Fs w base g n A K C R) (hl : lo ≤ g) : Rk w lo w.heap.size (some ⟨g, 0, none⟩) n K R g A C := by
  refine ⟨rfl, hl, h.head.lt, h.head.lt, fun i hi => h.head.cell hi, fun i hi h0 => ?_, fun i j hi hj h0 h0' hij e => ?_⟩
  · obtain ⟨B, cap, e, h1, h2⟩ := (h.row i hi).some h0
    have := h.gb
    exact ⟨B, by injection e, by omega, h2.lt, by omega, h2⟩
  · have := h.inj i j hi hj hij e
    obtain ⟨B, cap, e2, h1, h2⟩ := (h.row i hi).some h0
    have e3 : A i = some ⟨B, 0, none⟩ := by injection e2
    rw [this] at e3; cases e3
theorem Rk.con2 {K' : Nat → Nat} {R' : Nat → Nat → Int} (h : Rk w lo hi a n K R g A C) (h1 : ∀ i, i < n → K i = K' i) (h2 : ∀ i j, i < n → j < K i → R i j = R' i j) : Rk w lo hi a n K' R' g A C :=
  ⟨h.at_, h.glo, h.ghi, h.glt, fun i hi => by rw [← h1 i hi]; exact h.cell i hi, fun i hi h0 => by
    rw [← h1 i hi] at h0 ⊢
    obtain ⟨B, e1, e2, e3, e4, hr⟩ := h.row i hi h0
    exact ⟨B, e1, e2, e3, e4, hr.congr fun j hj => h2 i j hi hj⟩, fun i j hi hj h0 h0' => h.inj i j hi hj (by rw [h1 i hi]; exact h0) (by rw [h1 j hj]; exact h0')⟩
theorem Rk.wide2 {lo' : Nat} (h : Rk w lo hi a n K R g A C) (h0 : lo' ≤ lo) : Rk w lo' hi a n K R g A C :=
  ⟨h.at_, Nat.le_trans h0 h.glo, h.ghi, h.glt, h.cell, fun i hi hk => by
    obtain ⟨B, e1, e2, e3, e4, hr⟩ := h.row i hi hk
    exact ⟨B, e1, Nat.le_trans h0 e2, e3, e4, hr⟩, h.inj⟩
end
theorem sort_two (X Y : Int) : ([X, Y].mergeSort fun x y => decide (x ≤ y)) = if X ≤ Y then [X, Y] else [Y, X] := by
  by_cases h : X ≤ Y <;> simp [List.mergeSort, List.MergeSort.Internal.splitInTwo, h]
/-- the rows below k -/
def hoF (go k i : Nat) : Nat := if i < k ∧ i ≠ go then 1 else 0
theorem hoF_skip (G i : Nat) : hoF G G i = hoF G (G + 1) i := by
  unfold hoF
  by_cases c : i < G ∧ i ≠ G
  · rw [if_pos c, if_pos ⟨by omega, c.2⟩]
  · rw [if_neg c, if_neg (by omega)]
theorem hoF_step {s G : Nat} (e : s ≠ G) (i : Nat) : (if i = s then 1 else hoF G s i) = hoF G (s + 1) i := by
  unfold hoF
  by_cases c : i = s
  · subst c; rw [if_pos rfl, if_pos ⟨by omega, e⟩]
  · rw [if_neg c]
    by_cases c2 : i < s ∧ i ≠ G
    · rw [if_pos c2, if_pos ⟨by omega, c2.2⟩]
    · rw [if_neg c2, if_neg (by omega)]
theorem hoR_srt {g : Nat → Int} {G H t n : Nat} (ht : g G = (t : Int)) (i j : Nat) (hj : j < if i = H then 2 else hoF G n i) :
    (if i = H then (fun j => (([g H, (t : Int)].mergeSort fun x y => decide (x ≤ y))).getD j 0) else (if i = H then hoR2 (g H) t else fun _ => g i)) j = hoR g G H i j := by
  unfold hoR
  by_cases e : i = H
  · subst e
    rw [if_pos rfl, if_pos rfl, sort_two, ht]
    rw [if_pos rfl] at hj
    have : j = 0 ∨ j = 1 := by omega
    by_cases c : g i ≤ (t : Int)
    · rcases this with rfl | rfl <;> simp [c]
    · rcases this with rfl | rfl <;> simp [c]
  · rw [if_neg e, if_neg e, if_neg e]
end Go.Proofs.Ytjmdghkhapajiaa
