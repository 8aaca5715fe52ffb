/- What PlanCrowd tells: best paths one behind the other; there is but one such list. Numbers alone. -/
import Derived.Test.YtbndhhjgjalecaaDoorQCwPlM
import Derived.Test.YtbndhhjgjalecaaDoorQClNxB
import Derived.Test.YtbndhhjgjalecaaDoorQCwRows
import Derived.Test.YtbndhhjgjalecaaDoorQLqBase
namespace Go.Proofs.YtbndhhjgjalecaaDoor

section
variable {W : Int} {n : Nat} {f : Nat → Int} {R R' : Nat → Nat → Int} {J : Nat} {s t : Int} {T : Nat}
theorem hitB_congr {F F' : Nat → Int} {k : Nat} {a b : Int} (h : ∀ i, i ≤ k → F i = F' i) : hitB F k a b = hitB F' k a b := by
  unfold hitB
  rw [h k (Nat.le_refl _), h (k - 1) (by omega)]
theorem nhB_congr {k : Nat} {a b : Int} (h : ∀ j, j < J → ∀ i, i ≤ k → R j i = R' j i) : nhB R k a b J = nhB R' k a b J := by
  induction J with
  | zero => rfl
  | succ J ih =>
    unfold nhB
    rw [ih (fun j hj => h j (by omega)), hitB_congr (h J (by omega))]
theorem Vp.congr {P : Nat → Int} (h : ∀ j, j < J → ∀ i, i ≤ T → R j i = R' j i) (v : Vp W n f R J s t T P) : Vp W n f R' J s t T P :=
  ⟨v.beg, by rw [← nhB_congr (k := 0) (fun j hj i hi => h j hj i (by omega))]; exact v.beg0, v.step, fun k hk => by rw [← nhB_congr (k := k + 1) (fun j hj i hi => h j hj i (by omega))]; exact v.free k hk, v.fin⟩
theorem Bp.congr {P : Nat → Int} (h : ∀ j, j < J → ∀ i, i ≤ T → R j i = R' j i) (b : Bp W n f R J s t T P) : Bp W n f R' J s t T P := by
  have h' : ∀ j, j < J → ∀ i, i ≤ T → R' j i = R j i := fun j hj i hi => (h j hj i hi).symm
  obtain ⟨v, e, h1, h2, h3, h4⟩ := b
  exact ⟨v.congr h, e, h1, h2, fun Q e' hQ => h3 Q e' (hQ.congr h'), fun Q hQ => h4 Q (hQ.congr h')⟩
/-- the same path by another name -/
theorem Bp.same {P P' : Nat → Int} (h : ∀ k, k ≤ T → P k = P' k) (b : Bp W n f R J s t T P) : Bp W n f R J s t T P' := by
  obtain ⟨v, e, h1, h2, h3, h4⟩ := b
  refine ⟨⟨by rw [← h 0 (Nat.zero_le _)]; exact v.beg, v.beg0, fun k hk => ?_, fun k hk => ?_, by rw [← h T (Nat.le_refl _)]; exact v.fin⟩, e, h1, fun k hk hk' => by rw [← h k hk']; exact h2 k hk hk', h3, fun Q hQ hA => ?_⟩
  · rw [← h k (by omega), ← h (k + 1) (by omega)]; exact v.step k hk
  · rw [← h k (by omega), ← h (k + 1) (by omega)]; exact v.free k hk
  · rcases h4 Q hQ hA with hx | ⟨k, hk, ha, hb⟩
    · exact .inl fun k hk => by rw [← h k hk]; exact hx k hk
    · exact .inr ⟨k, hk, fun i hi => by rw [← h i (by omega)]; exact ha i hi, by rw [← h k hk]; exact hb⟩
end
/-- the first i paths are best ones -/
def Bests (W : Int) (n : Nat) (f g : Nat → Int) (R : Nat → Nat → Int) (T i : Nat) : Prop := ∀ j, j < i → Bp W n f R j (g (j * 2)) (g (j * 2 + 1)) T (R j)
theorem Bests.agree {W : Int} {n : Nat} {f g : Nat → Int} {R R' : Nat → Nat → Int} {T i : Nat} (h : Bests W n f g R T i) (h' : Bests W n f g R' T i) : ∀ j, j < i → ∀ k, k ≤ T → R j k = R' j k := by
  intro j
  induction j using Nat.strongRecOn with
  | ind j ih =>
    intro hj
    exact (h j hj).uniq ((h' j hj).congr fun j' hj' k hk => (ih j' hj' (by omega) k hk).symm)
/-- what PlanCrowd tells -/
def PlnIs (W : Int) (n : Nat) (f : Nat → Int) (m : Nat) (g : Nat → Int) (tk : Int) (ok : Bool) (R : Nat → Nat → Int) : Prop :=
  (ok = true ∧ (gtB W n f m g = true ∧ 0 ≤ tk ∧ tk ≤ 20) ∧ Bests W n f g R tk.toNat m) ∨
    (ok = false ∧ (¬ (gtB W n f m g = true ∧ 0 ≤ tk ∧ tk ≤ 20) ∨ ∃ (i : Nat) (R' : Nat → Nat → Int), i < m ∧ Bests W n f g R' tk.toNat i ∧ ∀ P, ¬ Vp W n f R' i (g (i * 2)) (g (i * 2 + 1)) tk.toNat P))
theorem PlnIs.not {W : Int} {n : Nat} {f : Nat → Int} {m : Nat} {g : Nat → Int} {tk : Int} {R R' : Nat → Nat → Int} (h : PlnIs W n f m g tk true R) (h' : PlnIs W n f m g tk false R') : False := by
  rcases h with ⟨-, h1, h2⟩ | ⟨h0, -⟩
  · rcases h' with ⟨h0, -⟩ | ⟨-, h3 | ⟨i, R2, hi, h3, h4⟩⟩
    · cases h0
    · exact h3 h1
    · have ha : ∀ j, j < i → ∀ k, k ≤ tk.toNat → R j k = R2 j k := Bests.agree (fun j hj => h2 j (by omega)) h3
      exact h4 _ ((h2 i hi).1.congr ha)
  · cases h0
theorem PlnIs.uniq {W : Int} {n : Nat} {f : Nat → Int} {m : Nat} {g : Nat → Int} {tk : Int} {ok ok' : Bool} {R R' : Nat → Nat → Int} (h : PlnIs W n f m g tk ok R) (h' : PlnIs W n f m g tk ok' R') : ok = ok' ∧ (ok = true → ∀ i, i < m → ∀ k, k ≤ tk.toNat → R i k = R' i k) := by
  cases ok with
  | true =>
    cases ok' with
    | true =>
      refine ⟨rfl, fun _ => ?_⟩
      rcases h with ⟨-, -, h2⟩ | ⟨h0, -⟩
      · rcases h' with ⟨-, -, h3⟩ | ⟨h0, -⟩
        · exact Bests.agree h2 h3
        · cases h0
      · cases h0
    | false => exact absurd h' fun x => h.not x
  | false =>
    cases ok' with
    | true => exact absurd h fun x => h'.not x
    | false => exact ⟨rfl, fun x => by cases x⟩
end Go.Proofs.YtbndhhjgjalecaaDoor

/- A list of lists of the call's own: it grows by rows that are new; each row a block of its own. -/
namespace Go.Proofs.YtbndhhjgjalecaaDoor
open Go.RowKit

/-- the first k rows as cells -/
def vR (B C : Nat → Nat) (L k : Nat) : List Value := (List.range k).map fun i => .slice (some ⟨B i, 0, none⟩) L (C i)
theorem vR_len (B C : Nat → Nat) (L k : Nat) : (vR B C L k).length = k := by simp [vR]
theorem vR_get {B C : Nat → Nat} {L k i : Nat} (h : i < k) : (vR B C L k)[i]? = some (.slice (some ⟨B i, 0, none⟩) L (C i)) := by simp [vR, h]
theorem vR_put (B C : Nat → Nat) (L k b c : Nat) : vR (fun i => if i = k then b else B i) (fun i => if i = k then c else C i) L (k + 1) = vR B C L k ++ [.slice (some ⟨b, 0, none⟩) L c] := by
  unfold vR
  rw [List.range_succ, List.map_append]
  congr 1
  · refine List.map_congr_left fun i hi => ?_
    have : i ≠ k := by have := List.mem_range.1 hi; omega
    simp [this]
  · simp
/-- k rows of L ints each, all of the call's own -/
structure Ow (w : World) (base : Nat) (v : Value) (k L : Nat) (R : Nat → Nat → Int) (B C : Nat → Nat) : Prop where
  own : w.ownsRow base 23 1 v k (vR B C L k)
  low : ∀ j, j < k → base ≤ B j
  row : ∀ j, j < k → IP w (B j) L (R j)
  inj : ∀ i j, i < k → j < k → B i = B j → i = j
section
variable {w w' : World} {base : Nat} {v : Value} {k L : Nat} {R : Nat → Nat → Int} {B C : Nat → Nat}
theorem ow_nil (w : World) (base L : Nat) (R : Nat → Nat → Int) (B C : Nat → Nat) : Ow w base (.slice none 0 0) 0 L R B C :=
  ⟨World.ownsRow_nil _ _ _ _, fun _ h => absurd h (Nat.not_lt_zero _), fun _ h => absurd h (Nat.not_lt_zero _), fun _ _ h => absurd h (Nat.not_lt_zero _)⟩
theorem Ow.on (h : Ow w base v k L R B C) (b : Below w.heap.size w w') : Ow w' base v k L R B C := by
  refine ⟨?_, h.low, fun j hj => (h.row j hj).below b (h.row j hj).lt, h.inj⟩
  obtain ⟨hl, h⟩ := h.own
  refine ⟨hl, ?_⟩
  rcases h with h | ⟨g, cap, cur, h1, h2, h3, h4⟩
  · exact .inl h
  · have hg : g < w.heap.size := (Array.getElem?_eq_some_iff.1 h3).1
    exact .inr ⟨g, cap, cur, h1, h2, (b.block g hg).trans h3, h4⟩
theorem Ow.shape (h : Ow w base v k L R B C) : ∃ a cap, v = .slice a k cap := by
  obtain ⟨_, ⟨rfl, rfl⟩ | ⟨g, cap, cur, rfl, _⟩⟩ := h.own
  · exact ⟨_, _, rfl⟩
  · exact ⟨_, _, rfl⟩
theorem Ow.some (h : Ow w base v k L R B C) (hk : 0 < k) : ∃ g cap, v = .slice (some ⟨g, 0, none⟩) k cap ∧ base ≤ g ∧ g < w.heap.size ∧ ∀ i, i < k → w.cell? ⟨g, i, none⟩ = some (.slice (some ⟨B i, 0, none⟩) L (C i)) := by
  have h' := h.own
  obtain ⟨_, h0 | ⟨g, cap, cur, rfl, h2, h3, _⟩⟩ := h.own
  · omega
  · have hlt : g < w.heap.size := (Array.getElem?_eq_some_iff.1 h3).1
    refine ⟨g, cap, rfl, h2, hlt, fun i hi => ?_⟩
    rw [World.ownsRow.cellAt h' i (by omega)]; exact vR_get hi
theorem Ow.rr {a : Option Addr} {c : Nat} (h : Ow w base (.slice a k c) k L R B C) : RR w a k (fun _ => L) R :=
  ⟨fun i => .some ⟨B i, 0, none⟩, C, fun h0 => by
    obtain ⟨g, cap, e, _, hg, hc⟩ := h.some h0
    cases e
    exact ⟨g, 0, rfl, hg, fun i hi => by rw [Nat.zero_add]; exact hc i hi⟩, fun i hi => (h.row i hi).il⟩
theorem Ow.wide {base' : Nat} (h : Ow w base v k L R B C) (hb : base' ≤ base) : Ow w base' v k L R B C := by
  refine ⟨?_, fun j hj => Nat.le_trans hb (h.low j hj), h.row, h.inj⟩
  obtain ⟨hl, h⟩ := h.own
  refine ⟨hl, ?_⟩
  rcases h with h | ⟨g, cap, cur, h1, h2, h3, h4⟩
  · exact .inl h
  · exact .inr ⟨g, cap, cur, h1, Nat.le_trans hb h2, h3, h4⟩
/-- no row lies where the list of rows lies -/
theorem Ow.apart (h : Ow w base v k L R B C) (hL : 0 < L) {q : Nat} (hq : v.ownBlock = .some q) {j : Nat} (hj : j < k) : B j ≠ q := fun e => by
  obtain ⟨g, cap, rfl, _, _, hc⟩ := h.some (by omega)
  have : g = q := by simpa [Value.ownBlock] using hq
  subst this
  have h0 := hc 0 (by omega)
  have h1 := (h.row j hj).c 0 hL
  rw [e, h0] at h1
  cases h1
theorem Ow.app (h : Ow w base v k L R B C) (hL : 0 < L) {b c : Nat} {P : Nat → Int} {o : Obj} {v' : Value} {w3 : World} (hb : base ≤ b) (hP : IP w b L P) (hn : ∀ j, j < k → B j ≠ b) (hq : ∀ q, v.ownBlock = .some q → b ≠ q)
    (ho : w3.ownsRow base 23 1 v' (k + 1) (vR B C L k ++ [.slice (.some ⟨b, 0, none⟩) L c])) (hg : (w.alloc o).grownBy w3 v.ownBlock) : Ow w3 base v' (k + 1) L (fun i => if i = k then P else R i) (fun i => if i = k then b else B i) (fun i => if i = k then c else C i) := by
  have keep : ∀ {x : Nat} {F : Nat → Int}, IP w x L F → (∀ q, v.ownBlock = .some q → x ≠ q) → IP w3 x L F := fun {x F} hx hxq => by
    have h1 := hx.below ((Below.refl w.heap.size w).alloc (Nat.le_refl _) o) hx.lt
    have e := hg.block x h1.lt (fun e => hxq x e.symm rfl)
    exact ⟨Nat.lt_of_lt_of_le h1.lt hg.size, fun i hi => (cell_same e _).trans (h1.c i hi), fun j => (frozen_same e j).trans (h1.fz j)⟩
  refine ⟨by rw [vR_put]; exact ho, fun j hj => ?_, fun j hj => ?_, fun i j hi hj hij => ?_⟩
  · by_cases e : j = k
    · simp [e, hb]
    · simp only [e, if_false]; exact h.low j (by omega)
  · by_cases e : j = k
    · subst e; simp only [if_true]; exact keep hP hq
    · simp only [e, if_false]; exact keep (h.row j (by omega)) fun q hq' => h.apart hL hq' (by omega)
  · by_cases e : i = k
    · by_cases e2 : j = k
      · omega
      · simp only [e, e2, if_true, if_false] at hij
        exact absurd hij.symm (hn j (by omega))
    · by_cases e2 : j = k
      · simp only [e, e2, if_true, if_false] at hij
        exact absurd hij (hn i (by omega))
      · simp only [e, e2, if_false] at hij
        exact h.inj i j (by omega) (by omega) hij
end
end Go.Proofs.YtbndhhjgjalecaaDoor
