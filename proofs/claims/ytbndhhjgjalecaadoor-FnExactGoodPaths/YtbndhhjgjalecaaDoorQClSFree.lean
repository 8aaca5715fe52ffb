/- Which paths are good ones. -/
import Derived.Test.YtbndhhjgjalecaaDoorQClNxB
import Derived.Test.YtbndhhjgjalecaaDoorQCwNb
import Derived.Test.YtbndhhjgjalecaaDoorQCwMtM
import Derived.Test.YtbndhhjgjalecaaDoorQLqBase
namespace Go.Proofs.YtbndhhjgjalecaaDoor

/-- is path i one of trip i -/
structure RowP (W : Int) (n : Nat) (f g : Nat → Int) (K : Nat → Nat) (F : Nat → Nat → Int) (i : Nat) : Prop where
  some : 1 ≤ K i
  len : K i = K 0
  beg : F i 0 = g (i * 2)
  fin : F i (K i - 1) = g (i * 2 + 1)
  step : ∀ k, 1 ≤ k → k < K i → F i k ∈ nbL W n f (F i (k - 1)).toNat
structure GpP (W : Int) (n : Nat) (f : Nat → Int) (m : Nat) (g : Nat → Int) (N : Nat) (K : Nat → Nat) (F : Nat → Nat → Int) : Prop where
  trips : gtB W n f m g = true
  num : N = m
  rows : ∀ i, i < m → RowP W n f g K F i
  apart : fmV N K F < 0
/-- the places on the way are free cells -/
theorem row_in {W : Int} {n : Nat} {f : Nat → Int} {F : Nat → Int} {k : Nat} (hs : sizedB W n = true) (h0 : 0 ≤ F 0 ∧ F 0 < (n : Int)) (h : ∀ q, 1 ≤ q → q < k → F q ∈ nbL W n f (F (q - 1)).toNat) : ∀ q, q < k → 0 ≤ F q ∧ F q < (n : Int) := by
  intro q
  induction q with
  | zero => intro _; exact h0
  | succ q ih =>
    intro hq
    obtain ⟨h1, h2⟩ := ih (by omega)
    have := h (q + 1) (by omega) hq
    simp only [Nat.add_sub_cancel] at this
    obtain ⟨x, hx, hs'⟩ := mem_nbL.1 this
    have := hs'.lt hs (by omega)
    omega
/-- is x among the first k of a list -/
def inK (l : List Int) (x : Int) : Nat → Bool
  | 0 => false
  | k + 1 => inK l x k || (gl l k == x)
theorem inK_mem {l : List Int} {x : Int} : inK l x l.length = true ↔ x ∈ l := by
  have key : ∀ k, k ≤ l.length → (inK l x k = true ↔ ∃ q, q < k ∧ gl l q = x) := by
    intro k
    induction k with
    | zero => intro _; simp [inK]
    | succ k ih =>
      intro hk
      simp only [inK, Bool.or_eq_true, ih (by omega), beq_iff_eq]
      constructor
      · rintro (⟨q, h1, h2⟩ | h)
        · exact ⟨q, by omega, h2⟩
        · exact ⟨k, by omega, h⟩
      · rintro ⟨q, h1, h2⟩
        by_cases e : q = k
        · subst e; exact .inr h2
        · exact .inl ⟨q, by omega, h2⟩
  rw [key _ (Nat.le_refl _)]
  constructor
  · rintro ⟨q, h1, h2⟩
    rw [← h2]
    unfold gl; rw [List.getD_eq_getElem?_getD, List.getElem?_eq_getElem h1]; exact List.getElem_mem h1
  · intro h
    obtain ⟨q, hq, e⟩ := List.mem_iff_getElem.1 h
    exact ⟨q, hq, by unfold gl; rw [List.getD_eq_getElem?_getD, List.getElem?_eq_getElem hq]; exact e⟩
/-- an answer that says whether -/
def Says (q : Bool) (p : Prop) : Prop := q = true ↔ p
theorem Says.uniq {q q' : Bool} {p : Prop} (h : Says q p) (h' : Says q' p) : q = q' := by
  unfold Says at h h'
  cases q <;> cases q' <;> simp_all
theorem says_no {p : Prop} (h : ¬ p) : Says false p := ⟨fun e => (by cases e), fun e => absurd e h⟩
end Go.Proofs.YtbndhhjgjalecaaDoor

/- A list of pairs of ints by one flat index. -/
namespace Go.Proofs.YtbndhhjgjalecaaDoor
open Go.RowKit
theorem ip_two {w : World} {b n : Nat} {F : Nat → Int} (h : IP w b (n * 2) F) {k : Nat} (hk : k < n) :
    w.cell? ⟨b, k * 2, none⟩ = some (.int .i64 (F (k * 2))) ∧ w.cell? ⟨b, k * 2 + 1, none⟩ = some (.int .i64 (F (k * 2 + 1))) :=
  ⟨h.c _ (by omega), h.c _ (by omega)⟩
theorem il_two {w : World} {a : Option Addr} {n : Nat} {F : Nat → Int} (h : IL w a (n * 2) F) {k : Nat} (hk : k < n) : ∃ b off, a = some ⟨b, off, none⟩ ∧ b < w.heap.size ∧
    w.cell? ⟨b, off + k * 2, none⟩ = some (.int .i64 (F (k * 2))) ∧ w.cell? ⟨b, off + k * 2 + 1, none⟩ = some (.int .i64 (F (k * 2 + 1))) := by
  obtain ⟨b, off, ha, hb, hc⟩ := h (by omega)
  refine ⟨b, off, ha, hb, hc _ (by omega), ?_⟩
  rw [Nat.add_assoc]; exact hc _ (by omega)

end Go.Proofs.YtbndhhjgjalecaaDoor

/- Which places are free, as the model says it. -/
namespace Go.Proofs.YtbndhhjgjalecaaDoor
open Go.RowKit

set_option maxHeartbeats 1000000 in
theorem sfree_any (W : Int) (a : Option Addr) (n c : Nat) (f : Nat → Int) (p : Int) (w : World) (hf : IL w a n f) (hn : n ≤ 1048576) :
    Calls Tryd.prog 68 #[cel W a n c, .int .i64 p] w fun e w' => e = .returned (.bool (frB n f p)) ∧ Below w.heap.size w w' := by
  have hb0 : Below w.heap.size w (w.alloc (celO W a n c 25)) := (Below.refl _ _).alloc (Nat.le_refl _) _
  by_cases h0 : 0 ≤ p
  · by_cases h1 : p < (n : Int)
    · obtain ⟨k, rfl⟩ := Int.eq_ofNat_of_zero_le h0
      have hk : k < n := by omega
      obtain ⟨b, off, rfl, hb, hc⟩ := hf (by omega)
      have x0 := (hb0.cell (p := ⟨b, off + k, none⟩) hb).trans (hc k hk)
      by_cases h2 : f k = 0
      · have he : frB n f (k : Int) = true := frB_mk ⟨h0, h1, by simpa using h2⟩
        rw [he]
        rw [h2] at x0
        clear hc hf h2 he
        go_enter Tryd.func68, Tryd.ntmps68
        go_wp2
        go_ret
        exact ⟨rfl, hb0⟩
      · have he : frB n f (k : Int) = false := frB_f (by simp [h2])
        rw [he]
        generalize f k = x at x0 h2
        have k2 : (x == 0) = false := by simpa using h2
        clear hc hf h2 he
        go_enter Tryd.func68, Tryd.ntmps68
        go_wp2
        go_ret
        first | exact ⟨rfl, hb0⟩ | exact ⟨ret_bool k2, hb0⟩
    · rw [frB_f (by omega)]
      go_enter Tryd.func68, Tryd.ntmps68
      go_wp2
      go_ret
      exact ⟨rfl, hb0⟩
  · rw [frB_f (by omega)]
    go_enter Tryd.func68, Tryd.ntmps68
    go_wp2
    go_ret
    exact ⟨rfl, hb0⟩
end Go.Proofs.YtbndhhjgjalecaaDoor
