/- Lists of any values (one cell each) of a call's own. -/
import Derived.Test.YtmlfijapndkfhaaDoorQLqBase
import Derived.Laws.IdiomStrings
import Derived.Laws.Concat
namespace Go.Proofs.YtmlfijapndkfhaaDoor
open Go.RowKit
/-- a row of values in one block that may be written -/
structure VP (w : World) (b n : Nat) (f : Nat → Value) : Prop where
  lt : b < w.heap.size
  c : ∀ i, i < n → w.cell? ⟨b, i, none⟩ = some (f i)
  fz : ∀ i, w.frozen? ⟨b, i, none⟩ = false
/-- .. that lies from lo on, below hi -/
def VQ (w : World) (lo hi : Nat) (a : Option Addr) (n : Nat) (f : Nat → Value) : Prop :=
  0 < n → ∃ b, a = some ⟨b, 0, none⟩ ∧ lo ≤ b ∧ b < hi ∧ VP w b n f
section
variable {w w' : World} {lo hi lo' hi' b n : Nat} {a : Option Addr} {f g : Nat → Value}
theorem VP.of (h : VP w b n f) (hs : w.heap.size ≤ w'.heap.size) (e : w'.heap[b]? = w.heap[b]?) : VP w' b n f :=
  ⟨Nat.lt_of_lt_of_le h.lt hs, fun i hi => (cell_same e i).trans (h.c i hi), fun i => (frozen_same e i).trans (h.fz i)⟩
theorem vp_row {t : TypeId} (h : w.rowIs b t n f) : VP w b n f := ⟨h.lt, fun _ hi => h.cell hi, fun i => h.frozen i⟩
theorem VP.far {b' k : Nat} (h : VP w b n f) (v : Value) (hn : b ≠ b') : VP (w.setCell ⟨b', k, none⟩ v) b n f := by
  have hO : Only b' w (w.setCell ⟨b', k, none⟩ v) := (Only.refl b' w).set k v
  exact h.of (by simp) (hO.block b hn)
theorem VP.set (h : VP w b n f) {k : Nat} (hk : k < n) (v : Value) : VP (w.setCell ⟨b, k, none⟩ v) b n (fun i => if i = k then v else f i) := by
  refine ⟨by simpa using h.lt, fun i hi => ?_, fun j => by simpa using h.fz j⟩
  by_cases e : i = k
  · subst e; rw [if_pos rfl]; exact World.cell?_setCell_same _ _ _ (h.c i hi)
  · rw [if_neg e]; exact (World.cell?_setCell_other _ _ _ _ (by simp <;> omega)).trans (h.c i hi)
theorem VQ.on (h : VQ w lo hi a n f) (k : Below w.heap.size w w') : VQ w' lo hi a n f := fun h0 => by
  obtain ⟨b, rfl, h1, h2, hP⟩ := h h0
  exact ⟨b, rfl, h1, h2, hP.of k.size (k.block b hP.lt)⟩
theorem VQ.turns (h : VQ w lo hi a n f) (k : Turns lo' hi' w w') (hd : hi ≤ lo' ∨ hi' ≤ lo) : VQ w' lo hi a n f := fun h0 => by
  obtain ⟨b, rfl, h1, h2, hP⟩ := h h0
  exact ⟨b, rfl, h1, h2, hP.of k.size (k.block b hP.lt (by omega))⟩
theorem VQ.wide (h : VQ w lo hi a n f) (h0 : lo' ≤ lo) (h1 : hi ≤ hi') : VQ w lo' hi' a n f := fun hn => by
  obtain ⟨b, rfl, h2, h3, hP⟩ := h hn
  exact ⟨b, rfl, by omega, by omega, hP⟩
theorem vq_none (w : World) (lo hi : Nat) (a : Option Addr) (f : Nat → Value) : VQ w lo hi a 0 f := fun h => absurd h (Nat.lt_irrefl _)
theorem vq_set (h : VQ w lo hi a n f) {b k : Nat} (v : Value) (hn : b < lo ∨ hi ≤ b) : VQ (w.setCell ⟨b, k, none⟩ v) lo hi a n f := fun h0 => by
  obtain ⟨c, rfl, h2, h3, hP⟩ := h h0
  exact ⟨c, rfl, h2, h3, hP.far v (by omega)⟩
end
end Go.Proofs.YtmlfijapndkfhaaDoor

/- The text of a mark. -/
namespace Go.Proofs.YtmlfijapndkfhaaDoor
open Go.RowKit
/-- the digits of k ahead of l -/
def dgs : Nat → Nat → List UInt8 → List UInt8
  | 0, _, l => l
  | q + 1, k, l => if k = 0 then l else dgs q (k / 10) (UInt8.ofNat (48 + k % 10) :: l)
theorem dgs_eq : ∀ (q q' k : Nat) (l : List UInt8), k ≤ q → k ≤ q' → dgs q k l = dgs q' k l := by
  intro q
  induction q with
  | zero =>
    intro q' k l h1 h2
    have : k = 0 := by omega
    subst this
    cases q' with
    | zero => rfl
    | succ q' => unfold dgs; rw [if_pos rfl]
  | succ q ih =>
    intro q' k l h1 h2
    cases q' with
    | zero =>
      have : k = 0 := by omega
      subst this
      unfold dgs; rw [if_pos rfl]
    | succ q' =>
      unfold dgs
      by_cases e : k = 0
      · rw [if_pos e, if_pos e]
      · rw [if_neg e, if_neg e]
        exact ih q' _ _ (by omega) (by omega)
theorem dgs_go {k : Nat} (l : List UInt8) (h : 0 < k) : dgs k k l = dgs (k / 10) (k / 10) (UInt8.ofNat (48 + k % 10) :: l) := by
  obtain ⟨q, rfl⟩ : ∃ q, k = q + 1 := ⟨k - 1, by omega⟩
  rw [dgs, if_neg (by omega)]
  exact dgs_eq _ _ _ _ (by omega) (Nat.le_refl _)
/-- the text of mark k -/
def mkT (k : Nat) : ByteArray := if k = 0 then ⟨#[109, 48]⟩ else ⟨#[109]⟩ ++ ⟨(dgs k k []).toArray⟩
set_option maxHeartbeats 2000000 in
theorem markText_any (k : Nat) (w : World) (hk : k ≤ 16777216) : Calls Tryd.prog 75 #[.int .i64 (k : Int)] w fun e w' => e = .returned (.string (mkT k)) ∧ Below w.heap.size w w' := by
  by_cases h0 : k = 0
  · subst h0
    go_enter Tryd.func75, Tryd.ntmps75
    go_wp2
    go_ret
    exact ⟨rfl, Below.refl _ _⟩
  have j0 : ¬ (k : Int) ≤ 0 := by omega
  have HR : Hid (mkT k = ⟨#[109]⟩ ++ ⟨(dgs k k []).toArray⟩) := by
    show mkT k = _
    unfold mkT; rw [if_neg h0]
  go_enter Tryd.func75, Tryd.ntmps75
  go_wp2
  go_loopw [0, 3] (fun u v wr => ∃ (K : Nat) (l : List UInt8), u = .int .i64 (K : Int) ∧ v = .string ⟨l.toArray⟩ ∧ l.length + K ≤ k ∧ Hid (dgs K K l = dgs k k []) ∧ Below w.heap.size w wr) (fun u _ _ => (intOf u).toNat)
  case atStart => exact ⟨k, [], rfl, rfl, by simp, (rfl : dgs k k [] = _), Below.refl _ _⟩
  case round =>
    obtain ⟨K, l, rfl, rfl, hl, HD, hB⟩ := hrel
    by_cases hK : 0 < K
    · have j1 : (0 : Int) < (K : Int) := by omega
      have HD2 : Hid (dgs (K / 10) (K / 10) (UInt8.ofNat (48 + K % 10) :: l) = dgs k k []) := (dgs_go l hK).symm.trans HD.out
      have hB2 := hB.alloc hB.size (.cells #[.int .u8 (48 + (K : Int) % 10)] 5)
      have hcv : (convert 22 9 (.slice (some ⟨wr.heap.size, 0, none⟩) 1 1)).run Tryd.prog (wr.alloc (.cells #[.int .u8 (48 + (K : Int) % 10)] 5)) = .ok (.string ⟨#[UInt8.ofNat (48 + K % 10)]⟩) (wr.alloc (.cells #[.int .u8 (48 + (K : Int) % 10)] 5)) := by
        have := run_convert_bytes_back (P := Tryd.prog) (wr.alloc (.cells #[.int .u8 (48 + (K : Int) % 10)] 5)) 22 9 5 ⟨wr.heap.size, 0, none⟩ 1 [UInt8.ofNat (48 + K % 10)] Tryd.underlying22 Tryd.underlying5 Tryd.underlying9 (fun j hj => by
          simp only [List.length_cons, List.length_nil] at hj
          have : j = 0 := by omega
          subst this
          rw [show (⟨wr.heap.size, 0, none⟩ : Addr).add 0 = ⟨wr.heap.size, 0, none⟩ from rfl]
          refine ((bx_new (w := wr) [.int .u8 (48 + (K : Int) % 10)] 5 rfl).c0).trans ?_
          have h9 : (UInt8.ofNat (48 + K % 10)).toNat = 48 + K % 10 := by
            rw [UInt8.toNat_ofNat']; omega
          simp only [List.getElem_cons_zero, h9]
          rfl)
        exact this
      have hsz : ¬ (1 + l.length > 9223372036854775807) := by omega
      generalize UInt8.ofNat (48 + K % 10) = D at hcv HD2
      clear HD
      go_wp2
      exact ⟨⟨K / 10, D :: l, by go_num, congrArg Value.string (ByteArray.mk_append_mk [D] l), by simp only [List.length_cons]; omega, HD2, hB2⟩, by simp [intOf]; omega⟩
    · have : K = 0 := by omega
      subst this
      have hl0 : l = dgs k k [] := HD.out
      have HR2 : Hid (mkT k = ⟨#[109]⟩ ++ ⟨l.toArray⟩) := by
        show mkT k = _
        rw [HR.out, hl0]
      clear HR HD hl0
      go_wp2
      go_ret
      exact ⟨by rw [HR2.out]; rfl, hB⟩
end Go.Proofs.YtmlfijapndkfhaaDoor
