/- One of some texts, drawn. -/
import Derived.Test.YtoleblhidieheaaCurEs
namespace Go.Proofs.Ytoleblhidieheaa
open Go.RowKit
/-- a row of texts in one block -/
def TP (w : World) (b n : Nat) (f : Nat → ByteArray) : Prop := b < w.heap.size ∧ ∀ i, i < n → w.cell? ⟨b, i, none⟩ = some (.string (f i))
theorem TP.only {w w' : World} {b n C : Nat} {f : Nat → ByteArray} (h : TP w b n f) (o : Only C w w') (hn : b ≠ C) : TP w' b n f :=
  ⟨by rw [o.size]; exact h.1, fun i hi => (cell_same (o.block b hn) _).trans (h.2 i hi)⟩
theorem lit_tp (w : World) (xs : List ByteArray) (t : TypeId) : TP (w.alloc (.cells (xs.map Value.string).toArray t)) w.heap.size xs.length (fun i => xs[i]!) := by
  have hr := World.rowIs_alloc w (xs.map Value.string).toArray t (fun i => .string xs[i]!) (by
    intro i hi
    have hi' : i < xs.length := by simpa using hi
    simp [hi'])
  have hs : (xs.map Value.string).toArray.size = xs.length := by simp
  rw [hs] at hr
  exact ⟨hr.lt, fun _ hi => hr.cell hi⟩
set_option maxHeartbeats 1000000 in
theorem of_any (C : Nat) (a : Option Addr) (len cap n : Nat) (L k c : Nat) (F : Nat → ByteArray) (w : World) (h : Cur w C a len cap n) (hn : n ≤ 1000000) (hL : TP w L k F) (hne : L ≠ C) (hk : 1 ≤ k) (hk2 : k ≤ 1000) :
    Calls Try.prog 23 #[.pointer (some ⟨C, 0, none⟩), .slice (some ⟨L, 0, none⟩) k c] w fun e w' => ∃ (i n' : Nat), i < k ∧ e = .returned (.string (F i)) ∧ n' ≤ n + 2 ∧ Cur w' C a len cap n' ∧ Only C w w' := by
  go_enter Try.func23, Try.ntmps23
  go_wp2_with fail
  refine (pick_any C a len cap n (k : Int) w h hn).mono ?_
  rintro e w1 ⟨x, n', rfl, hx0, hx1, -, hn', h', hO⟩
  have hx2 := hx1 (by omega)
  obtain ⟨i, rfl⟩ := Int.eq_ofNat_of_zero_le hx0
  have hi : i < k := by omega
  have hc := (hL.only hO hne).2 i hi
  clear h hx1 hL
  go_wp2
  go_ret
  exact ⟨i, n', hi, rfl, hn', h', hO⟩
/-- some text that is not too long was drawn -/
def AnsN (w w' : World) (e : Ending) (C : Nat) (a : Option Addr) (len cap n : Nat) : Prop := ∃ (s : ByteArray) (n' : Nat), e = .returned (.string s) ∧ s.size ≤ 1000 ∧ n' ≤ n + 2 ∧ Cur w' C a len cap n' ∧ Turns C (C + 1) w w'
theorem list_small (l : List ByteArray) (h : l.all (fun s => decide (s.size ≤ 1000)) = true) {i : Nat} (hi : i < l.length) : (l[i]!).size ≤ 1000 := by
  have := List.all_eq_true.1 h l[i]! (by simp [hi])
  exact of_decide_eq_true this
theorem lit_of (C : Nat) (a : Option Addr) (len cap n : Nat) (w : World) (h : Cur w C a len cap n) (hn : n ≤ 1000000) (xs : List ByteArray) (h1 : 1 ≤ xs.length) (h2 : xs.length ≤ 1000) (ha : xs.all (fun s => decide (s.size ≤ 1000)) = true) :
    Calls Try.prog 23 #[.pointer (some ⟨C, 0, none⟩), .slice (some ⟨w.heap.size, 0, none⟩) xs.length xs.length] (w.alloc (.cells (xs.map Value.string).toArray 9)) fun e w' => AnsN w w' e C a len cap n := by
  have hC := h.lt
  refine (of_any C a len cap n w.heap.size xs.length xs.length (fun i => xs[i]!) (w.alloc (.cells (xs.map Value.string).toArray 9)) (h.below ((Below.refl _ _).alloc (Nat.le_refl _) _) hC) hn (lit_tp w xs 9) (by omega) h1 h2).mono ?_
  rintro e w' ⟨i, n', hi, rfl, hn', hc, hO⟩
  exact ⟨_, n', rfl, list_small xs ha hi, hn', hc, (turns_of ((Below.refl _ _).alloc (Nat.le_refl _) _)).trans (tn_only hO)⟩
end Go.Proofs.Ytoleblhidieheaa
