/- A chart runs as its flat table does. Numbers alone. -/
import Derived.Test.YtjefakfongehdaaRChRfM
import Derived.Test.YtjefakfongehdaaRChFlM
import Derived.Test.YtjefakfongehdaaRChRunM
namespace Go.Proofs.YtjefakfongehdaaR
section
variable {n : Nat} {f : Nat → Int} {m : Nat} {g h : Nat → Int} {q : Nat}
theorem fl_rows (f : Nat → Int) : ∀ n, rowsB (flK f) n = true := by
  intro n
  induction n with
  | zero => rfl
  | succ n ih =>
    show (rowsB (flK f) n && rowB (flK f n)) = true
    rw [ih]
    unfold rowB flK
    split <;> rfl
theorem fl_run (hv : evsB q h = true) : ∀ k, k ≤ q → rfK (flR n f m g) h ((ent n f 0 : Nat) : Int) k = runF n f m g h k := by
  have hk6 : evsK h q = true := by unfold evsB at hv; simp only [Bool.and_eq_true, decide_eq_true_eq] at hv; exact hv.2
  intro k
  induction k with
  | zero => intro _; rfl
  | succ k ih =>
    intro hk
    have he := evsK_at hk6 k (by omega)
    have he2 : 0 ≤ h k ∧ h k < 6 := by unfold evtB at he; simpa using he
    show flR n f m g (rfK (flR n f m g) h ((ent n f 0 : Nat) : Int) k).toNat (h k).toNat = runF n f m g h (k + 1)
    rw [ih (by omega)]
    unfold flR runF
    rw [Int.toNat_natCast, show (((h k).toNat : Nat) : Int) = h k by omega]
    rfl
theorem fl_has (H : Gch n f m g) (k : Nat) : hasB n (flK f) (runF n f m g h k) = true := by
  have hl := H.run_leaf h k
  refine hasB_mk hl.1 ?_
  unfold flK
  rw [if_pos hl.2]
  omega
theorem fl_all (H : Gch n f m g) (hv : evsB q h = true) : rfA n (flK f) (flR n f m g) h ((ent n f 0 : Nat) : Int) q = true := by
  have key : ∀ k, k ≤ q → rfA n (flK f) (flR n f m g) h ((ent n f 0 : Nat) : Int) k = true := by
    intro k
    induction k with
    | zero => intro _; exact fl_has (h := h) H 0
    | succ k ih =>
      intro hk
      show (rfA n (flK f) (flR n f m g) h ((ent n f 0 : Nat) : Int) k && hasB n (flK f) (rfK (flR n f m g) h ((ent n f 0 : Nat) : Int) (k + 1))) = true
      rw [ih (by omega), fl_run hv (k + 1) hk, fl_has H]
      rfl
  exact key q (Nat.le_refl _)
/-- what FnChart rests on -/
theorem fl_same (ht : runQ n f m g q h = true) : gchB n f m g = true ∧ rfQ n (flK f) (flR n f m g) (enterV n f m g 0) q h = true ∧ ∀ i, i < q + 1 → rfK (flR n f m g) h (enterV n f m g 0) i = runF n f m g h i := by
  unfold runQ at ht
  simp only [Bool.and_eq_true] at ht
  have H := gchB_iff.1 ht.1
  have hn1 := H.n1
  have he : enterV n f m g 0 = ((ent n f 0 : Nat) : Int) := by unfold enterV; rw [if_pos ⟨ht.1, by omega, by omega⟩]; rfl
  rw [he]
  exact ⟨ht.1, rfQ_mk H.n12 (fl_rows f n) ht.2 (fl_all H ht.2), fun i hi => fl_run ht.2 i (by omega)⟩
end
end Go.Proofs.YtjefakfongehdaaR
