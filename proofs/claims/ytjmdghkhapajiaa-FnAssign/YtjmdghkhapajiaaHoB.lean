/- Whether it can be handed over. -/
import Derived.Test.YtjmdghkhapajiaaHoM
namespace Go.Proofs.Ytjmdghkhapajiaa
open Go.RowKit
/-- whether it can be handed over -/
def hoB (n q : Nat) (K : Nat → Nat) (F : Nat → Nat → Int) (g : Nat → Int) (go : Int) : Bool := gaB n q K F g && decide (0 ≤ go) && decide (go < (n : Int)) && decide (2 ≤ n)
theorem ll_c {w : World} {b o n : Nat} {A : Nat → Option Addr} {K C : Nat → Nat} {F : Nat → Nat → Int} (h : LL w (some ⟨b, o, none⟩) n A K C F) {i : Nat} (hi : i < n) : w.cell? ⟨b, o + i, none⟩ = some (.slice (A i) (K i) (C i)) := by
  obtain ⟨b2, o2, e, _, hc⟩ := h.out (by omega)
  injection e with e1
  injection e1 with e2 e3
  subst e2; subst e3
  exact hc i hi
end Go.Proofs.Ytjmdghkhapajiaa
